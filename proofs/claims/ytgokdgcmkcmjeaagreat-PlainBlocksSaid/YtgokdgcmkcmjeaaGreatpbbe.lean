/-
  Words and walks.
-/
import Derived.Test.YtgokdgcmkcmjeaaGreatpbad
import Derived.Test.YtgokdgcmkcmjeaaGreatpbbc
import Derived.Test.YtgokdgcmkcmjeaaGreatpbbd
set_option maxRecDepth 100000
set_option maxHeartbeats 16000000
namespace Go.Proofs.YtgokdgcmkcmjeaaGreat
open Go.RowKit
def hdK(g:Nat→Nat)(L:Nat)(s:Rz):Nat:=tkV g L 2 (tkS L 1 s)
def hdQ(L:Nat)(s:Rz):Rz:=tkS L 2 (tkS L 1 s)
def hdB(g:Nat→Nat)(L:Nat)(s:Rz):Bool:=((tkV g L 1 s:Nat):Int)==1
def hdL(g:Nat→Nat)(L:Nat)(s:Rz):Nat:=if hdK g L s=0 then sizV g L (hdQ L s)else 0
def hdS(g:Nat→Nat)(L:Nat)(s:Rz):Rz:=if hdK g L s=0 then sizS g L (hdQ L s)else if hdK g L s=1 then gwS fixB 32 15 (gwS fixA 288 15 (hdQ L s))else if hdK g L s=2 then dyS9 g L (hdQ L s)else keepS (hdQ L s) 130
def hdC1(g:Nat→Nat)(L:Nat)(s:Rz):Nat→Int:=if hdK g L s=1 then grC fixA 288 15 else if hdK g L s=2 then dyG1 g L (hdQ L s)else fun _=>0
def hdC2(g:Nat→Nat)(L:Nat)(s:Rz):Nat→Int:=if hdK g L s=1 then grC fixB 32 15 else if hdK g L s=2 then dyG2 g L (hdQ L s)else fun _=>0
def hdY1(g:Nat→Nat)(L:Nat)(s:Rz):List Int:=if hdK g L s=1 then grS fixA 288 15 else if hdK g L s=2 then dyY1 g L (hdQ L s)else[]
def hdY2(g:Nat→Nat)(L:Nat)(s:Rz):List Int:=if hdK g L s=1 then grS fixB 32 15 else if hdK g L s=2 then dyY2 g L (hdQ L s)else[]
theorem set_last(k:Nat)(b b':Bool)(l:Nat)(c1 c2:Nat→Int)(v1 v2:Value):(blkT k b l c1 c2 v1 v2).setIfInBounds 1 (.bool b')=blkT k b' l c1 c2 v1 v2:=by kernel_rfl
theorem set_kind(k k':Nat)(b:Bool)(l:Nat)(c1 c2:Nat→Int)(v1 v2:Value):(blkT k b l c1 c2 v1 v2).setIfInBounds 0 (.int .u8 (k':Int))=blkT k' b l c1 c2 v1 v2:=by kernel_rfl
theorem set_left(k:Nat)(b:Bool)(l l':Nat)(c1 c2:Nat→Int)(v1 v2:Value):(blkT k b l c1 c2 v1 v2).setIfInBounds 2 (.int .i64 (l':Int))=blkT k b l' c1 c2 v1 v2:=by kernel_rfl
theorem pfixed_any(w:World)(p:Nat)(A:Option Addr)(l c:Nat)(s:Rz)(h:Rdr w p A l c s):
  Calls Tryz.prog 54 #[.pointer (some ⟨p,0,none⟩)] w fun e w'=>∃u1 u2,e=.returned (.tuple #[.agg (trA (grC fixA 288 15) u1),.agg (trA (grC fixB 32 15) u2)])∧
   Rdr w' p A l c (gwS fixB 32 15 (gwS fixA 288 15 s))∧OwnS w' w.heap.size u1 (grS fixA 288 15)∧OwnS w' w.heap.size u2 (grS fixB 32 15)∧Fr (At p) w w':=
 pfixed_gen w p A l c s h fixA fixB (fun j=>by have:=fixA_le j;omega) (fun j=>by have:=fixB_le j;omega) (fun w=>(fixed_con w).mono fun e w' ⟨A1,c1,A2,c2,h1,h2,h3,_,h5⟩=>⟨A1,c1,A2,c2,h1,h2,h3,h5⟩)
theorem phead_any(w:World)(p:Nat)(A:Option Addr)(l c:Nat)(g:Nat→Nat)(s:Rz)(h:Rdr w p A l c s)(S:Nat→Prop)(hS:S p)(hSw:∀j,S j→j<w.heap.size)(hg:RdF S w A l g)(hl:l≤1000000)(hs:s.1≤8*l)(hlen:(dyR g l (hdQ l s)).2.2=0→(dyO g l (hdQ l s)).length=dyL g l (hdQ l s)+dyF g l (hdQ l s)):
  Calls Tryz.prog 25 #[.pointer (some ⟨p,0,none⟩)] w fun e w'=>∃u1 u2,e=.returned (.agg (blkT (hdK g l s) (hdB g l s) (hdL g l s) (hdC1 g l s) (hdC2 g l s) u1 u2))∧
   Rdr w' p A l c (hdS g l s)∧OwnS w' w.heap.size u1 (hdY1 g l s)∧OwnS w' w.heap.size u2 (hdY2 g l s)∧Fr (At p) w w':=by
 have hp:=h.lt
 obtain⟨k,hk⟩:∃k,k=w.heap.size:=⟨_,rfl⟩
 obtain⟨Z,hZ⟩:∃Z,Z=blkT 0 false 0 (fun _=>0) (fun _=>0) (.slice none 0 0) (.slice none 0 0):=⟨_,rfl⟩
 obtain⟨W1,hW1⟩:∃W1,W1=(w.alloc (.cells Z 28)).alloc (.cells Z 28):=⟨_,rfl⟩
 have hb1:Below k w W1:=by rw[hW1,hk];exact((Below.refl _ _).alloc (Nat.le_refl _) _).alloc (by simp) _
 have hs1:W1.heap.size=k+2:=by rw[hW1,hk];simp
 have z1:BoxC W1 k Z 28:=by rw[hW1,hk];exact(BoxC.new w _ _).old _
 have y1:BoxC W1 (k+1) Z 28:=by rw[hW1,hk];have:=BoxC.new (w.alloc (.cells Z 28)) Z 28;rwa[World.size_alloc]at this
 have HD1:=Lib.hid (BoxC.below h hb1 (by omega):Rdr W1 p A l c s)
 have HF1:=Lib.hid (Fr.of (S:=At p) (hk▸hb1))
 have hzb:∀u:World,(zeroValue 28).run Tryz.prog u=.ok (.agg Z) u:=by rw[hZ];exact(zero_of_info infoBlkT).1
 have HZS:Hid (Z.size=37):=Lib.hid (by rw[hZ];exact blkT_size ..)
 have HZE:=Lib.hid hZ
 have HW1:=Lib.hid hW1;have HK:=Lib.hid hk;have HS1:=Lib.hid hs1;have HZ1:=Lib.hid z1;have HY1:=Lib.hid y1
 have HP:Hid (p<k):=Lib.hid (by omega)
 have HSP:Hid (S p∧∀j,S j→j<k):=Lib.hid ⟨hS,by rw[hk];exact hSw⟩
 have HPS:Hid (∀j,At p j→S j):=Lib.hid fun j (e:j=p)=>e▸hS
 have HNA:Hid (¬At p k∧¬At p (k+1)):=Lib.hid ⟨by show¬k=p;omega,by show¬k+1=p;omega⟩
 have HG1:=Lib.hid (hg.fr (Fr.of (hk▸hb1)));have HG0:=Lib.hid hg
 have n1:hdK g l s=tkV g l 2 (tkS l 1 s):=rfl
 have n2:hdQ l s=tkS l 2 (tkS l 1 s):=rfl
 have n3:hdB g l s=(((tkV g l 1 s:Nat):Int)==1):=rfl
 have n4:hdL g l s=if hdK g l s=0 then sizV g l (hdQ l s)else 0:=rfl
 have n5:hdS g l s=if hdK g l s=0 then sizS g l (hdQ l s)else if hdK g l s=1 then gwS fixB 32 15 (gwS fixA 288 15 (hdQ l s))else if hdK g l s=2 then dyS9 g l (hdQ l s)else keepS (hdQ l s) 130:=rfl
 have n6:hdC1 g l s=if hdK g l s=1 then grC fixA 288 15 else if hdK g l s=2 then dyG1 g l (hdQ l s)else fun _=>0:=rfl
 have n7:hdC2 g l s=if hdK g l s=1 then grC fixB 32 15 else if hdK g l s=2 then dyG2 g l (hdQ l s)else fun _=>0:=rfl
 have n8:hdY1 g l s=if hdK g l s=1 then grS fixA 288 15 else if hdK g l s=2 then dyY1 g l (hdQ l s)else[]:=rfl
 have n9:hdY2 g l s=if hdK g l s=1 then grS fixB 32 15 else if hdK g l s=2 then dyY2 g l (hdQ l s)else[]:=rfl
 have i1:(tkS l 1 s).1≤8*l:=tkS_in hs
 have i2:(hdQ l s).1≤8*l:=tkS_in i1
 have b2:tkV g l 2 (tkS l 1 s)<4:=tkV_lt g l 2 _
 have b1:tkV g l 1 s<2:=tkV_lt g l 1 _
 obtain⟨sL,hsL⟩:∃x,x=hdL g l s:=⟨_,rfl⟩
 obtain⟨sS,hsS⟩:∃x,x=hdS g l s:=⟨_,rfl⟩
 obtain⟨C1,hC1⟩:∃x,x=hdC1 g l s:=⟨_,rfl⟩
 obtain⟨C2,hC2⟩:∃x,x=hdC2 g l s:=⟨_,rfl⟩
 obtain⟨E1,hE1⟩:∃x,x=hdY1 g l s:=⟨_,rfl⟩
 obtain⟨E2,hE2⟩:∃x,x=hdY2 g l s:=⟨_,rfl⟩
 rw[←hsL,←hsS,←hC1,←hC2,←hE1,←hE2]
 rw[←hsL]at n4;rw[←hsS]at n5;rw[←hC1]at n6;rw[←hC2]at n7;rw[←hE1]at n8;rw[←hE2]at n9
 obtain⟨lb,hlb⟩:∃x,x=hdB g l s:=⟨_,rfl⟩
 obtain⟨kd,hkd⟩:∃x,x=hdK g l s:=⟨_,rfl⟩
 rw[←hlb,←hkd]
 rw[←hlb]at n3
 rw[←hkd]at n1 n4 n5 n6 n7 n8 n9
 obtain⟨q2,hq2⟩:∃x,x=hdQ l s:=⟨_,rfl⟩
 rw[←hq2]at n2 n4 n5 n6 n7 n8 n9 i2 hlen
 obtain⟨q1,hq1⟩:∃x,x=tkS l 1 s:=⟨_,rfl⟩
 obtain⟨x1,hx1⟩:∃x,x=tkV g l 1 s:=⟨_,rfl⟩
 rw[←hq1]at n1 n2 i1 b2
 rw[←hx1]at n3 b1
 rw[←n1]at b2
 have HT1:=Lib.hid (ptake_lit W1 p A l c g s HD1.out HG1.out.1 hl hs 1 1 rfl (by omega))
 rw[←hx1,←hq1]at HT1
 have HT2:=Lib.hid fun V (r:Rdr V p A l c q1) (q:RdF S V A l g)=>ptake_lit V p A l c g q1 r q.1 hl i1 2 2 rfl (by omega)
 rw[←n1,←n2]at HT2
 have eb:((x1:Int)==1)=lb:=n3.symm
 have HLEN:=Lib.hid hlen
 have N4:=Lib.hid n4;have N5:=Lib.hid n5;have N6:=Lib.hid n6;have N7:=Lib.hid n7;have N8:=Lib.hid n8;have N9:=Lib.hid n9
 clear h hg hZ hW1 hk hb1 hs1 z1 y1 hp hS hSw n1 n2 n3 n4 n5 n6 n7 n8 n9 hlen hsL hsS hC1 hC2 hE1 hE2 hlb hkd hq2 hq1 hx1 hs i1
 go_enter Tryz.func25,Tryz.ntmps25
 go_wp2_with (first|(rw[←HW1.out,←HK.out])|fail)
 refine HT1.out.mono ?_
 rintro e w2 ⟨rfl,r2,f2⟩
 have y2:=HY1.out.fr f2 HNA.out.2
 have k1:=y2.free (i:=1)
 have k1':=y2.cell (i:=1)
 rw[show Z[1]?=some (.bool false) by rw[HZE.out];rfl]at k1'
 obtain⟨W3,hW3⟩:∃W,W=w2.setCell ⟨k+1,1,none⟩ (.bool lb):=⟨_,rfl⟩
 have y3:BoxC W3 (k+1) (blkT 0 lb 0 (fun _=>0) (fun _=>0) (.slice none 0 0) (.slice none 0 0)) 28:=by
  have:=y2.set 1 (.bool lb)
  rw[HZE.out,set_last]at this
  rw[hW3];exact this
 have ht3:Fr (At (k+1)) w2 W3:=by rw[hW3];exact Fr.cell _ _ _ _
 have hpk:¬At (k+1) p:=by have:=HP.out;show¬p=k+1;omega
 have HR3:=Lib.hid (r2.fr ht3 hpk)
 have HZ3:=Lib.hid ((HZ1.out.fr f2 HNA.out.1).fr ht3 (by show¬k=k+1;omega))
 have HF3:=Lib.hid ((HF1.out.trans f2).from ht3 fun j (e:j=k+1)=>.inr (by rw[←HK.out];omega))
 have HG3:=Lib.hid (HG0.out.fr (HF3.out.mono HPS.out))
 have HTB:=Lib.hid (HT2.out W3 HR3.out HG3.out)
 have HW3:=Lib.hid hW3;have HY3:=Lib.hid y3
 clear r2 f2 y2 hW3 y3 ht3 hpk HT1 HT2 HD1 HF1 HZ1 HY1 HG1
 go_wp2_with fail
 rw[←HW3.out]
 refine HTB.out.mono ?_
 rintro e w4 ⟨rfl,r4,f4⟩
 have y4:=HY3.out.fr f4 HNA.out.2
 have k2:=y4.free (i:=0)
 have k2':w4.cell? ⟨k+1,0,none⟩=some (.int .u8 0):=y4.cell (i:=0)
 obtain⟨W5,hW5⟩:∃W,W=w4.setCell ⟨k+1,0,none⟩ (.int .u8 (kd:Int)):=⟨_,rfl⟩
 obtain⟨X,hX⟩:∃X,X=blkT kd lb 0 (fun _=>0) (fun _=>0) (.slice none 0 0) (.slice none 0 0):=⟨_,rfl⟩
 have y5:BoxC W5 (k+1) X 28:=by
  have:=y4.set 0 (.int .u8 (kd:Int))
  rw[set_kind,←hX]at this
  rw[hW5];exact this
 have ht5:Fr (At (k+1)) w4 W5:=by rw[hW5];exact Fr.cell _ _ _ _
 have hpk:¬At (k+1) p:=by have:=HP.out;show¬p=k+1;omega
 have HR5:=Lib.hid (r4.fr ht5 hpk)
 have HZ5:=Lib.hid ((HZ3.out.fr f4 HNA.out.1).fr ht5 (by show¬k=k+1;omega))
 have HF5:=Lib.hid ((HF3.out.trans f4).from ht5 fun j (e:j=k+1)=>.inr (by rw[←HK.out];omega))
 have HG5:=Lib.hid (HG0.out.fr (HF5.out.mono HPS.out))
 have k3:W5.cell? ⟨k+1,0,none⟩=some (.int .u8 (kd:Int)):=by rw[y5.cell,hX];rfl
 have HXS:Hid (X.size=37):=Lib.hid (by rw[hX];exact blkT_size ..)
 have HW5:=Lib.hid hW5;have HY5:=Lib.hid y5;have HXE:=Lib.hid hX
 have hkd8:kd<256:=by omega
 clear r4 f4 y4 hW5 hX y5 ht5 hpk HTB HR3 HZ3 HF3 HG3 HY3 HW3
 have hks:k+2≤W5.heap.size:=HY5.out.lt
 have HKS:=Lib.hid hks
 have HFIN:Hid (∀(V:World) (Y:Array Value) (st:Rz) (u1 u2:Value),Rdr V p A l c st→BoxC V (k+1) Y 28→BoxC V k Z 28→Fr (At p) w V→Y=blkT kd lb sL C1 C2 u1 u2→st=sS→OwnS V k u1 E1→OwnS V k u2 E2→u1.oneCell'=true→u2.oneCell'=true→(∀j,u1.ownBlock=some j→j≠k)→(∀j,u2.ownBlock=some j→j≠k)→
   Y.size=37∧Y.all (·.oneCell')=true∧(∀fn:Func,fn.results=#[.cell 2 28]→∀tmps:Array Value,tmps.getD 2 undef=.pointer (some ⟨k,0,none⟩)→(results fn tmps).run Tryz.prog (V.setRow k Y)=.ok (.agg Y) (V.setRow k Y))∧
   (∃u1 u2,Ending.returned (.agg Y)=.returned (.agg (blkT kd lb sL C1 C2 u1 u2))∧Rdr (V.setRow k Y) p A l c sS∧OwnS (V.setRow k Y) w.heap.size u1 E1∧OwnS (V.setRow k Y) w.heap.size u2 E2∧Fr (At p) w (V.setRow k Y))):=Lib.hid (by
  intro V Y st u1 u2 hr hy hz hf hY hst o1 o2 v1 v2 n1 n2
  have hsz:Y.size=37:=by rw[hY];exact blkT_size ..
  refine⟨hsz,by rw[hY];exact blkT_one _ _ _ _ _ _ _ v1 v2,fun fn hfn tmps ht=>results_cell_row hfn _ _ k _ _ (0,0) _ ht (setRow_heap _ _ _ _ _ _ hz) Tryz.underlying28 rfl (szBlkT _ hsz),u1,u2,by rw[hY],?_,?_,?_,?_⟩
  ·rw[←hst];exact BoxC.rowO hr (by have:=HP.out;omega) _
  ·rw[←HK.out];exact own_blk o1 fun j hj=>setRow_other _ _ _ _ (n1 j hj)
  ·rw[←HK.out];exact own_blk o2 fun j hj=>setRow_other _ _ _ _ (n2 j hj)
  ·exact hf.from (Fr.row V k Y) fun j hj=>.inr (by rw[←HK.out];exact Nat.le_of_eq hj.symm))
 have hc4:kd=0∨kd=1∨kd=2∨kd=3:=by omega
 rcases hc4 with hc|hc|hc|hc
 ·subst hc
  have M4:=N4.out.trans (if_pos rfl);have M5:=N5.out.trans (if_pos rfl)
  have M6:=(N6.out.trans (if_neg (by omega))).trans (if_neg (by omega));have M7:=(N7.out.trans (if_neg (by omega))).trans (if_neg (by omega));have M8:=(N8.out.trans (if_neg (by omega))).trans (if_neg (by omega));have M9:=(N9.out.trans (if_neg (by omega))).trans (if_neg (by omega))
  have HSZ:=Lib.hid (psize_any W5 p A l c g q2 HR5.out S HSP.out.1 HG5.out hl i2)
  rw[←M4,←M5]at HSZ
  have HM:=Lib.hid (And.intro M6 (And.intro M7 (And.intro M8 M9)))
  clear M4 M5 M6 M7 M8 M9 N4 N5 N6 N7 N8 N9
  have HW5n:Hid (W5=w4.setCell ⟨k+1,0,none⟩ (.int .u8 0)):=Lib.hid HW5.out
  go_wp2_with fail
  rw[←HW5n.out]
  refine HSZ.out.mono ?_
  rintro e w6 ⟨rfl,r6,f6⟩
  have y6:=HY5.out.fr f6 HNA.out.2
  have k4:=y6.free (i:=2)
  have k4':w6.cell? ⟨k+1,2,none⟩=some (.int .i64 0):=by rw[y6.cell,HXE.out];rfl
  obtain⟨W7,hW7⟩:∃W,W=w6.setCell ⟨k+1,2,none⟩ (.int .i64 (sL:Int)):=⟨_,rfl⟩
  obtain⟨Y,hY⟩:∃X,X=blkT 0 lb sL (fun _=>0) (fun _=>0) (.slice none 0 0) (.slice none 0 0):=⟨_,rfl⟩
  have y7:BoxC W7 (k+1) Y 28:=by
   have:=y6.set 2 (.int .i64 (sL:Int))
   rw[HXE.out,set_left,←hY]at this
   rw[hW7];exact this
  have ht7:Fr (At (k+1)) w6 W7:=by rw[hW7];exact Fr.cell _ _ _ _
  have hpk:¬At (k+1) p:=by have:=HP.out;show¬p=k+1;omega
  have hz7:=(HZ5.out.fr f6 HNA.out.1).fr ht7 (by show¬k=k+1;omega)
  have hf7:=(HF5.out.trans f6).from ht7 fun j (e:j=k+1)=>.inr (by rw[←HK.out];omega)
  obtain⟨a1,a2,a3,a4⟩:=HFIN.out W7 Y sS (.slice none 0 0) (.slice none 0 0) (r6.fr ht7 hpk) y7 hz7 hf7 (by rw[hY,HM.out.1,HM.out.2.1]) rfl (by rw[HM.out.2.2.1];exact World.ownsRow_nil ..) (by rw[HM.out.2.2.2];exact World.ownsRow_nil ..) rfl rfl (fun j h=>by simp[Value.ownBlock]at h) (fun j h=>by simp[Value.ownBlock]at h)
  have H7:=Lib.hid y7;have Z7:=Lib.hid hz7;have A1:=Lib.hid a1;have A2:=Lib.hid a2;have A3:=Lib.hid a3;have A4:=Lib.hid a4;have HW7:=Lib.hid hW7
  clear r6 f6 y6 y7 ht7 hpk hz7 hf7 a1 a2 a3 a4 hW7 hY HSZ
  go_wp2_with (first
   |(rw[←HW7.out];refine wpList_load_row rfl _ _ rfl (k+1) rfl _ Y (0,0) _ H7.out Tryz.underlying28 rfl (szBlkT _ A1.out) ?_)
   |(refine wpList_store_rowTo rfl _ _ _ rfl rfl k Y rfl rfl 28 Z Z7.out (szBlkT _ A1.out) (by rw[HZS.out,A1.out]) A2.out ?_)
   |fail)
  exact bodyPost_ret (A3.out _ rfl _ rfl) rfl A4.out
 ·subst hc
  have M4:=N4.out.trans (if_neg (by omega))
  have M5:=(N5.out.trans (if_neg (by omega))).trans (if_pos rfl);have M6:=N6.out.trans (if_pos rfl);have M7:=N7.out.trans (if_pos rfl);have M8:=N8.out.trans (if_pos rfl);have M9:=N9.out.trans (if_pos rfl)
  have HCC:=Lib.hid (pfixed_any W5 p A l c q2 HR5.out)
  rw[←M5,←M6,←M7,←M8,←M9]at HCC
  have HM:=Lib.hid M4
  clear M4 M5 M6 M7 M8 M9 N4 N5 N6 N7 N8 N9
  have HW5n:Hid (W5=w4.setCell ⟨k+1,0,none⟩ (.int .u8 1)):=Lib.hid HW5.out
  go_wp2_with fail
  rw[←HW5n.out]
  refine HCC.out.mono ?_
  rintro e w6 ⟨u1,u2,rfl,r6,o1,o2,f6⟩
  have y6:=HY5.out.fr f6 HNA.out.2
  obtain⟨T1,hT1⟩:∃T,T=trA C1 u1:=⟨_,rfl⟩
  obtain⟨T2,hT2⟩:∃T,T=trA C2 u2:=⟨_,rfl⟩
  rw[←hT1,←hT2]
  obtain⟨W7,hW7⟩:∃W,W=w6.setCells (k+1) 3 T1.toList:=⟨_,rfl⟩
  obtain⟨W8,hW8⟩:∃W,W=W7.setCells (k+1) 20 T2.toList:=⟨_,rfl⟩
  obtain⟨Y,hY⟩:∃X,X=blkT 1 lb 0 C1 C2 u1 u2:=⟨_,rfl⟩
  have y7:BoxC W7 (k+1) (blkT 1 lb 0 C1 (fun _=>0) u1 (.slice none 0 0)) 28:=by
   have a:=y6.setCells T1.toList 3
   rw[hT1,show(trA C1 u1).toList=trL C1 u1 from rfl,HXE.out,set_longs]at a
   rw[hW7,hT1];exact a
  have y8:BoxC W8 (k+1) Y 28:=by
   have a:=y7.setCells T2.toList 20
   rw[hT2,show(trA C2 u2).toList=trL C2 u2 from rfl,set_fars,←hY]at a
   rw[hW8,hT2];exact a
  have ht8:Fr (At (k+1)) w6 W8:=by
   have h1:Below (k+1) w6 W8:=by rw[hW8,hW7];exact below_setCells (Nat.le_refl _) _ _ _ (below_setCells (Nat.le_refl _) _ _ _ (Below.refl _ _))
   exact⟨h1.os,h1.tape,h1.output,h1.size,fun j _ hj=>by rw[hW8,hW7];exact(setCells_other hj _ _ _).trans (setCells_other hj _ _ _)⟩
  have hpk:¬At (k+1) p:=by have:=HP.out;show¬p=k+1;omega
  have hz8:=(HZ5.out.fr f6 HNA.out.1).fr ht8 (by show¬k=k+1;omega)
  have hf8:=(HF5.out.trans f6).from ht8 fun j (e:j=k+1)=>.inr (by rw[←HK.out];omega)
  have hks:=HKS.out
  have hn1:∀j,u1.ownBlock=some j→k+2≤j:=fun j hj=>by have:=(own_blk_lt o1 j hj).1;omega
  have hn2:∀j,u2.ownBlock=some j→k+2≤j:=fun j hj=>by have:=(own_blk_lt o2 j hj).1;omega
  have v1:=o1.one
  have v2:=o2.one
  have p1:OwnS W8 k u1 E1:=ownsRow_lower (own_blk o1 fun j hj=>ht8.block j (own_blk_lt o1 j hj).2 (by have:=hn1 j hj;show¬j=k+1;omega)) (by omega)
  have p2:OwnS W8 k u2 E2:=ownsRow_lower (own_blk o2 fun j hj=>ht8.block j (own_blk_lt o2 j hj).2 (by have:=hn2 j hj;show¬j=k+1;omega)) (by omega)
  obtain⟨a1,a2,a3,a4⟩:=HFIN.out W8 Y sS u1 u2 (r6.fr ht8 hpk) y8 hz8 hf8 (by rw[hY,HM.out]) rfl p1 p2 v1 v2 (fun j h=>by have:=hn1 j h;omega) (fun j h=>by have:=hn2 j h;omega)
  have HTH1:Hid (w6.there (k+1) 3 T1.size):=Lib.hid (there_box y6 3 _ (by rw[hT1,trA_size,HXS.out];omega))
  have HTH2:Hid (W7.there (k+1) 20 T2.size):=Lib.hid (there_box y7 20 _ (by rw[hT2,trA_size,blkT_size];omega))
  have HS1T:Hid ((Tryz.prog.info? 26).map (·.size)=some T1.size):=Lib.hid (by rw[hT1,trA_size];exact szTree)
  have HS2T:Hid ((Tryz.prog.info? 26).map (·.size)=some T2.size):=Lib.hid (by rw[hT2,trA_size];exact szTree)
  have HO1T:Hid (T1.all (·.oneCell')=true):=Lib.hid (by rw[hT1];exact trA_one _ _ v1)
  have HO2T:Hid (T2.all (·.oneCell')=true):=Lib.hid (by rw[hT2];exact trA_one _ _ v2)
  have H8:=Lib.hid y8;have Z8:=Lib.hid hz8;have A1:=Lib.hid a1;have A2:=Lib.hid a2;have A3:=Lib.hid a3;have A4:=Lib.hid a4;have HW7:=Lib.hid hW7;have HW8:=Lib.hid hW8
  clear r6 f6 y6 y7 y8 ht8 hpk hz8 hf8 a1 a2 a3 a4 hW7 hW8 hY HCC hT1 hT2 o1 o2 hn1 hn2 v1 v2 p1 p2 hks
  go_wp2_with (first
   |(refine wpList_store_mid rfl _ _ _ rfl (k+1) 3 T1 rfl rfl HTH1.out HS1T.out HO1T.out ?_;rw[←HW7.out])
   |(refine wpList_store_mid rfl _ _ _ rfl (k+1) 20 T2 rfl rfl HTH2.out HS2T.out HO2T.out ?_;rw[←HW8.out])
   |(refine wpList_load_row rfl _ _ rfl (k+1) rfl _ Y (0,0) _ H8.out Tryz.underlying28 rfl (szBlkT _ A1.out) ?_)
   |(refine wpList_store_rowTo rfl _ _ _ rfl rfl k Y rfl rfl 28 Z Z8.out (szBlkT _ A1.out) (by rw[HZS.out,A1.out]) A2.out ?_)
   |fail)
  exact bodyPost_ret (A3.out _ rfl _ rfl) rfl A4.out
 ·subst hc
  have M4:=N4.out.trans (if_neg (by omega))
  have M5:=((N5.out.trans (if_neg (by omega))).trans (if_neg (by omega))).trans (if_pos rfl);have M6:=(N6.out.trans (if_neg (by omega))).trans (if_pos rfl);have M7:=(N7.out.trans (if_neg (by omega))).trans (if_pos rfl);have M8:=(N8.out.trans (if_neg (by omega))).trans (if_pos rfl);have M9:=(N9.out.trans (if_neg (by omega))).trans (if_pos rfl)
  have HCC:=Lib.hid (pdynamic_any W5 p A l c g q2 HR5.out S HSP.out.1 (fun j hj=>by have:=HSP.out.2 j hj;omega) HG5.out hl i2 HLEN.out)
  rw[←M5,←M6,←M7,←M8,←M9]at HCC
  have HM:=Lib.hid M4
  clear M4 M5 M6 M7 M8 M9 N4 N5 N6 N7 N8 N9
  have HW5n:Hid (W5=w4.setCell ⟨k+1,0,none⟩ (.int .u8 2)):=Lib.hid HW5.out
  go_wp2_with fail
  rw[←HW5n.out]
  refine HCC.out.mono ?_
  rintro e w6 ⟨u1,u2,rfl,r6,o1,o2,f6⟩
  have y6:=HY5.out.fr f6 HNA.out.2
  obtain⟨T1,hT1⟩:∃T,T=trA C1 u1:=⟨_,rfl⟩
  obtain⟨T2,hT2⟩:∃T,T=trA C2 u2:=⟨_,rfl⟩
  rw[←hT1,←hT2]
  obtain⟨W7,hW7⟩:∃W,W=w6.setCells (k+1) 3 T1.toList:=⟨_,rfl⟩
  obtain⟨W8,hW8⟩:∃W,W=W7.setCells (k+1) 20 T2.toList:=⟨_,rfl⟩
  obtain⟨Y,hY⟩:∃X,X=blkT 2 lb 0 C1 C2 u1 u2:=⟨_,rfl⟩
  have y7:BoxC W7 (k+1) (blkT 2 lb 0 C1 (fun _=>0) u1 (.slice none 0 0)) 28:=by
   have a:=y6.setCells T1.toList 3
   rw[hT1,show(trA C1 u1).toList=trL C1 u1 from rfl,HXE.out,set_longs]at a
   rw[hW7,hT1];exact a
  have y8:BoxC W8 (k+1) Y 28:=by
   have a:=y7.setCells T2.toList 20
   rw[hT2,show(trA C2 u2).toList=trL C2 u2 from rfl,set_fars,←hY]at a
   rw[hW8,hT2];exact a
  have ht8:Fr (At (k+1)) w6 W8:=by
   have h1:Below (k+1) w6 W8:=by rw[hW8,hW7];exact below_setCells (Nat.le_refl _) _ _ _ (below_setCells (Nat.le_refl _) _ _ _ (Below.refl _ _))
   exact⟨h1.os,h1.tape,h1.output,h1.size,fun j _ hj=>by rw[hW8,hW7];exact(setCells_other hj _ _ _).trans (setCells_other hj _ _ _)⟩
  have hpk:¬At (k+1) p:=by have:=HP.out;show¬p=k+1;omega
  have hz8:=(HZ5.out.fr f6 HNA.out.1).fr ht8 (by show¬k=k+1;omega)
  have hf8:=(HF5.out.trans f6).from ht8 fun j (e:j=k+1)=>.inr (by rw[←HK.out];omega)
  have hks:=HKS.out
  have hn1:∀j,u1.ownBlock=some j→k+2≤j:=fun j hj=>by have:=(own_blk_lt o1 j hj).1;omega
  have hn2:∀j,u2.ownBlock=some j→k+2≤j:=fun j hj=>by have:=(own_blk_lt o2 j hj).1;omega
  have v1:=o1.one
  have v2:=o2.one
  have p1:OwnS W8 k u1 E1:=ownsRow_lower (own_blk o1 fun j hj=>ht8.block j (own_blk_lt o1 j hj).2 (by have:=hn1 j hj;show¬j=k+1;omega)) (by omega)
  have p2:OwnS W8 k u2 E2:=ownsRow_lower (own_blk o2 fun j hj=>ht8.block j (own_blk_lt o2 j hj).2 (by have:=hn2 j hj;show¬j=k+1;omega)) (by omega)
  obtain⟨a1,a2,a3,a4⟩:=HFIN.out W8 Y sS u1 u2 (r6.fr ht8 hpk) y8 hz8 hf8 (by rw[hY,HM.out]) rfl p1 p2 v1 v2 (fun j h=>by have:=hn1 j h;omega) (fun j h=>by have:=hn2 j h;omega)
  have HTH1:Hid (w6.there (k+1) 3 T1.size):=Lib.hid (there_box y6 3 _ (by rw[hT1,trA_size,HXS.out];omega))
  have HTH2:Hid (W7.there (k+1) 20 T2.size):=Lib.hid (there_box y7 20 _ (by rw[hT2,trA_size,blkT_size];omega))
  have HS1T:Hid ((Tryz.prog.info? 26).map (·.size)=some T1.size):=Lib.hid (by rw[hT1,trA_size];exact szTree)
  have HS2T:Hid ((Tryz.prog.info? 26).map (·.size)=some T2.size):=Lib.hid (by rw[hT2,trA_size];exact szTree)
  have HO1T:Hid (T1.all (·.oneCell')=true):=Lib.hid (by rw[hT1];exact trA_one _ _ v1)
  have HO2T:Hid (T2.all (·.oneCell')=true):=Lib.hid (by rw[hT2];exact trA_one _ _ v2)
  have H8:=Lib.hid y8;have Z8:=Lib.hid hz8;have A1:=Lib.hid a1;have A2:=Lib.hid a2;have A3:=Lib.hid a3;have A4:=Lib.hid a4;have HW7:=Lib.hid hW7;have HW8:=Lib.hid hW8
  clear r6 f6 y6 y7 y8 ht8 hpk hz8 hf8 a1 a2 a3 a4 hW7 hW8 hY HCC hT1 hT2 o1 o2 hn1 hn2 v1 v2 p1 p2 hks
  go_wp2_with (first
   |(refine wpList_store_mid rfl _ _ _ rfl (k+1) 3 T1 rfl rfl HTH1.out HS1T.out HO1T.out ?_;rw[←HW7.out])
   |(refine wpList_store_mid rfl _ _ _ rfl (k+1) 20 T2 rfl rfl HTH2.out HS2T.out HO2T.out ?_;rw[←HW8.out])
   |(refine wpList_load_row rfl _ _ rfl (k+1) rfl _ Y (0,0) _ H8.out Tryz.underlying28 rfl (szBlkT _ A1.out) ?_)
   |(refine wpList_store_rowTo rfl _ _ _ rfl rfl k Y rfl rfl 28 Z Z8.out (szBlkT _ A1.out) (by rw[HZS.out,A1.out]) A2.out ?_)
   |fail)
  exact bodyPost_ret (A3.out _ rfl _ rfl) rfl A4.out
 ·subst hc
  have M4:=N4.out.trans (if_neg (by omega));have M5:=((N5.out.trans (if_neg (by omega))).trans (if_neg (by omega))).trans (if_neg (by omega))
  have M6:=(N6.out.trans (if_neg (by omega))).trans (if_neg (by omega));have M7:=(N7.out.trans (if_neg (by omega))).trans (if_neg (by omega));have M8:=(N8.out.trans (if_neg (by omega))).trans (if_neg (by omega));have M9:=(N9.out.trans (if_neg (by omega))).trans (if_neg (by omega))
  have HSZ:=Lib.hid (pkeep_any W5 p A l c q2 HR5.out 130)
  rw[←M5]at HSZ
  have HM:=Lib.hid (And.intro M4 (And.intro M6 (And.intro M7 (And.intro M8 M9))))
  clear M4 M5 M6 M7 M8 M9 N4 N5 N6 N7 N8 N9
  have HW5n:Hid (W5=w4.setCell ⟨k+1,0,none⟩ (.int .u8 3)):=Lib.hid HW5.out
  go_wp2_with fail
  rw[←HW5n.out]
  refine HSZ.out.mono ?_
  rintro e w6 ⟨rfl,r6,f6⟩
  have y6:=HY5.out.fr f6 HNA.out.2
  have hz6:=HZ5.out.fr f6 HNA.out.1
  have hf6:=HF5.out.trans f6
  obtain⟨a1,a2,a3,a4⟩:=HFIN.out w6 X sS (.slice none 0 0) (.slice none 0 0) r6 y6 hz6 hf6 (by rw[HXE.out,HM.out.1,HM.out.2.1,HM.out.2.2.1]) rfl (by rw[HM.out.2.2.2.1];exact World.ownsRow_nil ..) (by rw[HM.out.2.2.2.2];exact World.ownsRow_nil ..) rfl rfl (fun j h=>by simp[Value.ownBlock]at h) (fun j h=>by simp[Value.ownBlock]at h)
  have H7:=Lib.hid y6;have Z7:=Lib.hid hz6;have A1:=Lib.hid a1;have A2:=Lib.hid a2;have A3:=Lib.hid a3;have A4:=Lib.hid a4
  clear r6 f6 y6 hz6 hf6 a1 a2 a3 a4 HSZ
  go_wp2_with (first
   |(refine wpList_load_row rfl _ _ rfl (k+1) rfl _ X (0,0) _ H7.out Tryz.underlying28 rfl (szBlkT _ A1.out) ?_)
   |(refine wpList_store_rowTo rfl _ _ _ rfl rfl k X rfl rfl 28 Z Z7.out (szBlkT _ A1.out) (by rw[HZS.out,A1.out]) A2.out ?_)
   |fail)
  exact bodyPost_ret (A3.out _ rfl _ rfl) rfl A4.out
end Go.Proofs.YtgokdgcmkcmjeaaGreat
namespace Go.Proofs.YtgokdgcmkcmjeaaGreat
open Go.RowKit
def RowT(w:World)(g n:Nat)(T:Nat→Nat)(t:TypeId):Prop:=w.heap[g]?=some (.cells (tblA (fun i=>((T i:Nat):Int)) n) t (0,0))
theorem RowT.lt{w:World}{g n:Nat}{T:Nat→Nat}{t:TypeId}(h:RowT w g n T t):g<w.heap.size:=(Array.getElem?_eq_some_iff.1 h).1
theorem RowT.cell{w:World}{g n:Nat}{T:Nat→Nat}{t:TypeId}(h:RowT w g n T t){i:Nat}(hi:i<n):w.cell? ⟨g,i,none⟩=some (.int .i64 ((T i:Nat):Int)):=by
 rw[cell_of_row w g i _ _ (0,0) h];exact tblA_get _ n i hi
theorem RowT.frozen{w:World}{g n:Nat}{T:Nat→Nat}{t:TypeId}(h:RowT w g n T t)(i:Nat):w.frozen? ⟨g,i,none⟩=false:=frozen_of_row w g i _ _ h
theorem RowT.below{w w':World}{g n B:Nat}{T:Nat→Nat}{t:TypeId}(h:RowT w g n T t)(hb:Below B w w')(hg:g<B):RowT w' g n T t:=(hb.block g hg).trans h
theorem RowT.drew{w:World}{g n:Nat}{T:Nat→Nat}{t:TypeId}(h:RowT w g n T t):RowT w.drew g n T t:=h
theorem RowT.set{w:World}{g n:Nat}{T T':Nat→Nat}{t:TypeId}(h:RowT w g n T t)(i x:Nat)(he:∀k,k<n→(if k=i then x else T k)=T' k):RowT (w.setCell ⟨g,i,none⟩ (.int .i64 (x:Int))) g n T' t:=by
 unfold RowT
 rw[heap_setCell_same w g i _ _ _ h,tbl_set]
 refine congrArg (fun a=>some (Obj.cells a t (0,0))) (tbl_ext fun k hk=>?_)
 rw[←he k hk]
 split<;>rfl
theorem RowT.rd{w:World}{g n:Nat}{T:Nat→Nat}{t:TypeId}(h:RowT w g n T t)(o m:Nat)(hm:o+m≤n):RdI w w.heap.size (some ⟨g,o,none⟩) (frqL (fun i=>T (o+i)) m):=by
 refine⟨by simp[intsL,frqL],fun _=>⟨g,o,rfl,h.lt,fun j u hu=>?_⟩⟩
 have hj:j<m:=by
  rcases Nat.lt_or_ge j m with k|k
  ·exact k
  ·rw[List.getElem?_eq_none (by simpa[intsL,frqL]using k)]at hu;cases hu
 rw[h.cell (show o+j<n by omega),←hu]
 simp[intsL,frqL,hj]
end Go.Proofs.YtgokdgcmkcmjeaaGreat
namespace Go.Proofs.YtgokdgcmkcmjeaaGreat
open Go.RowKit Go.ChangeShapes Go.WideShapes Go.ChangeAt Go.Joins
theorem len_ask{c:Nat→Nat}{n most:Nat}(h1:1≤most)(h2:most≤15)(hn:n≤320)(hn2:n≤2^most)(hc:∀i,c i≤1073741824):lenO (frqL c n) (most:Int)=n∧outL (frqL c n) (most:Int)=lenM c n most:=by
 refine⟨?_,rfl⟩
 unfold lenO
 rw[if_pos (ask_frq h1 h2 hn hn2 hc),frqL_length]
theorem shortest_any(w:World)(A:Option Addr)(m c:Nat)(l:List (Int×Int))(hm:m=l.length)(hr:RdU w w.heap.size A l)(hm2:m≤1000000)(hs:∀r∈l,0≤r.1∧r.1≤18):
  Calls Tryz.prog 127 #[.slice A m c] w fun e w'=>∃A' c',e=.returned (.slice A' 19 c')∧RdB w' w'.heap.size A' 19 (lenM (cntR l) 19 7)∧19≤c'∧c'≤1000∧(A'=none→c'=0)∧(∀b o,A'=some ⟨b,o,none⟩→w.heap.size≤b)∧Below w.heap.size w w':=by
 have hz:=(zero_of_info infoOrd).1
 obtain⟨Z,hZ⟩:∃Z:Nat→Int,Z=fun _=>0:=⟨_,rfl⟩
 rw[←hZ]at hz
 obtain⟨h,hh⟩:∃h,h=w.heap.size:=⟨_,rfl⟩
 obtain⟨W1,hW1⟩:∃W,W=w.alloc (.cells (tblA Z 19) 213):=⟨_,rfl⟩
 have hb1:Below h w W1:=by rw[hW1,hh];exact(Below.refl _ _).alloc (Nat.le_refl _) _
 have hr1:RowT W1 h 19 (cntR (l.take 0)) 213:=by
  unfold RowT
  rw[hW1,hh,heap_alloc_new,hZ]
  refine congrArg (fun a=>some (Obj.cells a 213 (0,0))) (tbl_ext fun k hk=>?_)
  simp[cntR]
 have HM:=Lib.hid hm;have HR:=Lib.hid hr;have HS:=Lib.hid hs;have HB1:=Lib.hid hb1;have HR1:=Lib.hid hr1;have HW1:=Lib.hid hW1;have HH:=Lib.hid hh
 clear hm hr hs hb1 hr1 hW1 hh hZ
 go_enter Tryz.func127,Tryz.ntmps127
 go_wp2_with (first|rw[←HW1.out,←HH.out]|fail)
 go_loopw [10] (fun iv wr=>∃i:Nat,i≤m∧iv=.int .i64 (i:Int)∧Hid (RowT wr h 19 (cntR (l.take i)) 213)∧Hid (Below h w wr)) (fun iv _=>m-(intOf iv).toNat)
 case atStart=>exact⟨0,Nat.zero_le _,rfl,HR1,HB1⟩
 case round=>
  obtain⟨i,hi,rfl,HRW,HB⟩:=hrel
  have hle:w.heap.size=h:=HH.out.symm
  by_cases hlt:i<m
  ·have hlti:(i:Int)<(m:Int):=by omega
   have hil:i<l.length:=by rw[←HM.out];exact hlt
   have htw:RdU wr h A l:=by have:=HR.out;rw[hle]at this;exact this.below HB.out (Nat.le_refl _)
   obtain⟨b,o,rfl,hbl,hc⟩:=htw.at hil
   have hrg:=htw.range rfl hil
   obtain⟨s0,s18⟩:=HS.out _ (run_mem hil)
   have htk:=runs_take hil
   obtain⟨⟨s,x⟩,ht⟩:∃t,t=l.getD i run0:=⟨_,rfl⟩
   rw[←ht]at hrg s0 s18 htk
   dsimp only at s0 s18
   obtain⟨q,rfl⟩:=Int.eq_ofNat_of_zero_le s0
   obtain⟨W3,hW3⟩:∃W3,W3=mkV wr #[.int .i64 0,.int .i64 0] #[.int .i64 (q:Int),.int .i64 x] 208:=⟨_,rfl⟩
   have hb3:Below wr.heap.size wr W3:=by rw[hW3];exact mkV_below _ _ _ _
   have hrow:W3.heap[wr.heap.size]?=some (.cells #[.int .i64 (q:Int),.int .i64 x] 208 (0,0)):=by rw[hW3];exact mkV_row wr _ _ _
   have y0:W3.cell? ⟨wr.heap.size,0,none⟩=some (.int .i64 (q:Int)):=(cell_of_row W3 _ 0 _ _ (0,0) hrow).trans rfl
   have hr3:=HRW.out.below hb3 HRW.out.lt
   have hq19:q<19:=by omega
   have hql:(q:Int)<19:=by omega
   have k1:=hr3.cell hq19
   have z1:=hr3.frozen q
   have hcl:=cntR_le (l.take i) q
   have htl:(l.take i).length≤1000000:=by rw[List.length_take];have:=HM.out;omega
   obtain⟨C,hC⟩:∃C,C=cntR (l.take i) q:=⟨_,rfl⟩
   have hset:=hr3.set (T':=cntR (l.take (i+1))) q (C+1) (fun k _=>by
    rw[htk,cntR_one,hC]
    by_cases hk:k=q
    ·subst hk;rw[if_pos rfl,if_pos rfl]
    ·rw[if_neg hk,if_neg (by dsimp only;omega)];omega)
   rw[←hC]at k1 hcl
   have HRG:=Lib.hid (show wr.rangeAt b (o+i*2) [.int .i64 (q:Int),.int .i64 x]from hrg)
   have HSET:=Lib.hid hset;have HB3:=Lib.hid (HB.out.trans (hb3.mono (by have:=HRW.out.lt;omega)));have HW3:=Lib.hid hW3
   have hC1:C≤1000000:=by omega
   have eC:((C+1:Nat):Int)=(C:Int)+1:=by omega
   rw[eC]at hset
   have HSET2:=Lib.hid hset
   have hgl:h<wr.heap.size:=HRW.out.lt
   clear hrg hset hb3 hrow hW3 htk ht hC hcl htl hr3 hc htw HSET
   go_wp2_with (first|refine wpList_load_mid rfl _ _ rfl b (o+i*2) rfl [.int .i64 (q:Int),.int .i64 x] _ HRG.out Tryz.underlying208 rfl szRun ?_|refine wpList_store_rowTo rfl _ _ _ rfl rfl wr.heap.size #[.int .i64 (q:Int),.int .i64 x] rfl rfl 208 #[.int .i64 0,.int .i64 0] (heap_alloc_new wr _) szRun rfl (by simp[Value.oneCell']) ?_;change wpList _ _ _ _ _ (mkV wr #[.int .i64 0,.int .i64 0] #[.int .i64 (q:Int),.int .i64 x] 208);rw[←HW3.out])
   go_roundw
   case rel=>exact⟨i+1,by omega,by go_num,HSET2,Lib.hid (HB3.out.setCell (Nat.le_refl _) _)⟩
   case measure=>simp[intOf];omega
  ·obtain rfl:i=m:=by omega
   have hlti:¬(i:Int)<(i:Int):=by omega
   have hrw:=HRW.out
   rw[HM.out,List.take_length]at hrw
   have hrd:=hrw.rd 0 19 (by omega)
   rw[show(fun i=>cntR l (0+i))=cntR l from funext fun i=>by rw[Nat.zero_add]]at hrd
   have hcb:∀j,cntR l j≤1000000:=fun j=>by have:=cntR_le l j;have:=HM.out;omega
   have hlr:=lengths_room wr (some ⟨h,0,none⟩) 19 (frqL (cntR l) 19) 7 hrd (fun h=>by cases h) (by rw[frqL_length];omega) (fun j hj=>by rw[frqL_length]at hj;rw[frqL_get _ hj];have:=hcb j;omega) (by omega) (by omega)
   obtain⟨e1,e2⟩:=len_ask (c:=cntR l) (n:=19) (most:=7) (by omega) (by omega) (by omega) (by decide) (fun j=>by have:=hcb j;omega)
   rw[show((7:Nat):Int)=7 from rfl]at e1 e2
   rw[frqL_length,e1,e2]at hlr
   have HLR:=Lib.hid hlr
   clear hlr e1 e2 hcb hrd hrw
   go_wp2_with fail
   refine HLR.out.mono ?_
   rintro e w3 ⟨A',c',rfl,hb3,hrd3,hc1,hc2,hc3,hc4⟩
   have HC4:=Lib.hid hc4
   have HRD3:=Lib.hid hrd3;have HC3:=Lib.hid hc3;have HB3:=Lib.hid (HB.out.trans (hb3.mono (by have:=HRW.out.lt;omega)))
   clear hrd3 hc3 hb3 hc4
   go_wp2
   go_ret
   exact⟨A',c',rfl,HRD3.out,hc1,hc2,HC3.out,fun b o e=>by have:=HC4.out b o e;have:=HB.out.size;omega,by rw[hle];exact HB3.out⟩
end Go.Proofs.YtgokdgcmkcmjeaaGreat
