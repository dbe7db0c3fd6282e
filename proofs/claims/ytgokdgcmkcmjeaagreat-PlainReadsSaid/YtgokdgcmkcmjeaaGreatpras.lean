/-
  Words and walks.
-/
import Derived.ShutString
import Derived.ChangeOld
import Derived.Deep.QuietTactic
import Derived.BigQuiet
import Derived.Lib.SmallJoins
import Derived.Test.YtgokdgcmkcmjeaaGreatpraa
import Derived.Test.YtgokdgcmkcmjeaaGreatprab
import Derived.Test.YtgokdgcmkcmjeaaGreatprad
import Derived.Test.YtgokdgcmkcmjeaaGreatprae
import Derived.Test.YtgokdgcmkcmjeaaGreatprai
import Derived.Test.YtgokdgcmkcmjeaaGreatpral
import Derived.Test.YtgokdgcmkcmjeaaGreatpram
import Derived.Test.YtgokdgcmkcmjeaaGreatprap
import Derived.Test.YtgokdgcmkcmjeaaGreatprar
set_option maxRecDepth 100000
set_option maxHeartbeats 16000000
namespace Go.Proofs.YtgokdgcmkcmjeaaGreat
theorem ext_eq{F F':Nat→Nat}{n:Nat}(e:∀j,j<n→F' j=F j):extF n F'=extF n F:=by
 funext j;unfold extF;split
 ·exact e j (by assumption)
 ·rfl
theorem read_congr{F F':Nat→Nat}{n:Nat}(hn:n≤320)(e:∀j,j<n→F' j=F j)(g:Nat→Nat)(L a:Nat):readR F' n g L a 17 0=readR F n g L a 17 0:=by
 rw[←ext_read hn,←ext_read (f:=F) hn,ext_eq e]
structure Codes (k:Blk13) (F:Nat→Nat) (n:Nat) (G:Nat→Nat) (m:Nat):Prop where
 kind:k.kind≠0
 left:k.left=0
 hn:k.n=n
 hm:k.m=m
 cF:checkE F n 15=0
 cG:checkE G m 15=0
 eF:∀j,j<n→k.F j=F j
 eG:∀j,j<m→k.G j=G j
end Go.Proofs.YtgokdgcmkcmjeaaGreat
namespace Go.Proofs.YtgokdgcmkcmjeaaGreat
open Go.RowKit
theorem OwnS.fr{S:Nat→Prop}{w w':World}{base:Nat}{v:Value}{s:List Int}(h:OwnS w base v s)(k:Fr S w w')(hS:∀j,S j→j<base):OwnS w' base v s:=
 own_blk h fun j hj=>k.block j (own_blk_lt h j hj).2 fun hs=>by have:=hS j hs;have:=(own_blk_lt h j hj).1;omega
theorem infoTree13:(Tryz.prog.info? 26).map (fun i=>(i.zero,i.size))=some (some (.agg (trA (fun _=>0) (.slice none 0 0))),17):=by kernel_rfl
theorem szTree17{Y:Array Value}(h:Y.size=17):(Tryz.prog.info? 26).map (·.size)=some Y.size:=by rw[h];exact szTree
theorem pgrow_any(w:World)(p:Nat)(A:Option Addr)(l c:Nat)(s:Rz)(h:Rdr w p A l c s)(B:Option Addr)(n cB:Nat)(f:Nat→Nat)(hB:RdB w w.heap.size B n f)(hn:n≤1000000)(most:Int):
  Calls Tryz.prog 95 #[.pointer (some ⟨p,0,none⟩),.slice B n cB,.int .i64 most] w fun e w'=>∃u,e=.returned (.agg (trA (grC f n most) u))∧Rdr w' p A l c (gwS f n most s)∧OwnS w' w.heap.size u (grS f n most)∧Fr (At p) w w':=by
 have hp:=h.lt
 obtain⟨Z,hZ⟩:∃Z,Z=trA (fun _=>0) (.slice none 0 0):=⟨_,rfl⟩
 obtain⟨k,hk⟩:∃k,k=w.heap.size:=⟨_,rfl⟩
 obtain⟨W1,hW1⟩:∃W1,W1=w.alloc (.cells Z 26):=⟨_,rfl⟩
 have hb1:Below k w W1:=by rw[hW1,hk];exact(Below.refl _ _).alloc (Nat.le_refl _) _
 have hs1:W1.heap.size=k+1:=by rw[hW1,hk];simp
 have z1:BoxC W1 k Z 26:=by rw[hW1,hk];exact BoxC.new w _ _
 have h1:Rdr W1 p A l c s:=BoxC.below h hb1 (by omega)
 have HC:=Lib.hid (tgrow_own W1 B n cB f most ((hB.below (hk▸hb1) (Nat.le_refl _)).more (by omega)) hn)
 have HZS:Hid (Z.size=17):=Lib.hid (by rw[hZ,trA_size])
 have hzb:∀u:World,(zeroValue 26).run Tryz.prog u=.ok (.agg Z) u:=by rw[hZ];exact(zero_of_info infoTree13).1
 have HG:Hid (gwS f n most s=wantS s (checkE f n most==0) 132):=Lib.hid rfl
 obtain⟨E,hE⟩:∃E,E=checkE f n most:=⟨_,rfl⟩
 rw[←hE]at HC HG
 have HW1:=Lib.hid hW1;have HK:=Lib.hid hk;have HB1:=Lib.hid hb1;have HS1:=Lib.hid hs1;have HZ1:=Lib.hid z1;have HR1:=Lib.hid h1;have HP:=Lib.hid hp
 clear h hB hZ hW1 hk hb1 hs1 z1 h1 hp hE
 go_enter Tryz.func95,Tryz.ntmps95
 go_wp2_with (first|(rw[←HW1.out,←HK.out])|fail)
 refine HC.out.mono ?_
 rintro e w2 ⟨u,rfl,o2,hb2⟩
 obtain⟨Y,hY⟩:∃Y,Y=trA (grC f n most) u:=⟨_,rfl⟩
 rw[←hY]
 have one:=o2.one
 have HYS:Hid (Y.size=17):=Lib.hid (by rw[hY,trA_size])
 have HYO:Hid (Y.all (·.oneCell')=true):=Lib.hid (by rw[hY];exact trA_one _ _ one)
 obtain⟨s2,hs2⟩:∃s,s=w2.heap.size:=⟨_,rfl⟩
 obtain⟨W3,hW3⟩:∃W,W=mkV w2 Z Y 26:=⟨_,rfl⟩
 have hb3:Below w2.heap.size w2 W3:=by rw[hW3];exact mkV_below _ _ _ _
 have y3:BoxC W3 s2 Y 26:=by rw[hW3,hs2];exact mkV_row w2 Z Y _
 have hsz:k+1≤w2.heap.size:=by have:=hb2.size;rw[HS1.out]at this;exact this
 have hb23:Below W1.heap.size W1 W3:=hb2.trans (hb3.mono hb2.size)
 have hr3:Rdr W3 p A l c s:=BoxC.below HR1.out hb23 (by rw[HS1.out];have:=HP.out;rw[←HK.out]at this;omega)
 have HZ3:Hid (BoxC W3 k Z 26):=Lib.hid (BoxC.below HZ1.out hb23 (by rw[HS1.out];omega))
 have HO3:Hid (OwnS W3 (k+1) u (grS f n most)):=Lib.hid (by rw[HS1.out]at o2;exact own_keepG o2 hb3)
 have HF3:Hid (Fr (At p) w W3):=Lib.hid ((Fr.of (HK.out▸HB1.out)).trans (Fr.of hb23))
 have HWA:=Lib.hid (pwant_any W3 p A l c s hr3 (E==0) 132)
 have HW3:=Lib.hid hW3;have HS2:=Lib.hid hs2;have HY3:=Lib.hid y3;have HYE:=Lib.hid hY;have HSZ:=Lib.hid hsz
 clear hY hs2 hW3 hb3 y3 hsz hb23 hr3 o2 hb2 one
 go_wp2_with (first
  |(refine wpList_store_rowTo rfl _ _ _ rfl rfl w2.heap.size Y rfl rfl 26 Z (heap_alloc_new w2 _) (szTree17 HYS.out) (by rw[HZS.out,HYS.out]) HYO.out ?_;change wpList _ _ _ _ _ (mkV w2 Z Y 26);rw[←HW3.out,←HS2.out])
  |fail)
 refine HWA.out.mono ?_
 rintro e w4 ⟨rfl,r4,f4⟩
 have hps:¬At p s2:=by show¬s2=p;have:=HSZ.out;have:=HS2.out;have:=HP.out;rw[←HK.out]at this;omega
 have hpk:¬At p k:=by show¬k=p;have:=HP.out;rw[←HK.out]at this;omega
 have HY4:=Lib.hid (HY3.out.fr f4 hps)
 have HZ4:=Lib.hid (HZ3.out.fr f4 hpk)
 have HO4:=Lib.hid (HO3.out.fr f4 (fun j (hj:j=p)=>by have:=HP.out;rw[←HK.out]at this;omega))
 have HR4:=Lib.hid r4;have HF4:=Lib.hid (HF3.out.trans f4)
 clear r4 f4 hps hpk
 go_wp2_with (first
  |(refine wpList_load_row rfl _ _ rfl s2 rfl _ Y (0,0) _ HY4.out Tryz.underlying26 rfl (szTree17 HYS.out) ?_)
  |(refine wpList_store_rowTo rfl _ _ _ rfl rfl k Y rfl rfl 26 Z HZ4.out (szTree17 HYS.out) (by rw[HZS.out,HYS.out]) HYO.out ?_)
  |fail)
 have hpk:p≠k:=by have:=HP.out;rw[←HK.out]at this;omega
 refine bodyPost_ret (v:=.agg Y) (results_cell_row rfl _ _ k _ _ (0,0) _ rfl (setRow_heap _ _ _ _ _ _ HZ4.out) Tryz.underlying26 rfl (szTree17 HYS.out)) rfl ⟨u,by rw[HYE.out],?_,?_,?_⟩
 ·rw[HG.out];exact BoxC.rowO HR4.out hpk _
 ·rw[←HK.out];exact ownsRow_lower (own_blk HO4.out fun j hj=>setRow_other _ _ _ _ (by have:=(own_blk_lt HO4.out j hj).1;omega)) (by omega)
 ·exact HF4.out.from (Fr.row w4 k Y) fun j hj=>.inr (by rw[←HK.out];exact Nat.le_of_eq hj.symm)
theorem infoRun13:(Tryz.prog.info? 208).map (fun i=>(i.zero,i.size))=some (some (.agg #[.int .i64 0,.int .i64 0]),2):=by kernel_rfl
theorem ptimes_any(w:World)(y x:Nat)(hy:y≤320)(hx:x≤1000):
  Calls Tryz.prog 138 #[.agg #[.int .i64 (y:Int),.int .i64 (x:Int)]] w fun e w'=>e=.returned (.int .i64 (timesR (y:Int) (x:Int):Int))∧Below w.heap.size w w':=by
 obtain⟨T,hT⟩:∃T:Nat,T=timesR (y:Int) (x:Int):=⟨_,rfl⟩
 rw[←hT]
 unfold timesR at hT
 by_cases e16:y=16
 ·subst e16
  rw[if_pos (.inl rfl)]at hT
  have e1:(3:Int)+(x:Int)=(T:Int):=by omega
  clear hT
  go_enter Tryz.func138,Tryz.ntmps138
  go_wp2
  go_ret
  exact⟨by first|rfl|go_num,(Below.refl _ _).alloc (Nat.le_refl _) _⟩
 by_cases e17:y=17
 ·subst e17
  rw[if_pos (.inr rfl)]at hT
  have e1:(3:Int)+(x:Int)=(T:Int):=by omega
  clear hT e16
  go_enter Tryz.func138,Tryz.ntmps138
  go_wp2
  go_ret
  exact⟨by first|rfl|go_num,(Below.refl _ _).alloc (Nat.le_refl _) _⟩
 rw[if_neg (by omega)]at hT
 by_cases e18:y=18
 ·subst e18
  rw[if_pos (show((18:Nat):Int)=18 from rfl)]at hT
  have e1:(11:Int)+(x:Int)=(T:Int):=by omega
  clear hT e16 e17
  go_enter Tryz.func138,Tryz.ntmps138
  go_wp2
  go_ret
  exact⟨by first|rfl|go_num,(Below.refl _ _).alloc (Nat.le_refl _) _⟩
 rw[if_neg (by omega)]at hT
 subst hT
 have q1:((y:Int)==16)=false:=beq_eq_false_iff_ne.2 (by omega)
 have q2:((y:Int)==17)=false:=beq_eq_false_iff_ne.2 (by omega)
 have q3:((y:Int)==18)=false:=beq_eq_false_iff_ne.2 (by omega)
 clear e16 e17 e18
 go_enter Tryz.func138,Tryz.ntmps138
 go_wp2
 go_ret
 exact⟨by first|rfl|go_num,(Below.refl _ _).alloc (Nat.le_refl _) _⟩
end Go.Proofs.YtgokdgcmkcmjeaaGreat
namespace Go.Proofs.YtgokdgcmkcmjeaaGreat
open Go.RowKit
theorem bitV_nat(y:Nat):bitV (y:Int)=((bitsR (y:Int):Nat):Int):=by
 unfold bitV
 split
 ·rfl
 ·unfold bitsR
  rw[if_neg (by omega),if_neg (by omega),if_neg (by omega)];rfl
theorem built_run13(y x:Int):Tryz.prog.built 208 [(0,.int .i64 y),(1,.int .i64 x)]=some #[.int .i64 y,.int .i64 x]:=by kernel_rfl
theorem szRun13{Y:Array Value}(h:Y.size=2):(Tryz.prog.info? 208).map (·.size)=some Y.size:=by rw[h];exact(zero_of_info infoRun13).2
theorem prun_any(w:World)(p:Nat)(A:Option Addr)(l c:Nat)(g:Nat→Nat)(s:Rz)(h:Rdr w p A l c s)(S:Nat→Prop)(hS:S p)(hg:RdF S w A l g)(hl:l≤1000000)(hs:s.1≤8*l)(F:Nat→Nat)(ct:Nat→Int)(u:Value)(hu:u.oneCell'=true)(ht:s.2=0→TrF S w F ct u):
  Calls Tryz.prog 137 #[.pointer (some ⟨p,0,none⟩),.agg (trA ct u)] w fun e w'=>e=.returned (.agg #[.int .i64 (ruY F g l s:Int),.int .i64 (ruX F g l s:Int)])∧Rdr w' p A l c (ruS F g l s)∧Fr (At p) w w':=by
 have hp:=h.lt
 obtain⟨k,hk⟩:∃k,k=w.heap.size:=⟨_,rfl⟩
 obtain⟨T,hT⟩:∃T,T=trA ct u:=⟨_,rfl⟩
 rw[←hT]
 obtain⟨W1,hW1⟩:∃W1,W1=(w.alloc (.cells T 26)).alloc (.cells #[.int .i64 0,.int .i64 0] 208):=⟨_,rfl⟩
 have hb1:Below k w W1:=by rw[hW1,hk];exact((Below.refl _ _).alloc (Nat.le_refl _) _).alloc (by simp) _
 have hs1:W1.heap.size=k+2:=by rw[hW1,hk];simp
 have t1:BoxC W1 k T 26:=by rw[hW1,hk];exact(BoxC.new w _ _).old _
 have z1:BoxC W1 (k+1) #[.int .i64 0,.int .i64 0] 208:=by rw[hW1,hk];have:=BoxC.new (w.alloc (.cells T 26)) #[.int .i64 0,.int .i64 0] 208;rwa[World.size_alloc]at this
 have fW:Fr S w W1:=Fr.of (hk▸hb1)
 have hTS:Hid (T.size=17):=Lib.hid (by rw[hT,trA_size])
 have HC:=psym_any W1 p A l c g s (BoxC.below h hb1 (by omega)) (hg.fr fW).1 hl hs S F ct u hu (fun e=>(ht e).fr fW)
 rw[←hT]at HC
 have hpk:¬At p k:=by show¬k=p;omega
 have hpk1:¬At p (k+1):=by show¬k+1=p;omega
 have hy:syV (readR F 320 g l s.1 17 0) s=ruY F g l s:=rfl
 have hss:syS (readR F 320 g l s.1 17 0) s=ruS1 F g l s:=rfl
 rw[hy,hss]at HC
 have hx:ruX F g l s=tkV g l (bitsR (ruY F g l s:Int)) (ruS1 F g l s):=rfl
 have hxs:ruS F g l s=tkS l (bitsR (ruY F g l s:Int)) (ruS1 F g l s):=rfl
 have hin:(ruS1 F g l s).1≤8*l:=syS_in hs
 have h7:=bitsR_le (ruY F g l s:Int)
 have HBV:bitV (ruY F g l s:Int)=_:=bitV_nat _
 obtain⟨y,hy2⟩:∃y,y=ruY F g l s:=⟨_,rfl⟩
 obtain⟨s1,hs12⟩:∃y,y=ruS1 F g l s:=⟨_,rfl⟩
 rw[←hy2,←hs12]at HC hx hxs
 rw[←hy2]at HBV h7⊢
 rw[←hs12]at hin
 rw[hx,hxs]
 obtain⟨n,hn⟩:∃n,n=bitsR (y:Int):=⟨_,rfl⟩
 rw[←hn]at HBV h7⊢
 have HB10:=Lib.hid fun V=>bits10_any V (y:Int)
 rw[HBV]at HB10
 obtain⟨bE,hbE⟩:∃b,b=bitE (y:Int):=⟨_,rfl⟩
 rw[←hbE]at HB10
 have HCC:=Lib.hid HC;have HW1:=Lib.hid hW1;have HK:=Lib.hid hk;have HT1:=Lib.hid t1;have HZ1:=Lib.hid z1;have HFW:=Lib.hid (Fr.of (S:=At p) (hk▸hb1));have HGF:=Lib.hid (hg.fr fW);have HS1:=Lib.hid hs1
 have HNA:Hid (¬At p k∧¬At p (k+1)):=Lib.hid ⟨hpk,hpk1⟩
 have HSP:Hid (∀j,At p j→S j):=Lib.hid fun j (e:j=p)=>e▸hS
 clear h hg hT hW1 hk hb1 hs1 t1 z1 fW HC hpk hpk1 hy hss hx hxs hy2 hs12 hn HBV hbE hp hu ht hS
 go_enter Tryz.func137,Tryz.ntmps137
 go_wp2_with (first
  |(rw[←HW1.out,←HK.out])
  |(refine wpList_load_row rfl _ _ rfl k rfl _ T (0,0) _ HT1.out Tryz.underlying26 rfl (szTree17 hTS.out) ?_)
  |fail)
 refine HCC.out.mono ?_
 rintro e w2 ⟨rfl,r2,f2⟩
 have HR2:=Lib.hid r2;have HF2:=Lib.hid (HFW.out.trans f2);have HZ2:=Lib.hid (HZ1.out.fr f2 HNA.out.2);have HG2:=Lib.hid (HGF.out.fr (f2.mono HSP.out));have HX2:=Lib.hid f2.size
 clear r2 f2
 go_wp2_with fail
 refine(HB10.out w2).mono ?_
 rintro e w3 ⟨rfl,hb3⟩
 have HR3:=Lib.hid (BoxC.below HR2.out hb3 HR2.out.lt:Rdr w3 p A l c s1);have HF3:=Lib.hid (HF2.out.on hb3);have HZ3:=Lib.hid (HZ2.out.below hb3 HZ2.out.lt);have HG3:=Lib.hid (HG2.out.fr (Fr.of hb3))
 have HTK:=Lib.hid (ptake_any w3 p A l c g s1 HR3.out HG3.out.1 hl hin n (by omega))
 clear hb3 HB10 HCC HR2 HG2 HZ2
 go_wp2_with fail
 refine HTK.out.mono ?_
 rintro e w4 ⟨rfl,r4,f4⟩
 obtain⟨x,hx⟩:∃x,x=tkV g l n s1:=⟨_,rfl⟩
 rw[←hx]
 have HR4:=Lib.hid r4;have HF4:=Lib.hid (HF3.out.trans f4);have HZ4:=Lib.hid (HZ3.out.fr f4 HNA.out.2)
 have HBU:Hid (Tryz.prog.built 208 [(0,.int .i64 (y:Int)),(1,.int .i64 (x:Int))]=some #[.int .i64 (y:Int),.int .i64 (x:Int)]):=Lib.hid (built_run13 _ _)
 obtain⟨Y,hY⟩:∃Y:Array Value,Y=#[.int .i64 (y:Int),.int .i64 (x:Int)]:=⟨_,rfl⟩
 rw[←hY]at HBU
 have HYE:=Lib.hid hY;have HXE:=Lib.hid hx
 have HYS:Hid (Y.size=2):=Lib.hid (by rw[hY];rfl)
 have HYO:Hid (Y.all (·.oneCell')=true):=Lib.hid (by rw[hY];simp[Value.oneCell'])
 clear r4 f4 HTK hx hY HZ3 HR3 HG3
 go_wp2_with (first
  |(refine wpList_buildTo rfl 208 #[(0,.tmp 16),(1,.tmp 19)] rfl (some 20) rfl Y ?_ ?_;focus(simpa[Act.eval]using HBU.out))
  |(refine wpList_store_rowTo rfl _ _ _ rfl rfl (k+1) Y rfl rfl 208 #[.int .i64 0,.int .i64 0] HZ4.out (szRun13 HYS.out) (by rw[HYS.out];rfl) HYO.out ?_)
  |fail)
 refine bodyPost_ret (v:=.agg Y) (results_cell_row rfl _ _ (k+1) _ _ (0,0) _ rfl (setRow_heap _ _ _ _ _ _ HZ4.out) Tryz.underlying208 rfl (szRun13 HYS.out)) rfl ⟨by rw[HYE.out,HXE.out],?_,?_⟩
 ·exact BoxC.rowO HR4.out (fun e=>HNA.out.2 e.symm) _
 ·exact HF4.out.from (Fr.row w4 (k+1) Y) fun j hj=>.inr (by rw[←HK.out];have:j=k+1:=hj;omega)
theorem al_int(a:Nat):((a:Int)+7)/8*8=(((a+7)/8*8:Nat):Int):=by omega
theorem psize_any(w:World)(p:Nat)(A:Option Addr)(l c:Nat)(g:Nat→Nat)(s:Rz)(h:Rdr w p A l c s)(S:Nat→Prop)(hS:S p)(hg:RdF S w A l g)(hl:l≤1000000)(hs:s.1≤8*l):
  Calls Tryz.prog 53 #[.pointer (some ⟨p,0,none⟩)] w fun e w'=>e=.returned (.int .i64 (sizV g l s:Int))∧Rdr w' p A l c (sizS g l s)∧Fr (At p) w w':=by
 have c1:=h.a
 have f1:=h.free 1
 have HSP:Hid (∀j,At p j→S j):=Lib.hid fun j (e:j=p)=>e▸hS
 have ha:=al_int s.1
 have hal:alS s=((s.1+7)/8*8,s.2):=rfl
 obtain⟨b,hb⟩:∃b,b=(s.1+7)/8*8:=⟨_,rfl⟩
 rw[←hb]at ha hal
 have hb8:b≤8*l:=by omega
 have hs8:s.1≤8000000:=by omega
 obtain⟨W1,hW1⟩:∃W,W=w.setCell ⟨p,1,none⟩ (.int .i64 (b:Int)):=⟨_,rfl⟩
 have r1:Rdr W1 p A l c (b,s.2):=by rw[hW1];exact h.setA b
 have HF1:Hid (Fr (At p) w W1):=Lib.hid (by rw[hW1];exact Fr.cell _ _ _ _)
 have HG1:=Lib.hid (hg.fr (HF1.out.mono HSP.out))
 have HT1:=Lib.hid (ptake_lit W1 p A l c g (b,s.2) r1 HG1.out.1 hl hb8 16 16 rfl (by omega))
 have hV:sizV g l s=tkV g l 16 (b,s.2):=by unfold sizV;rw[hal]
 have hSS:sizS g l s=wantS (tkS l 16 (tkS l 16 (b,s.2))) (decide ((tkV g l 16 (tkS l 16 (b,s.2)):Int)=65535-(tkV g l 16 (b,s.2):Int))) 131:=by unfold sizS;rw[hV,hal]
 rw[hV,hSS]
 obtain⟨x,hx⟩:∃x,x=tkV g l 16 (b,s.2):=⟨_,rfl⟩
 obtain⟨s2,hs2⟩:∃x,x=tkS l 16 (b,s.2):=⟨_,rfl⟩
 rw[←hx,←hs2]at HT1⊢
 have h2:s2.1≤8*l:=by rw[hs2];exact tkS_in hb8
 have hx2:x<65536:=by rw[hx];exact tkV_lt _ _ _ _
 obtain⟨y,hy⟩:∃x,x=tkV g l 16 s2:=⟨_,rfl⟩
 have hy2:y<65536:=by rw[hy];exact tkV_lt _ _ _ _
 rw[←hy]
 have HY:=Lib.hid hy;have HW1:=Lib.hid hW1
 obtain⟨a,e⟩:=s
 have c1':w.cell? ⟨p,1,none⟩=some (.int .i64 (a:Int)):=c1
 have ha':((a:Int)+7)/8*8=(b:Int):=ha
 have hs8':a≤8000000:=hs8
 clear h hg c1 ha hal hb hb8 hs8 r1 hV hSS hx hs2 hy hW1 hs hS
 go_enter Tryz.func53,Tryz.ntmps53
 go_wp2_with fail
 rw[←HW1.out]
 refine HT1.out.mono ?_
 rintro e w2 ⟨rfl,r2,f2⟩
 have HR2:=Lib.hid r2;have HF2:=Lib.hid (HF1.out.trans f2);have HG2:=Lib.hid (HG1.out.fr (f2.mono HSP.out))
 have HT2:=Lib.hid (ptake_lit w2 p A l c g s2 HR2.out HG2.out.1 hl h2 16 16 rfl (by omega))
 rw[←HY.out]at HT2
 clear r2 f2 HT1 HG1 HF1
 go_wp2_with fail
 refine HT2.out.mono ?_
 rintro e w3 ⟨rfl,r3,f3⟩
 have HW:=Lib.hid (pwant_any w3 p A l c _ r3 (decide ((y:Int)=65535-(x:Int))) 131)
 have HF3:=Lib.hid (HF2.out.trans f3)
 clear r3 f3 HT2 HG2 HF2 HR2
 go_wp2_with fail
 refine HW.out.mono ?_
 rintro e w4 ⟨rfl,r4,f4⟩
 have HR4:=Lib.hid r4;have HF4:=Lib.hid (HF3.out.trans f4)
 clear r4 f4 HW HF3
 go_wp2
 go_ret
 exact⟨rfl,HR4.out,HF4.out⟩
theorem cell_twoT{fn:Func}{p q:Tmp}(h:fn.results=#[.cell p 26,.cell q 26])(tmps:Array Value)(w:World)(g g2:Nat)(X Y:Array Value)(hX:X.size=17)(hY:Y.size=17)(hp:tmps.getD p undef=.pointer (some ⟨g,0,none⟩))(hq:tmps.getD q undef=.pointer (some ⟨g2,0,none⟩))
  (ht:BoxC w g X 26) (ht2:BoxC w g2 Y 26):
  (results fn tmps).run Tryz.prog w=.ok (.tuple #[.agg X,.agg Y]) w:=by
 have hp':tmps[p]?.getD undef=.pointer (some ⟨g,0,none⟩):=by simpa using hp
 have hq':tmps[q]?.getD undef=.pointer (some ⟨g2,0,none⟩):=by simpa using hq
 have hl:=run_loadVar_row (P:=Tryz.prog) w g 26 26 _ (0,0) _ ht Tryz.underlying26 rfl (szTree17 hX)
 have hl2:=run_loadVar_row (P:=Tryz.prog) w g2 26 26 _ (0,0) _ ht2 Tryz.underlying26 rfl (szTree17 hY)
 simp[results,h,hp',hq',asAddr,hl,hl2]
end Go.Proofs.YtgokdgcmkcmjeaaGreat
