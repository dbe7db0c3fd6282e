/-
  Words and walks.
-/
import Derived.Sort.QuietIn
import Derived.Lib.SliceRun
import Derived.Great.BuildSlice
import Derived.Laws.Tables
import Derived.Deep.DeepCutAuto
import Derived.Deep.RegionLaw
import Derived.Lib.AppendZeros
import Derived.Lib.SmallJoins
import Derived.Deep.QuietTactic
import Derived.BigQuiet
import Derived.Test.YtgokdgcmkcmjeaaGreatpraa
import Derived.Test.YtgokdgcmkcmjeaaGreatprab
import Derived.Test.YtgokdgcmkcmjeaaGreatprac
import Derived.Test.YtgokdgcmkcmjeaaGreatprad
import Derived.Test.YtgokdgcmkcmjeaaGreatprae
import Derived.Test.YtgokdgcmkcmjeaaGreatprai
import Derived.Test.YtgokdgcmkcmjeaaGreatpral
import Derived.Test.YtgokdgcmkcmjeaaGreatprap
import Derived.Test.YtgokdgcmkcmjeaaGreatpraq
import Derived.Test.YtgokdgcmkcmjeaaGreatprar
import Derived.Test.YtgokdgcmkcmjeaaGreatpras
import Derived.Test.YtgokdgcmkcmjeaaGreatprat
import Derived.Test.YtgokdgcmkcmjeaaGreatprax
import Derived.Test.YtgokdgcmkcmjeaaGreatpray
import Derived.Test.YtgokdgcmkcmjeaaGreatprba
import Derived.Test.YtgokdgcmkcmjeaaGreatprbb
import Derived.Test.YtgokdgcmkcmjeaaGreatprbc
set_option maxRecDepth 100000
set_option maxHeartbeats 16000000
namespace Go.Proofs.YtgokdgcmkcmjeaaGreat
open Go.RowKit
def ReadsB(k:Blk13)(kd:Nat)(last:Bool)(left:Int)(c1:Nat→Int)(s1:List Int)(c2:Nat→Int)(s2:List Int):Prop:=
 k.kind=kd∧k.last=last∧(k.left:Int)=left∧k.left≤65535∧k.n≤320∧k.m≤320∧(kd≠0→IsTree c1 s1 (extF k.n k.F)∧IsTree c2 s2 (extF k.m k.G))
def stpQ(g:Nat→Nat)(l:Nat)(a:Int)(r:Bool)(k:Blk13):Tok×Bool×Nat×Int:=
 if asked13 l a≠0 then(tokZ,false,0,asked13 l a)else if r=false then(tokZ,false,0,8)else nextR k g l a.toNat
theorem infoTokZ:(Tryz.prog.info? 36).map (fun i=>(i.zero,i.size))=some (some (.agg #[.int .u8 0,.int .i64 0,.int .i64 0]),3):=by kernel_rfl
theorem cell_tok4{fn:Func}{p u v x:Tmp}(h:fn.results=#[.cell p 36,.tmp u,.tmp v,.tmp x])(tmps:Array Value)(w:World)(g:Nat)(cs:Array Value)(hs:cs.size=3)(hp:tmps.getD p undef=.pointer (some ⟨g,0,none⟩))(ht:w.heap[g]?=some (.cells cs 36 (0,0))):
  (results fn tmps).run Tryz.prog w=.ok (.tuple #[.agg cs,tmps.getD u undef,tmps.getD v undef,tmps.getD x undef]) w:=by
 have hp':tmps[p]?.getD undef=.pointer (some ⟨g,0,none⟩):=by simpa using hp
 have hl:=run_loadVar_row (P:=Tryz.prog) w g 36 36 cs (0,0) _ ht Tryz.underlying36 rfl (by rw[hs];exact szTok)
 simp[results,h,hp',asAddr,hl]
theorem nxt_errD{n:Int}{y:Int×Nat×Int}(h:(nxtD n y).2.2.2≠0):nxtD n y=(tokZ,false,0,(nxtD n y).2.2.2):=by
 unfold nxtD at h⊢
 by_cases h1:y.2.2≠0
 ·rw[if_pos h1]
 ·rw[if_neg h1]at h;exact absurd rfl h
theorem nxt_errC{n:Int}{r:Nat×Nat×Int}{g:Nat→Nat}{L:Nat}(h:(nxtC n r g L).2.2.2≠0):nxtC n r g L=(tokZ,false,0,(nxtC n r g L).2.2.2):=by
 unfold nxtC at h⊢
 by_cases h1:r.2.2≠0
 ·rw[if_pos h1]
 ·rw[if_neg h1]at h⊢;exact nxt_errD h
theorem nxt_errB{k:Blk13}{x:Int×Nat×Int}{g:Nat→Nat}{L:Nat}(h:(nxtB k x g L).2.2.2≠0):nxtB k x g L=(tokZ,false,0,(nxtB k x g L).2.2.2):=by
 unfold nxtB at h⊢
 by_cases h1:x.2.2≠0
 ·rw[if_pos h1]
 ·rw[if_neg h1]at h⊢;exact nxt_errC h
theorem nxt_errA{k:Blk13}{r:Nat×Nat×Int}{g:Nat→Nat}{L:Nat}(h:(nxtA k r g L).2.2.2≠0):nxtA k r g L=(tokZ,false,0,(nxtA k r g L).2.2.2):=by
 unfold nxtA at h⊢
 by_cases h1:r.2.2≠0
 ·rw[if_pos h1]
 ·rw[if_neg h1]at h⊢
  by_cases h2:r.1<256
  ·rw[if_pos h2]at h;exact absurd rfl h
  ·rw[if_neg h2]at h⊢
   by_cases h3:r.1=256
   ·rw[if_pos h3]at h;exact absurd rfl h
   ·rw[if_neg h3]at h⊢;exact nxt_errB h
theorem nxt_err{k:Blk13}{g:Nat→Nat}{L a:Nat}(h:(nextR k g L a).2.2.2≠0):nextR k g L a=(tokZ,false,0,(nextR k g L a).2.2.2):=by
 unfold nextR at h⊢
 by_cases h0:k.kind=0
 ·rw[if_pos h0]at h⊢
  unfold nxtS at h⊢
  by_cases h1:k.left=0
  ·rw[if_pos h1]at h;exact absurd rfl h
  ·rw[if_neg h1]at h⊢
   by_cases h2:8*L<a+8
   ·rw[if_pos h2]
   ·rw[if_neg h2]at h;exact absurd rfl h
 ·rw[if_neg h0]at h⊢
  exact nxt_errA h
theorem riF_of{w:World}{v:Value}{s:List Int}{p:Nat}(h:RdS w p v s)(hp:p≤w.heap.size):RiF (At p) w v s:=by
 refine⟨h.more hp,fun A n c b o e h0 e2 hb=>?_⟩
 obtain⟨A',cap,e3,hr,_⟩:=h
 obtain⟨b',o',e4,hbb,_⟩:=hr.at h0
 rw[e3]at e;cases e
 rw[e4]at e2;cases e2
 have:b=p:=hb
 omega
theorem pstep13_any(w:World)(A:Option Addr)(l c:Nat)(g:Nat→Nat)(hg:RdB w w.heap.size A l g)(a:Int)(ha1: -9223372036854775808≤a)(ha2:a≤9223372036854775807)(hl:l≤1000000)
  (kd:Nat) (hkd:kd<256) (last:Bool) (left:Int) (c1 c2:Nat→Int) (v1 v2:Value) (s1 s2:List Int) (h1:RdS w w.heap.size v1 s1) (h2:RdS w w.heap.size v2 s2) (n1:s1.length≤1000000) (n2:s2.length≤1000000)
  (r:Bool) (hr:r=true↔MayI kd left c1 s1 c2 s2) (k:Blk13) (hk:r=true→ReadsB k kd last left c1 s1 c2 s2):
  Calls Tryz.prog 10 #[.agg (blkI kd last left c1 c2 v1 v2),.slice A l c,.int .i64 a] w fun e w'=>e=.returned (nxtV (stpQ g l a r k))∧Below w.heap.size w w':=by
 obtain⟨h,hh⟩:∃h,h=w.heap.size:=⟨_,rfl⟩
 obtain⟨X,hX⟩:∃X,X=blkI kd last left c1 c2 v1 v2:=⟨_,rfl⟩
 have hXS:X.size=37:=by rw[hX];exact blkI_size ..
 obtain⟨Z,hZ⟩:∃Z:Array Value,Z=#[.int .u8 0,.int .i64 0,.int .i64 0]:=⟨_,rfl⟩
 have hZS:Z.size=3:=by rw[hZ];rfl
 have hZO:Z.all (·.oneCell')=true:=by rw[hZ];exact oneTok _ _ _
 have hZB:Tryz.prog.built 36 []=some Z:=by rw[hZ];exact built_tok0
 obtain⟨W1,hW1⟩:∃W1,W1=(w.alloc (.cells X 28)).alloc (.cells Z 36):=⟨_,rfl⟩
 have hb1:Below h w W1:=by rw[hW1,hh];exact((Below.refl _ _).alloc (Nat.le_refl _) _).alloc (by simp) _
 have hsz1:W1.heap.size=h+2:=by rw[hW1,hh];simp
 have x1:BoxC W1 h X 28:=by rw[hW1,hh];exact(BoxC.new w _ _).old _
 have t1:BoxC W1 (h+1) Z 36:=by rw[hW1,hh];have:=BoxC.new (w.alloc (.cells X 28)) Z 36;rwa[World.size_alloc]at this
 obtain⟨q,hq⟩:∃q,q=asked13 l a:=⟨_,rfl⟩
 obtain⟨R,hR⟩:∃R,R=stpQ g l a r k:=⟨_,rfl⟩
 have hrr:=hR
 unfold stpQ at hrr
 rw[←hq]at hrr
 rw[←hR]
 have hask:=pwithin_any W1 A l c a ha1 ha2 hl
 rw[←hq]at hask
 have hchk:=pcheck13_any W1 kd last left c1 c2 v1 v2 s1 s2 ((h1.below (hh▸hb1) (Nat.le_refl _)).more (hh▸hb1.size)) ((h2.below (hh▸hb1) (Nat.le_refl _)).more (hh▸hb1.size)) n1 n2 r hr
 rw[←hX]at hchk⊢
 have hzt:∀u:World,(zeroValue 36).run Tryz.prog u=.ok (.agg Z) u:=by rw[hZ];exact(zero_of_info infoTokZ).1
 obtain⟨ZR,hZR⟩:∃Z,Z=rdrA none 0 0 (0,0):=⟨_,rfl⟩
 have hzr:∀u:World,(zeroValue 69).run Tryz.prog u=.ok (.agg ZR) u:=by rw[hZR];exact(zero_of_info infoRdr).1
 have HZRS:Hid (ZR.size=3):=Lib.hid (by rw[hZR];rfl)
 have HAS:=Lib.hid hask;have HCH:=Lib.hid hchk;have HG:=Lib.hid hg;have HX1:=Lib.hid x1;have HT1:=Lib.hid t1;have HB1:=Lib.hid hb1;have HH:=Lib.hid hh;have HW1:=Lib.hid hW1;have HS1:=Lib.hid hsz1;have HRR:=Lib.hid hrr;have HQ:=Lib.hid hq;have HZE:=Lib.hid hZ;have HXE:=Lib.hid hX
 have HXS:=Lib.hid hXS;have HZS:=Lib.hid hZS;have HZO:=Lib.hid hZO;have HZB:=Lib.hid hZB;have HV1:=Lib.hid h1;have HV2:=Lib.hid h2;have HK:=Lib.hid hk
 clear hask hchk hg x1 t1 hb1 hh hW1 hsz1 hrr hq hR hZ hZR hX hXS hZS hZO hZB h1 h2 hk hr
 by_cases q0:q=0
 ·have hl3:l≤131072:=by
   have:=HQ.out;rw[q0]at this;unfold asked13 at this
   split at this
   ·omega
   ·omega
  have ha:0≤a∧a≤8*(l:Int):=by
   have:=HQ.out;rw[q0]at this;unfold asked13 at this
   rw[if_neg (by omega)]at this
   split at this
   ·omega
   ·omega
  obtain⟨n,rfl⟩:=Int.eq_ofNat_of_zero_le ha.1
  have hn8:n≤8*l:=by omega
  subst q0
  rcases Bool.eq_false_or_eq_true r with hrt|hrf
  ·subst hrt
   have HRR2:Hid (R=nextR k g l n):=Lib.hid (by rw[HRR.out,if_neg (fun h=>h rfl),if_neg (by decide),Int.toNat_natCast])
   obtain⟨k1,k2,k3,k4,k5,k6,k7⟩:=HK.out rfl
   obtain⟨Y,hY⟩:∃Y,Y=rdrA A l c (n,0):=⟨_,rfl⟩
   have HYS:Hid (Y.size=3):=Lib.hid (by rw[hY];rfl)
   have HYO:Hid (Y.all (·.oneCell')=true):=Lib.hid (by rw[hY];simp[rdrA,Value.oneCell'])
   have HYB:Hid (Tryz.prog.built 69 [(0,.slice A l c),(1,.int .i64 (n:Int))]=some Y):=Lib.hid (by rw[hY];exact built_rdr13 A l c n)
   have HXK:Hid (X=blkT k.kind k.last k.left c1 c2 v1 v2):=Lib.hid (by rw[HXE.out,blkT_I,k1,k2,k3])
   have HKP:Hid (k.kind<256∧k.left≤65535∧k.n≤320∧k.m≤320∧(k.kind≠0→IsTree c1 s1 (extF k.n k.F)∧IsTree c2 s2 (extF k.m k.G))):=Lib.hid ⟨by rw[k1];exact hkd,k4,k5,k6,fun h=>k7 (k1▸h)⟩
   have HYE:=Lib.hid hY
   clear ha k1 k2 k3 k4 k5 k6 k7 hY HK HRR HXE
   go_enter Tryz.func10,Tryz.ntmps10
   go_wp2_with (first|(rw[←HW1.out,←HH.out])|fail)
   refine HAS.out.mono ?_
   rintro e w9 ⟨rfl,rfl⟩
   go_wp2_with (first
    |(refine wpList_load_row rfl _ _ rfl h rfl _ X (0,0) _ HX1.out Tryz.underlying28 rfl (szBlkT X HXS.out) ?_)
    |fail)
   refine HCH.out.mono ?_
   unfold chkI
   rw[if_pos rfl]
   rintro e w3 ⟨rfl,hb3⟩
   have hS3:=hb3.size
   have hX3:=HX1.out.below hb3 (by rw[HS1.out];omega)
   have hT3:=HT1.out.below hb3 (by rw[HS1.out];omega)
   obtain⟨p,hp⟩:∃p,p=w3.heap.size:=⟨_,rfl⟩
   have hpl:h+2≤p:=by rw[hp,←HS1.out];exact hS3
   obtain⟨W2,hW2⟩:∃W,W=mkV w3 ZR Y 69:=⟨_,rfl⟩
   have hb2:Below w3.heap.size w3 W2:=by rw[hW2];exact mkV_below _ _ _ _
   have y2:Rdr W2 p A l c (n,0):=by have:=mkV_row w3 ZR Y 69;rw[←hp,HYE.out]at this;rw[hW2,HYE.out];exact this
   have hsz2:W2.heap.size=p+1:=by rw[hW2,mkV_size,hp]
   have hB3:Below h w w3:=HB1.out.trans (hb3.mono (by rw[HS1.out];omega))
   have hB2:Below h w W2:=hB3.trans (hb2.mono (by omega))
   have hg2:RdF (At p) W2 A l g:=by
    refine⟨(HG.out.below (HH.out▸hB2) (Nat.le_refl _)).more (HH.out▸hB2.size),fun b o h0 e hb=>?_⟩
    obtain⟨b',o',e',hbb,_⟩:=HG.out.2 h0
    rw[e]at e';cases e'
    have:b=p:=hb
    have:=HH.out;omega
   have hv1:=riF_of (p:=p) ((HV1.out.below (HH.out▸hB2) (Nat.le_refl _)).more (show w.heap.size≤p by have:=HH.out;omega)) (by omega)
   have hv2:=riF_of (p:=p) ((HV2.out.below (HH.out▸hB2) (Nat.le_refl _)).more (show w.heap.size≤p by have:=HH.out;omega)) (by omega)
   obtain⟨kp1,kp2,kp3,kp4,kp5⟩:=HKP.out
   have hstp:=pstep_any W2 p A l c g (n,0) y2 (At p) rfl (fun j (e:j=p)=>by omega) hg2 (by omega) hn8 k kp1 kp2 kp3 kp4 c1 c2 v1 v2 HV1.out.one HV2.out.one (fun _ h0=>⟨⟨s1,hv1,(kp5 h0).1⟩,⟨s2,hv2,(kp5 h0).2⟩⟩)
   rw[←HXK.out]at hstp
   have HX2:=Lib.hid (hX3.below hb2 hX3.lt);have HT2:=Lib.hid (hT3.below hb2 hT3.lt)
   have HIS:=Lib.hid (stT_is (k:=k) (g:=g) (L:=l) (a:=n))
   obtain⟨⟨tk,en,sa,se⟩,hss⟩:∃s,s=stT k g l (n,0):=⟨_,rfl⟩
   rw[←hss]at hstp
   rw[←hss]at HIS
   have HST:=Lib.hid hstp;have HW2:=Lib.hid hW2;have HSZ2:=Lib.hid hsz2;have HP:=Lib.hid hp;have HBB:=Lib.hid hB2
   clear hb3 hX3 hT3 hp hb2 y2 hsz2 hB3 hB2 hg2 hv1 hv2 kp1 kp2 kp3 kp4 kp5 hstp hss hW2 hS3
   go_wp2_with (first
    |(refine wpList_buildTo rfl 69 #[(0,.tmp 26),(1,.tmp 27)] rfl (some 28) rfl Y ?_ ?_;focus(simpa[Act.eval]using HYB.out))
    |(refine wpList_store_rowTo rfl _ _ _ rfl rfl w3.heap.size Y rfl rfl 69 ZR (heap_alloc_new w3 _) (szRdr13 HYS.out) (by rw[HZRS.out,HYS.out]) HYO.out ?_;change wpList _ _ _ _ _ (mkV w3 ZR Y 69);rw[←HW2.out,←HP.out])
    |(refine wpList_load_row rfl _ _ rfl h rfl _ X (0,0) _ HX2.out Tryz.underlying28 rfl (szBlkT X HXS.out) ?_)
    |fail)
   refine HST.out.mono ?_
   rintro e w4 ⟨rfl,r4,f4⟩
   obtain⟨T,hT⟩:∃T,T=tkA3 tk:=⟨_,rfl⟩
   have HTS:Hid (T.size=3):=Lib.hid (by rw[hT];rfl)
   have HTO:Hid (T.all (·.oneCell')=true):=Lib.hid (by rw[hT];exact tkA3_one _)
   unfold stpV
   dsimp only
   rw[←hT]
   have hT4:=HT2.out.fr f4 (by show¬h+1=p;omega)
   obtain⟨W4,hW4⟩:∃W,W=w4.setRow (h+1) T:=⟨_,rfl⟩
   have x4:BoxC W4 (h+1) T 36:=by rw[hW4];exact hT4.row T
   have r5:Rdr W4 p A l c (sa,se):=by rw[hW4];exact BoxC.rowO r4 (by omega) T
   have f5:Fr (At (h+1)) w4 W4:=by rw[hW4];exact Fr.row w4 (h+1) T
   have hb4:Below h w W4:=HBB.out.trans ((f4.below (B:=h) (fun j (e:j=p)=>by omega) (by have:=HSZ2.out;omega)).trans (f5.below (B:=h) (fun j (e:j=h+1)=>by omega) (by have:=f4.size;have:=HSZ2.out;omega)))
   have k2:W4.cell? ⟨p,2,none⟩=some (.int .i64 se):=r5.e
   have HT4:=Lib.hid hT4;have HW4:=Lib.hid hW4;have HX4:=Lib.hid x4;have HR4:=Lib.hid r5;have HB4:=Lib.hid hb4;have HTE:=Lib.hid hT
   clear r4 f4 hT hT4 hW4 x4 r5 f5 hb4 HST
   by_cases he:se=0
   ·have hn0:(nextR k g l n).2.2.2=0:=by
     rcases Int.decEq (nextR k g l n).2.2.2 0 with h1|h1
     ·exfalso
      have:=HIS.out.2 h1
      exact h1 (this.symm.trans he)
     ·exact h1
    have hst:=HIS.out.1 hn0
    have hRe:R=(tk,en,sa,0):=by
     rw[HRR2.out]
     have e1:(nextR k g l n).1=tk:=congrArg (fun x=>x.1) hst.symm
     have e2:(nextR k g l n).2.1=en:=congrArg (fun x=>x.2.1) hst.symm
     have e3:(nextR k g l n).2.2.1=sa:=congrArg (fun x=>x.2.2.1) hst.symm
     rw[←e1,←e2,←e3,←hn0]
    have d0:(se==0)=true:=by rw[he];rfl
    have d1:(se !=0)=false:=by simp[bne,d0]
    have HRE:=Lib.hid hRe
    subst he
    clear hn0 hst hRe HIS
    go_wp2_with (first
     |(refine wpList_store_rowTo rfl _ _ _ rfl rfl (h+1) T rfl rfl 36 Z HT4.out (by rw[HTS.out];exact szTok) (by rw[HZS.out,HTS.out]) HTO.out ?_;rw[←HW4.out])
     |fail)
    have HX5:Hid (BoxC (W4.drew) (h+1) T 36):=Lib.hid HX4.out
    have HR5:Hid (Rdr (W4.drew) p A l c (sa,0)):=Lib.hid HR4.out
    have HR6:Hid (Rdr ((W4.drew).setRow (h+1) T) p A l c (sa,0)):=Lib.hid (BoxC.rowO HR5.out (by omega) T)
    have HX6:Hid (BoxC ((W4.drew).setRow (h+1) T) (h+1) T 36):=Lib.hid (HX5.out.row T)
    refine wp_region_twoK 4 (twT [fun v=>v=.agg T,fun v=>v=.bool en,fun v=>v=.pointer (some ⟨p,1,none⟩),fun v=>v=.int .i64 (sa:Int),fun v=>v=undef,fun v=>v=.bool en,fun v=>v=.int .i64 (sa:Int),fun v=>v=.int .i64 0]) ((W4.drew).setRow (h+1) T) (by kernel_rfl) (by kernel_rfl) ?_ ?_
    case refine_1=>
     refine TwAllK.cons (fun aa wv hw ha hS Kk Qq hK=>tw_val (k:=0) (s:=4) (by decide) (tab_free rfl) (.agg T) (by have e:=(show aa.eval (.tmp 6)=.pointer (some ⟨h+1,0,none⟩)from((ha 6 (by kernel_rfl)).trans rfl));have hx:BoxC wv (h+1) T 36:=by {rcases hw with hw|⟨hw,_,_⟩<;>first|(rw[hw];exact HX5.out)|(rw[hw];exact HX6.out)};have hl:=run_loadVar_row (P:=Tryz.prog) wv (h+1) 36 36 T (0,0) _ hx Tryz.underlying36 rfl (by rw[HTS.out];exact szTok);unfold execOp;simp only[e,Instr.loadAt,Instr.sureAddr,Sem.run_bind,Sem.run_pure,Result.andThen_ok,hl]) hK rfl) ?_
     refine TwAllK.cons (fun aa wv hw ha hS Kk Qq hK=>tw_val (k:=1) (s:=4) (by decide) (tab_free rfl) (.bool en) (by have e:=(show aa.eval (.tmp 7)=.bool en from((ha 7 (by kernel_rfl)).trans rfl));unfold execOp;simp only[e];rfl) hK rfl) ?_
     refine TwAllK.cons (fun aa wv hw ha hS Kk Qq hK=>tw_val (k:=2) (s:=4) (by decide) (tab_free rfl) (.pointer (some ⟨p,1,none⟩)) (by have e:=(show aa.eval (.tmp 12)=.pointer (some ⟨p,0,none⟩)from((ha 12 (by kernel_rfl)).trans rfl));unfold execOp;simp only[e];go_simp) hK rfl) ?_
     refine TwAllK.cons (fun aa wv hw ha hS Kk Qq hK=>tw_val (k:=3) (s:=4) (by decide) (tab_free rfl) (.int .i64 (sa:Int)) (by have e:=(show aa.eval (.tmp 42)=.pointer (some ⟨p,1,none⟩)from hS 2 42 (by kernel_rfl) rfl);have hc:wv.cell? ⟨p,1,none⟩=some (.int .i64 (sa:Int)):=by {rcases hw with hw|⟨hw,_,_⟩<;>first|(rw[hw];exact HR5.out.a)|(rw[hw];exact HR6.out.a)};unfold execOp;simp only[e];go_simp) hK rfl) ?_
     refine TwAllK.cons (fun aa wv hw ha hS Kk Qq hK=>tw_store (s:=4) (tab_free rfl) rfl (by have e1:=(show aa.eval (.tmp 6)=.pointer (some ⟨h+1,0,none⟩)from((ha 6 (by kernel_rfl)).trans rfl));have e2:=(show aa.eval (.tmp 40)=.agg T from hS 0 40 (by kernel_rfl) rfl);have hww:wv=W4.drew:=by {rcases hw with hw|⟨_,hw,_⟩<;>first|exact hw|exact absurd rfl hw};subst hww;have hst:=run_storeVar_row (P:=Tryz.prog) (W4.drew) (h+1) 36 36 T T HX5.out (by rw[HTS.out];exact szTok) (HTS.out.trans HTS.out.symm) HTO.out;unfold execOp;simp only[e1,e2,Instr.storeAt,Instr.sureAddr,Sem.run_bind,Sem.run_pure,Result.andThen_ok,hst]) hK rfl) ?_
     refine TwAllK.cons (fun aa wv hw ha hS Kk Qq hK=>tw_val (k:=5) (s:=4) (by decide) (tab_free rfl) (.bool en) (by have e:=(show aa.eval (.tmp 41)=.bool en from hS 1 41 (by kernel_rfl) rfl);unfold execOp;simp only[e];rfl) hK rfl) ?_
     refine TwAllK.cons (fun aa wv hw ha hS Kk Qq hK=>tw_val (k:=6) (s:=4) (by decide) (tab_free rfl) (.int .i64 (sa:Int)) (by have e:=(show aa.eval (.tmp 43)=.int .i64 (sa:Int)from hS 3 43 (by kernel_rfl) rfl);unfold execOp;simp only[e];rfl) hK rfl) ?_
     refine TwAllK.cons (fun aa wv hw ha hS Kk Qq hK=>tw_val (k:=7) (s:=4) (by decide) (tab_free rfl) (.int .i64 0) (by unfold execOp;rfl) hK rfl) ?_
     exact TwAllK.nil
    intro vals hv
    have e1:vals 7=.bool en:=hv 5 7 rfl
    have e2:vals 8=.int .i64 (sa:Int):=hv 6 8 rfl
    have e3:vals 9=.int .i64 0:=hv 7 9 rfl
    clear hv
    simp only[List.map_cons,List.map_nil,putL,Act.put,List.setIfInBounds_toArray,List.set_cons_zero,List.set_cons_succ,e1,e2,e3]
    clear e1 e2 e3
    go_wp2
    refine bodyPost_ret (v:=.tuple #[.agg T,.bool en,.int .i64 (sa:Int),.int .i64 0]) ((cell_tok4 rfl _ _ (h+1) T HTS.out rfl HX6.out).trans rfl) rfl ⟨by rw[HRE.out,HTE.out];rfl,?_⟩
    rw[←HH.out];exact below_rowC (Below.drew HB4.out) (by omega) _
   ·have hn0:(nextR k g l n).2.2.2=se:=by
     rcases Int.decEq (nextR k g l n).2.2.2 0 with h1|h1
     ·exact(HIS.out.2 h1).symm
     ·exfalso
      have:=congrArg (fun x=>x.2.2.2) (HIS.out.1 h1)
      exact he this
    have hRe:R=(tokZ,false,0,se):=by rw[HRR2.out,nxt_err (by rw[hn0];exact he),hn0]
    have d0:(se==0)=false:=beq_eq_false_iff_ne.2 he
    have d1:(se !=0)=true:=by simp[bne,d0]
    have HRE:=Lib.hid hRe
    clear hn0 hRe HIS he
    go_wp2_with (first
     |(refine wpList_store_rowTo rfl _ _ _ rfl rfl (h+1) T rfl rfl 36 Z HT4.out (by rw[HTS.out];exact szTok) (by rw[HZS.out,HTS.out]) HTO.out ?_;rw[←HW4.out])
     |fail)
    have HX5:Hid (BoxC (W4.drew) (h+1) T 36):=Lib.hid HX4.out
    have HR5:Hid (Rdr (W4.drew) p A l c (sa,se)):=Lib.hid HR4.out
    have HR6:Hid (Rdr ((W4.drew).setRow (h+1) Z) p A l c (sa,se)):=Lib.hid (BoxC.rowO HR5.out (by omega) Z)
    have HX6:Hid (BoxC ((W4.drew).setRow (h+1) Z) (h+1) Z 36):=Lib.hid (HX5.out.row Z)
    refine wp_region_two 3 (twT [fun v=>v=.agg Z,fun v=>v=.pointer (some ⟨p,2,none⟩),fun v=>v=.int .i64 se,fun v=>v=undef,fun v=>v=.bool false,fun v=>v=.int .i64 0,fun v=>v=.int .i64 se]) ((W4.drew).setRow (h+1) Z) (by kernel_rfl) (by kernel_rfl) ?_ ?_
    case refine_1=>
     refine TwAll.cons (fun aa wv hw ha hS Kk Qq hK=>tw_val (k:=0) (s:=3) (by decide) (tab_free rfl) (.agg Z) (by have hbz:=run_build (P:=Tryz.prog) wv 36 (#[]:Array (Nat×Value)) Z HZB.out;unfold execOp;simp only[List.map_toArray,List.map_nil,Sem.run_bind,hbz,Result.andThen_ok];rfl) hK rfl) ?_
     refine TwAll.cons (fun aa wv hw ha hS Kk Qq hK=>tw_val (k:=1) (s:=3) (by decide) (tab_free rfl) (.pointer (some ⟨p,2,none⟩)) (by have e:=(show aa.eval (.tmp 12)=.pointer (some ⟨p,0,none⟩)from((ha 12 (by kernel_rfl)).trans rfl));unfold execOp;simp only[e];go_simp) hK rfl) ?_
     refine TwAll.cons (fun aa wv hw ha hS Kk Qq hK=>tw_val (k:=2) (s:=3) (by decide) (tab_free rfl) (.int .i64 se) (by have e:=(show aa.eval (.tmp 38)=.pointer (some ⟨p,2,none⟩)from hS 1 38 (by kernel_rfl) rfl);have hc:wv.cell? ⟨p,2,none⟩=some (.int .i64 se):=by {rcases hw with hw|⟨hw,_,_⟩<;>first|(rw[hw];exact HR5.out.e)|(rw[hw];exact HR6.out.e)};unfold execOp;simp only[e];go_simp) hK rfl) ?_
     refine TwAll.cons (fun aa wv hw ha hS Kk Qq hK=>tw_store (s:=3) (tab_free rfl) rfl (by have e1:=(show aa.eval (.tmp 6)=.pointer (some ⟨h+1,0,none⟩)from((ha 6 (by kernel_rfl)).trans rfl));have e2:=(show aa.eval (.tmp 37)=.agg Z from hS 0 37 (by kernel_rfl) rfl);have hww:wv=W4.drew:=by {rcases hw with hw|⟨_,hw,_⟩<;>first|exact hw|exact absurd rfl hw};subst hww;have hst:=run_storeVar_row (P:=Tryz.prog) (W4.drew) (h+1) 36 36 T Z HX5.out (by rw[HZS.out];exact szTok) (HTS.out.trans HZS.out.symm) HZO.out;unfold execOp;simp only[e1,e2,Instr.storeAt,Instr.sureAddr,Sem.run_bind,Sem.run_pure,Result.andThen_ok,hst]) hK rfl) ?_
     refine TwAll.cons (fun aa wv hw ha hS Kk Qq hK=>tw_val (k:=4) (s:=3) (by decide) (tab_free rfl) (.bool false) (by unfold execOp;rfl) hK rfl) ?_
     refine TwAll.cons (fun aa wv hw ha hS Kk Qq hK=>tw_val (k:=5) (s:=3) (by decide) (tab_free rfl) (.int .i64 0) (by unfold execOp;rfl) hK rfl) ?_
     refine TwAll.cons (fun aa wv hw ha hS Kk Qq hK=>tw_val (k:=6) (s:=3) (by decide) (tab_free rfl) (.int .i64 se) (by have e:=(show aa.eval (.tmp 39)=.int .i64 se from hS 2 39 (by kernel_rfl) rfl);unfold execOp;simp only[e];rfl) hK rfl) ?_
     exact TwAll.nil
    intro vals hv
    have e1:vals 7=.bool false:=hv 4 7 rfl
    have e2:vals 8=.int .i64 0:=hv 5 8 rfl
    have e3:vals 9=.int .i64 se:=hv 6 9 rfl
    clear hv
    simp only[List.map_cons,List.map_nil,putL,Act.put,List.setIfInBounds_toArray,List.set_cons_zero,List.set_cons_succ,e1,e2,e3]
    clear e1 e2 e3
    go_wp2
    refine bodyPost_ret (v:=.tuple #[.agg Z,.bool false,.int .i64 0,.int .i64 se]) ((cell_tok4 rfl _ _ (h+1) Z HZS.out rfl HX6.out).trans rfl) rfl ⟨by rw[HRE.out,HZE.out];rfl,?_⟩
    rw[←HH.out];exact below_rowC (Below.drew HB4.out) (by omega) _
  ·subst hrf
   have HRE:Hid (R=(tokZ,false,0,8)):=Lib.hid (by rw[HRR.out,if_neg (fun h=>h rfl),if_pos rfl])
   clear ha HK HRR HXE
   go_enter Tryz.func10,Tryz.ntmps10
   go_wp2_with (first|(rw[←HW1.out,←HH.out])|fail)
   refine HAS.out.mono ?_
   rintro e w9 ⟨rfl,rfl⟩
   go_wp2_with (first
    |(refine wpList_load_row rfl _ _ rfl h rfl _ X (0,0) _ HX1.out Tryz.underlying28 rfl (szBlkT X HXS.out) ?_)
    |fail)
   refine HCH.out.mono ?_
   unfold chkI
   rw[if_neg (by decide)]
   rintro e w3 ⟨rfl,hb3⟩
   have HT3:=Lib.hid (HT1.out.below hb3 (by rw[HS1.out];omega))
   have HB3:=Lib.hid (HB1.out.trans (hb3.mono (by rw[HS1.out];omega)))
   have d8:((8:Int) !=0)=true:=rfl
   clear hb3
   go_wp2_with (first
    |(refine wpList_buildTo rfl 36 #[] rfl (some 24) rfl Z ?_ ?_;focus(simpa[Act.eval]using HZB.out))
    |(refine wpList_store_rowTo rfl _ _ _ rfl rfl (h+1) Z rfl rfl 36 Z HT3.out (by rw[HZS.out];exact szTok) rfl HZO.out ?_)
    |fail)
   refine bodyPost_ret ((cell_tok4 rfl _ _ (h+1) _ HZS.out rfl (setRow_heap _ _ _ _ _ _ HT3.out)).trans rfl) rfl ⟨by rw[HRE.out,HZE.out];rfl,?_⟩
   rw[←HH.out];exact below_rowC HB3.out (by omega) _
 have d0:(q==0)=false:=beq_eq_false_iff_ne.2 q0
 have d1:(q !=0)=true:=by simp[bne,d0]
 have HRE:Hid (R=(tokZ,false,0,q)):=Lib.hid (by rw[HRR.out,if_pos q0])
 clear HK HRR HXE
 go_enter Tryz.func10,Tryz.ntmps10
 go_wp2_with (first|(rw[←HW1.out,←HH.out])|fail)
 refine HAS.out.mono ?_
 rintro e w9 ⟨rfl,rfl⟩
 go_wp2_with (first
  |(refine wpList_buildTo rfl 36 #[] rfl (some 18) rfl Z ?_ ?_;focus(simpa[Act.eval]using HZB.out))
  |(refine wpList_store_rowTo rfl _ _ _ rfl rfl (h+1) Z rfl rfl 36 Z HT1.out (by rw[HZS.out];exact szTok) rfl HZO.out ?_)
  |fail)
 refine bodyPost_ret ((cell_tok4 rfl _ _ (h+1) _ HZS.out rfl (setRow_heap _ _ _ _ _ _ HT1.out)).trans rfl) rfl ⟨by rw[HRE.out,HZE.out];rfl,?_⟩
 rw[←HH.out];exact below_rowC HB1.out (by omega) _
end Go.Proofs.YtgokdgcmkcmjeaaGreat
namespace Go.Proofs.YtgokdgcmkcmjeaaGreat
open Go.RowKit
def BakK(k:Blk13)(kd:Nat)(last:Bool)(left:Int)(c1:Nat→Int)(s1:List Int)(c2:Nat→Int)(s2:List Int):Prop:=
 ∃lf:Nat,left=(lf:Int)∧(k=if kd=0 then⟨0,last,lf,nof13,0,nof13,0⟩else⟨kd,last,lf,k.F,320,k.G,320⟩)∧(kd≠0→IsTree c1 s1 k.F∧IsTree c2 s2 k.G)∧BlkIn k
theorem bakK_of{kd:Nat}{last:Bool}{left:Int}{c1:Nat→Int}{s1:List Int}{c2:Nat→Int}{s2:List Int}(h:MayI kd left c1 s1 c2 s2):∃k,BakK k kd last left c1 s1 c2 s2:=by
 rcases h with⟨rfl,h1,h2,_,_⟩|⟨h1,h2,⟨f1,t1⟩,f2,t2⟩
 ·exact⟨⟨0,last,left.toNat,nof13,0,nof13,0⟩,left.toNat,by omega,by rw[if_pos rfl],fun h=>absurd rfl h,by show(0:Nat)≤2;omega,by show left.toNat≤65535;omega,fun h=>absurd rfl h,fun h=>absurd rfl h⟩
 ·have k0:kd≠0:=by omega
  exact⟨⟨kd,last,0,f1,320,f2,320⟩,0,h2,by rw[if_neg k0],fun _=>⟨t1,t2⟩,by show kd≤2;omega,by show(0:Nat)≤65535;omega,fun _=>CodeOk.of t1.1,fun _=>CodeOk.of t2.1⟩
theorem extF_tree{c:Nat→Int}{s:List Int}{f:Nat→Nat}(h:IsTree c s f):extF 320 f=f:=by
 funext j
 by_cases hj:j<320
 ·exact extF_in f hj
 ·rw[extF_out f (by omega),h.2.1 j (by omega)]
theorem bakK_reads{k:Blk13}{kd:Nat}{last:Bool}{left:Int}{c1:Nat→Int}{s1:List Int}{c2:Nat→Int}{s2:List Int}(h:BakK k kd last left c1 s1 c2 s2):ReadsB k kd last left c1 s1 c2 s2:=by
 obtain⟨lf,hl,hk,ht,hb⟩:=h
 by_cases k0:kd=0
 ·rw[if_pos k0]at hk
  refine⟨by rw[hk,k0],by rw[hk],by rw[hk,hl],hb.left,by rw[hk];exact Nat.zero_le _,by rw[hk];exact Nat.zero_le _,fun h=>absurd k0 h⟩
 ·rw[if_neg k0]at hk
  obtain⟨t1,t2⟩:=ht k0
  refine⟨by rw[hk],by rw[hk],by rw[hk,hl],hb.left,by rw[hk];exact Nat.le_refl _,by rw[hk];exact Nat.le_refl _,fun _=>?_⟩
  have en:k.n=320:=by rw[hk]
  have em:k.m=320:=by rw[hk]
  rw[en,em,extF_tree t1,extF_tree t2]
  exact⟨t1,t2⟩
theorem rstep13_any(w:World)(A:Option Addr)(l c:Nat)(g:Nat→Nat)(hg:RdB w w.heap.size A l g)(a:Int)
  (kd:Nat) (last:Bool) (left:Int) (c1 c2:Nat→Int) (v1 v2:Value) (s1 s2:List Int) (h1:RdS w w.heap.size v1 s1) (h2:RdS w w.heap.size v2 s2) (n1:s1.length≤1000000) (n2:s2.length≤1000000)
  (r:Bool) (hr:r=true↔MayI kd left c1 s1 c2 s2) (k:Blk13) (hk:r=true→BakK k kd last left c1 s1 c2 s2):
  Calls Tryz.prog 11 #[.agg (blkI kd last left c1 c2 v1 v2),.slice A l c,.int .i64 a] w fun e w'=>e=.returned (nxtV (stpQ g l a r k))∧Below w.heap.size w w':=by
 obtain⟨h,hh⟩:∃h,h=w.heap.size:=⟨_,rfl⟩
 obtain⟨X,hX⟩:∃X,X=blkI kd last left c1 c2 v1 v2:=⟨_,rfl⟩
 have hXS:X.size=37:=by rw[hX];exact blkI_size ..
 obtain⟨Z,hZ⟩:∃Z:Array Value,Z=#[.int .u8 0,.int .i64 0,.int .i64 0]:=⟨_,rfl⟩
 have hZS:Z.size=3:=by rw[hZ];rfl
 have hZO:Z.all (·.oneCell')=true:=by rw[hZ];exact oneTok _ _ _
 have hZB:Tryz.prog.built 36 []=some Z:=by rw[hZ];exact built_tok0
 obtain⟨W1,hW1⟩:∃W1,W1=(w.alloc (.cells X 28)).alloc (.cells Z 36):=⟨_,rfl⟩
 have hb1:Below h w W1:=by rw[hW1,hh];exact((Below.refl _ _).alloc (Nat.le_refl _) _).alloc (by simp) _
 have hsz1:W1.heap.size=h+2:=by rw[hW1,hh];simp
 have x1:BoxC W1 h X 28:=by rw[hW1,hh];exact(BoxC.new w _ _).old _
 have t1:BoxC W1 (h+1) Z 36:=by rw[hW1,hh];have:=BoxC.new (w.alloc (.cells X 28)) Z 36;rwa[World.size_alloc]at this
 obtain⟨q,hq⟩:∃q,q=asked13 l a:=⟨_,rfl⟩
 obtain⟨R,hR⟩:∃R,R=stpQ g l a r k:=⟨_,rfl⟩
 have hrr:=hR
 unfold stpQ at hrr
 rw[←hq]at hrr
 rw[←hR]
 have hask:=rask13_any W1 A l c a
 rw[←hq]at hask
 have hchk:=rcheck13_any W1 kd last left c1 c2 v1 v2 s1 s2 ((h1.below (hh▸hb1) (Nat.le_refl _)).more (hh▸hb1.size)) ((h2.below (hh▸hb1) (Nat.le_refl _)).more (hh▸hb1.size)) n1 n2 r hr
 rw[←hX]at hchk⊢
 have hzt:∀u:World,(zeroValue 36).run Tryz.prog u=.ok (.agg Z) u:=by rw[hZ];exact(zero_of_info infoTokZ).1
 have HAS:=Lib.hid hask;have HCH:=Lib.hid hchk;have HG:=Lib.hid hg;have HX1:=Lib.hid x1;have HT1:=Lib.hid t1;have HB1:=Lib.hid hb1;have HH:=Lib.hid hh;have HW1:=Lib.hid hW1;have HS1:=Lib.hid hsz1;have HRR:=Lib.hid hrr;have HQ:=Lib.hid hq;have HZE:=Lib.hid hZ;have HXE:=Lib.hid hX
 have HXS:=Lib.hid hXS;have HZS:=Lib.hid hZS;have HZO:=Lib.hid hZO;have HZB:=Lib.hid hZB;have HV1:=Lib.hid h1;have HV2:=Lib.hid h2;have HK:=Lib.hid hk
 clear hask hchk hg x1 t1 hb1 hh hW1 hsz1 hrr hq hR hZ hX hXS hZS hZO hZB h1 h2 hk hr
 by_cases q0:q=0
 ·have hl3:l≤131072:=by
   have:=HQ.out;rw[q0]at this;unfold asked13 at this
   split at this
   ·omega
   ·omega
  have ha:0≤a∧a≤8*(l:Int):=by
   have:=HQ.out;rw[q0]at this;unfold asked13 at this
   rw[if_neg (by omega)]at this
   split at this
   ·omega
   ·omega
  obtain⟨n,rfl⟩:=Int.eq_ofNat_of_zero_le ha.1
  have hn8:n≤8*l:=by omega
  subst q0
  rcases Bool.eq_false_or_eq_true r with hrt|hrf
  ·subst hrt
   have hre:R=nextR k g l n:=by rw[HRR.out,if_neg (fun h=>h rfl),if_neg (by decide)];rfl
   obtain⟨lf,rfl,hkk,htt,hin⟩:=HK.out rfl
   have hbk:∀V,Below h w V→Calls Tryz.prog 31 #[.agg X] V fun e w'=>∃v,e=.returned v∧BakD k v w'∧Below V.heap.size V w':=fun V hV=>by
    rw[HXE.out]
    exact rback13_any V kd last lf c1 c2 v1 v2 s1 s2 ((HV1.out.below (HH.out▸hV) (Nat.le_refl _)).more (HH.out▸hV.size)) ((HV2.out.below (HH.out▸hV) (Nat.le_refl _)).more (HH.out▸hV.size)) n1 n2 k hkk htt
   have HBK:=Lib.hid hbk;have HRE:=Lib.hid hre;have HIN:=Lib.hid hin;have HL3:=Lib.hid hl3;have HN8:=Lib.hid hn8
   clear hbk hre hkk htt hin ha HK HRR HXE HV1 HV2 hl3 hn8
   go_enter Tryz.func11,Tryz.ntmps11
   go_wp2_with (first|(rw[←HW1.out,←HH.out])|fail)
   refine HAS.out.mono ?_
   rintro e w9 ⟨rfl,rfl⟩
   go_wp2_with (first
    |(refine wpList_load_row rfl _ _ rfl h rfl _ X (0,0) _ HX1.out Tryz.underlying28 rfl (szBlkT X HXS.out) ?_)
    |fail)
   refine HCH.out.mono ?_
   unfold chkI
   rw[if_pos rfl]
   rintro e w3 ⟨rfl,hb3⟩
   have HX3:=Lib.hid (HX1.out.below hb3 HX1.out.lt)
   have HT3:=Lib.hid (HT1.out.below hb3 (by rw[HS1.out];omega))
   have HB3:=Lib.hid (HB1.out.trans (hb3.mono (by rw[HS1.out];omega)))
   clear hb3
   have HBW:=Lib.hid (HBK.out w3 HB3.out)
   go_wp2_with (first
    |(refine wpList_load_row rfl _ _ rfl h rfl _ X (0,0) _ HX3.out Tryz.underlying28 rfl (szBlkT X HXS.out) ?_)
    |fail)
   refine HBW.out.mono ?_
   rintro e w4 ⟨v,rfl,⟨B1,e1,B2,e2,rfl,r1,r2⟩,hb4⟩
   have HT4:=Lib.hid (HT3.out.below hb4 HT3.out.lt)
   have HB4:=Lib.hid (HB3.out.trans (hb4.mono (by have:=HT3.out.lt;omega)))
   have hnx:=rnext13_any w4 k B1 e1 B2 e2 HIN.out r1 r2 A l c g ((HG.out.below (HH.out▸HB4.out) (Nat.le_refl _)).more (HH.out▸HB4.out.size)) (by have:=HL3.out;omega) n HN8.out
   obtain⟨Y,hY⟩:∃Y,Y=blkC k B1 e1 B2 e2:=⟨_,rfl⟩
   rw[←hY]at hnx⊢
   rw[←HRE.out]at hnx
   have HNX:=Lib.hid hnx
   clear hnx hY r1 r2 hb4
   go_wp2_with fail
   refine HNX.out.mono ?_
   rintro e w5 ⟨rfl,hb5⟩
   obtain⟨T,hT⟩:∃T:Array Value,T=#[.int .u8 (R.1.x:Int),.int .i64 R.1.d,.int .i64 R.1.n]:=⟨_,rfl⟩
   obtain⟨en,hen⟩:∃e,e=R.2.1:=⟨_,rfl⟩
   obtain⟨sa,hsa⟩:∃e,e=R.2.2.1:=⟨_,rfl⟩
   obtain⟨se,hse⟩:∃e,e=R.2.2.2:=⟨_,rfl⟩
   have HNV:Hid (nxtV R=.tuple #[.agg T,.bool en,.int .i64 (sa:Int),.int .i64 se]):=Lib.hid (by rw[hT,hen,hsa,hse];rfl)
   have hnv:=HNV.out
   rw[hnv]
   have HTS:Hid (T.size=3):=Lib.hid (by rw[hT];rfl)
   have HTO:Hid (T.all (·.oneCell')=true):=Lib.hid (by rw[hT];exact oneTok _ _ _)
   obtain⟨W6,hW6⟩:∃W,W=mkV w5 Z T 36:=⟨_,rfl⟩
   obtain⟨s5,hs5⟩:∃s,s=w5.heap.size:=⟨_,rfl⟩
   have hb6:Below w5.heap.size w5 W6:=by rw[hW6];exact mkV_below _ _ _ _
   have t5:=HT4.out.below hb5 HT4.out.lt
   have HX6:Hid (BoxC W6 s5 T 36):=Lib.hid (by rw[hW6,hs5];exact mkV_row w5 Z T _)
   have HT6:Hid (BoxC W6 (h+1) Z 36):=Lib.hid (t5.below hb6 t5.lt)
   have HB6:Hid (Below h w W6):=Lib.hid ((HB4.out.trans (hb5.mono (by have:=HT4.out.lt;omega))).trans (hb6.mono (by have:=t5.lt;omega)))
   have HW6:=Lib.hid hW6;have HS5:=Lib.hid hs5
   clear hT hen hsa hse hW6 hs5 hb6 t5 hb5 hnv
   go_wp2_with (first
    |(refine wpList_store_rowTo rfl _ _ _ rfl rfl w5.heap.size T rfl rfl 36 Z (heap_alloc_new w5 _) (by rw[HTS.out];exact szTok) (by rw[HZS.out,HTS.out]) HTO.out ?_;change wpList _ _ _ _ _ (mkV w5 Z T 36);rw[←HW6.out,←HS5.out])
    |(refine wpList_load_row rfl _ _ rfl s5 rfl _ T (0,0) _ HX6.out Tryz.underlying36 rfl (by rw[HTS.out];exact szTok) ?_)
    |(refine wpList_store_rowTo rfl _ _ _ rfl rfl (h+1) T rfl rfl 36 Z HT6.out (by rw[HTS.out];exact szTok) (by rw[HZS.out,HTS.out]) HTO.out ?_)
    |fail)
   refine bodyPost_ret ((cell_tok4 rfl _ _ (h+1) T HTS.out rfl (setRow_heap _ _ _ _ _ _ HT6.out)).trans rfl) rfl ⟨by rw[HNV.out];rfl,?_⟩
   rw[←HH.out];exact below_rowU13 HB6.out (by omega) _
  ·subst hrf
   have HRE:Hid (R=(tokZ,false,0,8)):=Lib.hid (by rw[HRR.out,if_neg (fun h=>h rfl),if_pos rfl])
   clear ha HK HRR HXE
   go_enter Tryz.func11,Tryz.ntmps11
   go_wp2_with (first|(rw[←HW1.out,←HH.out])|fail)
   refine HAS.out.mono ?_
   rintro e w9 ⟨rfl,rfl⟩
   go_wp2_with (first
    |(refine wpList_load_row rfl _ _ rfl h rfl _ X (0,0) _ HX1.out Tryz.underlying28 rfl (szBlkT X HXS.out) ?_)
    |fail)
   refine HCH.out.mono ?_
   unfold chkI
   rw[if_neg (by decide)]
   rintro e w3 ⟨rfl,hb3⟩
   have HT3:=Lib.hid (HT1.out.below hb3 (by rw[HS1.out];omega))
   have HB3:=Lib.hid (HB1.out.trans (hb3.mono (by rw[HS1.out];omega)))
   have d8:((8:Int) !=0)=true:=rfl
   clear hb3
   go_wp2_with (first
    |(refine wpList_buildTo rfl 36 #[] rfl (some 23) rfl Z ?_ ?_;focus(simpa[Act.eval]using HZB.out))
    |(refine wpList_store_rowTo rfl _ _ _ rfl rfl (h+1) Z rfl rfl 36 Z HT3.out (by rw[HZS.out];exact szTok) rfl HZO.out ?_)
    |fail)
   refine bodyPost_ret ((cell_tok4 rfl _ _ (h+1) _ HZS.out rfl (setRow_heap _ _ _ _ _ _ HT3.out)).trans rfl) rfl ⟨by rw[HRE.out,HZE.out];rfl,?_⟩
   rw[←HH.out];exact below_rowU13 HB3.out (by omega) _
 have d0:(q==0)=false:=beq_eq_false_iff_ne.2 q0
 have d1:(q !=0)=true:=by simp[bne,d0]
 have HRE:Hid (R=(tokZ,false,0,q)):=Lib.hid (by rw[HRR.out,if_pos q0])
 clear HK HRR HXE
 go_enter Tryz.func11,Tryz.ntmps11
 go_wp2_with (first|(rw[←HW1.out,←HH.out])|fail)
 refine HAS.out.mono ?_
 rintro e w9 ⟨rfl,rfl⟩
 go_wp2_with (first
  |(refine wpList_buildTo rfl 36 #[] rfl (some 23) rfl Z ?_ ?_;focus(simpa[Act.eval]using HZB.out))
  |(refine wpList_store_rowTo rfl _ _ _ rfl rfl (h+1) Z rfl rfl 36 Z HT1.out (by rw[HZS.out];exact szTok) rfl HZO.out ?_)
  |fail)
 refine bodyPost_ret ((cell_tok4 rfl _ _ (h+1) _ HZS.out rfl (setRow_heap _ _ _ _ _ _ HT1.out)).trans rfl) rfl ⟨by rw[HRE.out,HZE.out];rfl,?_⟩
 rw[←HH.out];exact below_rowU13 HB1.out (by omega) _
end Go.Proofs.YtgokdgcmkcmjeaaGreat
namespace Go.Proofs.YtgokdgcmkcmjeaaGreat
open Go.RowKit Go.Shelf Go.ChangeShapes Go.WideShapes Go.ChangeAt Go.Joins
attribute [local go_sem] Oper.semAt_some
attribute [local simp] wide_fn
theorem beg_small{g:Nat→Nat}{L a:Nat}(ha:a≤8*L)(h:(begR g L a).2.2=0):(begR g L a).1.n≤320∧(begR g L a).1.m≤320:=by
 by_cases k0:(begR g L a).1.kind=0
 ·unfold begR at h k0⊢
  split at h
  ·exact absurd h (by decide)
  ·rename_i h1
   rw[if_neg h1]at k0⊢
   unfold begW at h k0⊢
   split at h
   ·exact absurd h (by decide)
   ·rename_i h2
    rw[if_neg h2]at k0⊢
    split at h
    ·rename_i h3
     rw[if_pos h3]at k0
     have:=((dy_is (g:=g) (L:=L) (a:=a+3) (last:=decide (numN g a 3%2=1)) (by omega)).1 h).2.1
     rw[k0]at this;exact absurd this (by decide)
    ·rename_i h3
     rw[if_neg h3]at k0⊢
     split at h
     ·rename_i h4
      rw[if_pos h4]at k0;exact absurd k0 (show¬(1:Nat)=0 by decide)
     ·rename_i h4
      rw[if_neg h4]
      unfold stoR at h⊢
      split at h
      ·exact absurd h (by decide)
      ·rename_i h5
       rw[if_neg h5]
       unfold stoV at h⊢
       split at h
       ·exact absurd h (by decide)
       ·rename_i h6
        rw[if_neg h6];exact⟨Nat.zero_le _,Nat.zero_le _⟩
 ·obtain⟨_,_,_,_,_,_,_,h8⟩:=(head_is (g:=g) (L:=L) ha).1 h
  obtain⟨_,_,_,_,_,c5,c6⟩:=h8 k0
  exact⟨(check_ok c5).2.2.1,(check_ok c6).2.2.1⟩
end Go.Proofs.YtgokdgcmkcmjeaaGreat
namespace Go.Proofs.YtgokdgcmkcmjeaaGreat
def leftK(k:Blk13)(i:Nat):Blk13:={k with left:=k.left-i}
end Go.Proofs.YtgokdgcmkcmjeaaGreat
namespace Go.Proofs.YtgokdgcmkcmjeaaGreat
open Go.RowKit Go.ChangeShapes Go.WideShapes Go.ChangeAt Go.Joins
section
variable {H:Type} {enc:TypeId×Value→H} {P:Program} {w:World} {base:Nat} {spare:Nat→Bool} {held:Bool}
theorem trod_struct5{t:TypeId}{f0 f1 f2 f3 f4:Field}{fuel:Nat}{cs:List Value}{x:DataW H×List MemPlace}(ht:P.underlying t=some (.struct #[f0,f1,f2,f3,f4]))(h:DataW.trod enc P w base spare held fuel t cs=some x):
  ∃y0 y1 y2 y3 y4 n,x=(.agg [y0.1,y1.1,y2.1,y3.1,y4.1],y0.2++(y1.2++(y2.2++(y3.2++y4.2))))∧cs.length=P.cellsOf t∧DataW.trod enc P w base spare held n f0.type ((cs.drop f0.offset).take (P.cellsOf f0.type))=some y0∧
   DataW.trod enc P w base spare held n f1.type ((cs.drop f1.offset).take (P.cellsOf f1.type))=some y1∧DataW.trod enc P w base spare held n f2.type ((cs.drop f2.offset).take (P.cellsOf f2.type))=some y2∧
   DataW.trod enc P w base spare held n f3.type ((cs.drop f3.offset).take (P.cellsOf f3.type))=some y3∧DataW.trod enc P w base spare held n f4.type ((cs.drop f4.offset).take (P.cellsOf f4.type))=some y4:=by
 obtain⟨xs,n,_,rfl,hl,hlen,hf⟩:=DataW.trod_struct ht h
 match xs,hlen with
 |[y0,y1,y2,y3,y4],_=>exact⟨y0,y1,y2,y3,y4,n,by simp,hl,by simpa using hf 0 f0 rfl,by simpa using hf 1 f1 rfl,by simpa using hf 2 f2 rfl,by simpa using hf 3 f3 rfl,by simpa using hf 4 f4 rfl⟩
end
end Go.Proofs.YtgokdgcmkcmjeaaGreat
namespace Go.Proofs.YtgokdgcmkcmjeaaGreat
open Go.RowKit Go.ChangeShapes Go.WideShapes Go.ChangeAt Go.Joins
theorem head_reads{g:Nat→Nat}{L a:Nat}(ha:a≤8*L)(h:(begR g L a).2.2=0){k:Blk13}(hk:(begR g L a).1=k)(i:Nat):
  MayI k.kind ((leftK k i).left:Int) (tcO k.kind k.F k.n) (syO k.kind k.F k.n) (tcO k.kind k.G k.m) (syO k.kind k.G k.m)∧
  ReadsB (leftK k i) k.kind k.last ((leftK k i).left:Int) (tcO k.kind k.F k.n) (syO k.kind k.F k.n) (tcO k.kind k.G k.m) (syO k.kind k.G k.m)∧(syO k.kind k.F k.n).length≤1000000∧(syO k.kind k.G k.m).length≤1000000:=by
 obtain⟨e1,e2,e3,e4,e5,e6,e7,e8⟩:=(head_is (g:=g) (L:=L) ha).1 h
 obtain⟨s1,s2⟩:=beg_small ha h
 rw[hk]at e5 e6 e8 s1 s2
 have hle:(leftK k i).left≤65535:=by show k.left-i≤65535;omega
 by_cases k0:k.kind=0
 ·have t1:∀F n,tcO k.kind F n=fun _=>0:=fun F n=>by unfold tcO;rw[if_pos k0]
  have t2:∀F n,syO k.kind F n=[]:=fun F n=>by unfold syO;rw[if_pos k0]
  rw[t1,t1,t2,t2]
  refine⟨.inl ⟨k0,by omega,by omega,by decide+kernel,by decide+kernel⟩,⟨rfl,rfl,rfl,hle,s1,s2,fun h=>absurd k0 h⟩,by decide,by decide⟩
 ·obtain⟨c0,_,_,_,_,c5,c6⟩:=e8 k0
  have q1:tcO k.kind k.F k.n=grC k.F k.n 15:=by unfold tcO;rw[if_neg k0];funext m;unfold grC;rw[if_pos c5]
  have q2:tcO k.kind k.G k.m=grC k.G k.m 15:=by unfold tcO;rw[if_neg k0];funext m;unfold grC;rw[if_pos c6]
  have q3:syO k.kind k.F k.n=grS k.F k.n 15:=by unfold syO grS;rw[if_neg k0,if_pos c5]
  have q4:syO k.kind k.G k.m=grS k.G k.m 15:=by unfold syO grS;rw[if_neg k0,if_pos c6]
  have g1:=grown_tree c5
  have g2:=grown_tree c6
  have l0:(leftK k i).left=0:=by show k.left-i=0;omega
  rw[q1,q2,q3,q4,l0]
  refine⟨.inr ⟨by omega,rfl,⟨_,g1⟩,⟨_,g2⟩⟩,⟨rfl,rfl,by rw[l0],by rw[l0];omega,s1,s2,fun _=>⟨g1,g2⟩⟩,by have:=(isTree_length g1).2;omega,by have:=(isTree_length g2).2;omega⟩
end Go.Proofs.YtgokdgcmkcmjeaaGreat
namespace Go.Proofs.YtgokdgcmkcmjeaaGreat
open Go.RowKit
theorem rgreat13_any(w:World)(A:Option Addr)(l c:Nat):
  Calls Tryz.prog 7 #[.slice A l c] w fun e w'=>e=.returned (.bool (decide (400<l)))∧w=w':=by
 by_cases y0:400<l
 ·have d1:decide ((400:Int)<(l:Int))=true:=decY (by omega)
  have d2:decide (400<l)=true:=decY0 y0
  rw[d2]
  clear y0
  go_enter Tryz.func7,Tryz.ntmps7
  go_wp2
  go_ret
  exact⟨rfl,rfl⟩
 ·have d1:decide ((400:Int)<(l:Int))=false:=decN (by omega)
  have d2:decide (400<l)=false:=decN0 y0
  rw[d2]
  clear y0
  go_enter Tryz.func7,Tryz.ntmps7
  go_wp2
  go_ret
  exact⟨rfl,rfl⟩
end Go.Proofs.YtgokdgcmkcmjeaaGreat
namespace Go.Proofs.YtgokdgcmkcmjeaaGreat
open Go.RowKit Go.ChangeShapes Go.WideShapes Go.ChangeAt Go.Joins
theorem decT{p:Prop}[Decidable p](h:p):decide p=true:=by simp[h]
theorem decF{p:Prop}[Decidable p](h:¬p):decide p=false:=by simp[h]
end Go.Proofs.YtgokdgcmkcmjeaaGreat
namespace Go.Proofs.YtgokdgcmkcmjeaaGreat
open Go.RowKit Go.ChangeShapes Go.WideShapes Go.ChangeAt Go.Joins
theorem run_eql_tok13(w:World)(t:Tok):(binOp .eql 36 (.agg (tokC t).toArray) (.agg (tokC t).toArray)).run Tryz.prog w=.ok (.bool true) w:=by
 have e:(binOp .eql 36 (.agg (tokC t).toArray) (.agg (tokC t).toArray)).run Tryz.prog w=((Op.equal 36 (.agg (tokC t).toArray) (.agg (tokC t).toArray)).run Tryz.prog w).andThen fun b w'=>.ok (.bool b) w':=by
  unfold binOp
  simp
 rw[e]
 unfold Op.equal Op.maxDepth
 rw[run_eq_tok];rfl
theorem head_small{g:Nat→Nat}{L:Nat}{a:Int}{k:Blk13}{p:Nat}{f:Int}(h:headR g L a=(k,p,f)):(syO k.kind k.F k.n).length≤1000000∧(syO k.kind k.G k.m).length≤1000000:=by
 have hz:(syO blk0.kind blk0.F blk0.n).length≤1000000∧(syO blk0.kind blk0.G blk0.m).length≤1000000:=⟨by decide,by decide⟩
 unfold headR at h
 by_cases h1:asked13 L a≠0
 ·rw[if_pos h1]at h;injection h with h _;subst h;exact hz
 rw[if_neg h1]at h
 by_cases h2:(begR g L a.toNat).2.2≠0
 ·rw[if_pos h2]at h;injection h with h _;subst h;exact hz
 rw[if_neg h2]at h
 have ha:=(asked_ok (L:=L) (a:=a) (by omega)).2.2
 exact(head_reads ha (by omega) (show(begR g L a.toNat).1=k by rw[h]) 0).2.2
theorem reads13_main(A:Option Addr)(l c:Nat)(g:Nat→Nat)(a:Int)(kd:Nat)(last:Bool)(left:Int)(c1 c2:Nat→Int)(B1:Option Addr)(e1:Nat)(B2:Option Addr)(e2:Nat)(s1 s2:List Int)(m1 m2:Nat)(w:World)(hr:ByR w w.heap.size A l c g)(ha1: -9223372036854775808≤a)(ha2:a≤9223372036854775807)
  (hkd:kd<256) (h1:RdS w w.heap.size (.slice B1 m1 e1) s1) (h2:RdS w w.heap.size (.slice B2 m2 e2) s2) (hm1:s1.length=m1) (hm2:s2.length=m2) (hn0:¬400<l) (hn1:¬1000<m1) (hn2:¬1000<m2):
  Calls Tryz.prog 3 #[.slice A l c,.int .i64 a,.agg (blkI kd last left c1 c2 (.slice B1 m1 e1) (.slice B2 m2 e2))] w fun e w'=>e=.returned (.bool true)∧Below w.heap.size w w':=by
 obtain⟨h,hh⟩:∃h,h=w.heap.size:=⟨_,rfl⟩
 obtain⟨v1,hv1⟩:∃v,v=Value.slice B1 m1 e1:=⟨_,rfl⟩
 obtain⟨v2,hv2⟩:∃v,v=Value.slice B2 m2 e2:=⟨_,rfl⟩
 obtain⟨X,hX⟩:∃X,X=blkI kd last left c1 c2 v1 v2:=⟨_,rfl⟩
 rw[←hv1]at h1
 rw[←hv2]at h2
 rw[←hv1,←hv2,←hX]
 obtain⟨r,hr0⟩:∃r:Bool,r=true↔MayI kd left c1 s1 c2 s2:=by
  by_cases hm:MayI kd left c1 s1 c2 s2
  ·exact⟨true,⟨fun _=>hm,fun _=>rfl⟩⟩
  ·exact⟨false,⟨fun h=>(by cases h),fun h=>absurd h hm⟩⟩
 obtain⟨kk,hkk⟩:∃kk,r=true→BakK kk kd last left c1 s1 c2 s2:=by
  by_cases hm:r=true
  ·obtain⟨kk,hk⟩:=bakK_of (last:=last) (hr0.1 hm);exact⟨kk,fun _=>hk⟩
  ·exact⟨blk0,fun h=>absurd h hm⟩
 obtain⟨⟨k,p,f⟩,hR⟩:∃R,R=headR g l a:=⟨_,rfl⟩
 obtain⟨z1,z2⟩:=head_small hR.symm
 obtain⟨N,hN⟩:∃N,N=stpQ g l a r kk:=⟨_,rfl⟩
 obtain⟨T,hT⟩:∃T:Array Value,T=(tokC N.1).toArray:=⟨_,rfl⟩
 obtain⟨en,hen⟩:∃e,e=N.2.1:=⟨_,rfl⟩
 obtain⟨sa,hsa⟩:∃e,e=N.2.2.1:=⟨_,rfl⟩
 obtain⟨se,hse⟩:∃e,e=N.2.2.2:=⟨_,rfl⟩
 have hNV:nxtV N=.tuple #[.agg T,.bool en,.int .i64 (sa:Int),.int .i64 se]:=by rw[hT,hen,hsa,hse];rfl
 have HTS:Hid (T.size=3):=Lib.hid (by rw[hT];rfl)
 have HTO:Hid (T.all (·.oneCell')=true):=Lib.hid (by rw[hT];simp[tokC,Value.oneCell'])
 have HTQ:Hid (∀W:World,(binOp .eql 36 (.agg T) (.agg T)).run Tryz.prog W=.ok (.bool true) W):=Lib.hid fun W=>by rw[hT];exact run_eql_tok13 W _
 obtain⟨Zb,hZb⟩:∃Z,Z=blkT 0 false 0 (fun _=>0) (fun _=>0) (.slice none 0 0) (.slice none 0 0):=⟨_,rfl⟩
 obtain⟨Zt,hZt⟩:∃Z:Array Value,Z=#[.int .u8 0,.int .i64 0,.int .i64 0]:=⟨_,rfl⟩
 have HZBS:Hid (Zb.size=37):=Lib.hid (by rw[hZb];exact blkT_size ..)
 have HZTS:Hid (Zt.size=3):=Lib.hid (by rw[hZt];rfl)
 have hzb:∀u:World,(zeroValue 28).run Tryz.prog u=.ok (.agg Zb) u:=by rw[hZb];exact(zero_of_info infoBlkT).1
 have hzt:∀u:World,(zeroValue 36).run Tryz.prog u=.ok (.agg Zt) u:=by rw[hZt];exact(zero_of_info infoTokZ).1
 obtain⟨W1,hW1⟩:∃W1,W1=w.alloc (.cells X 28):=⟨_,rfl⟩
 have hb1:Below h w W1:=by rw[hW1,hh];exact(Below.refl _ _).alloc (Nat.le_refl _) _
 have x1:BoxC W1 h X 28:=by rw[hW1,hh];exact BoxC.new w _ _
 have q1:W1.cell? ⟨h,19,none⟩=some (.slice B1 m1 e1):=x1.cell.trans (by rw[hX,hv1];rfl)
 have q2:W1.cell? ⟨h,36,none⟩=some (.slice B2 m2 e2):=x1.cell.trans (by rw[hX,hv2];rfl)
 have hXS:X.size=37:=by rw[hX];exact blkI_size ..
 have hbw:Below w.heap.size w W1:=hh▸hb1
 have hr1:=(hr.below hbw (Nat.le_refl _)).more hbw.size
 obtain⟨A1,k1,w2,hrun,hown,hb2,_⟩:=run_twin W1 W1.heap.size A l c g hr1.1 (by omega) 22 hr1.2.1
 have hd:decide (400<l)=false:=decF hn0
 have d1:decide (1000<(m1:Int))=false:=decF (by omega)
 have d1':decide (1000<m1)=false:=decF hn1
 have d2:decide (1000<(m2:Int))=false:=decF (by omega)
 have d2':decide (1000<m2)=false:=decF hn2
 have hl6:l≤1000000:=by omega
 have HP1:=Lib.hid fun(V:World) (hg:RdB V V.heap.size A1 l g)=>phead13_any V A1 l k1 g hg a ha1 ha2 hl6
 have HP2:=Lib.hid fun(V:World) (hg:RdB V V.heap.size A l g)=>rhead13_any V A l c g hg a
 have HS1:=Lib.hid fun(V:World) (hg:RdB V V.heap.size A1 l g) (g1:RdS V V.heap.size v1 s1) (g2:RdS V V.heap.size v2 s2)=>pstep13_any V A1 l k1 g hg a ha1 ha2 hl6 kd hkd last left c1 c2 v1 v2 s1 s2 g1 g2 (by omega) (by omega) r hr0 kk (fun hq=>bakK_reads (hkk hq))
 have HS2:=Lib.hid fun(V:World) (hg:RdB V V.heap.size A l g) (g1:RdS V V.heap.size v1 s1) (g2:RdS V V.heap.size v2 s2)=>rstep13_any V A l c g hg a kd last left c1 c2 v1 v2 s1 s2 g1 g2 (by omega) (by omega) r hr0 kk hkk
 have HC1:=Lib.hid fun(V:World) (g1:RdS V V.heap.size v1 s1) (g2:RdS V V.heap.size v2 s2)=>pcheck13_any V kd last left c1 c2 v1 v2 s1 s2 g1 g2 (by omega) (by omega) r hr0
 have HC2:=Lib.hid fun(V:World) (g1:RdS V V.heap.size v1 s1) (g2:RdS V V.heap.size v2 s2)=>rcheck13_any V kd last left c1 c2 v1 v2 s1 s2 g1 g2 (by omega) (by omega) r hr0
 obtain⟨CK,hCK⟩:∃x,x=chkI r:=⟨_,rfl⟩
 rw[←hX,←hN,hNV]at HS1 HS2
 rw[←hX,←hCK]at HC1 HC2
 rw[←hR]at HP1 HP2
 have zp:((p:Int)==(p:Int))=true:=by simp
 have zf:(f==f)=true:=by simp
 have zen:(en==en)=true:=by simp
 have zsa:((sa:Int)==(sa:Int))=true:=by simp
 have zse:(se==se)=true:=by simp
 have HXS:=Lib.hid hXS;have HRUN:=Lib.hid hrun;have HW1:=Lib.hid hW1;have HH:=Lib.hid hh;have HB1:=Lib.hid hbw
 have HZ:=Lib.hid (And.intro z1 z2)
 have HY1:=Lib.hid (ByR.of_own hown hr1.1.1);have HV1:=Lib.hid ((h1.below hbw (Nat.le_refl _)).more hbw.size);have HV2:=Lib.hid ((h2.below hbw (Nat.le_refl _)).more hbw.size);have HX1:=Lib.hid x1;have HR1:=Lib.hid hr1
 have HB12:=Lib.hid hb2
 clear hbw hX hXS hrun hW1 hh hb1 x1 hr hr1 h1 h2 hr0 hkk hm1 hm2 hn0 hn1 hn2 hown hb2 hR hN hNV hT hen hsa hse hZb hZt hCK hv1 hv2 z1 z2 hkd ha1 ha2 hl6
 go_enter Tryz.func3,Tryz.ntmps3
 go_wp2_with (first|(rw[←HW1.out,←HH.out])|fail)
 refine(rgreat13_any W1 A l c).mono ?_
 rintro e w9 ⟨rfl,rfl⟩
 rw[hd]
 go_wp2_with (first
  |(at_builtin;refine wpList_append_run rfl (.const (.slice none 0 0)) (.tmp 39) 22 rfl (.slice none 0 0) (.slice A l c) (.slice A1 l k1) w2 rfl rfl HRUN.out ?_)
  |fail)
 have HB2:=Lib.hid (HB1.out.trans (HB12.out.mono HB1.out.size));have HV1b:=Lib.hid ((HV1.out.below HB12.out (Nat.le_refl _)).more HB12.out.size);have HV2b:=Lib.hid ((HV2.out.below HB12.out (Nat.le_refl _)).more HB12.out.size);have HX2:=Lib.hid (HX1.out.below HB12.out HX1.out.lt);have HR2:=Lib.hid ((HR1.out.below HB12.out (Nat.le_refl _)).more HB12.out.size)
 clear HB12 HB1 HV1 HV2 HX1 HR1 q1 q2 d1 d1' d2 d2'
 refine(HP1.out w2 HY1.out.1).mono ?_
 rintro e w3 ⟨⟨v,rfl,⟨u1,u2,rfl,o1,o2⟩,-⟩,hbj⟩
 try dsimp only
 try dsimp only at o1
 try dsimp only at o2
 obtain⟨Xa,hBX⟩:∃X,X=blkT k.kind k.last k.left (tcO k.kind k.F k.n) (tcO k.kind k.G k.m) u1 u2:=⟨_,rfl⟩
 rw[←hBX]
 have HXaS:Hid (Xa.size=37):=Lib.hid (by rw[hBX];exact blkT_size ..)
 have HXaO:Hid (Xa.all (·.oneCell')=true):=Lib.hid (by rw[hBX];exact blkT_one _ _ _ _ _ _ _ o1.one o2.one)
 have HXaE:=Lib.hid hBX
 obtain⟨w4,hWk⟩:∃W,W=mkV w3 Zb Xa 28:=⟨_,rfl⟩
 obtain⟨b4,hbk⟩:∃s,s=w3.heap.size:=⟨_,rfl⟩
 have hbl:Below w3.heap.size w3 w4:=by rw[hWk];exact mkV_below _ _ _ _
 have hb:Below w2.heap.size w2 w4:=hbj.trans (hbl.mono hbj.size)
 have HBOX4:Hid (BoxC w4 b4 Xa 28):=Lib.hid (by rw[hWk,hbk];exact mkV_row w3 Zb Xa _)
 have HOu14:=Lib.hid ((o1.rd.below hbl (Nat.le_refl _)).more hbl.size)
 have HOu24:=Lib.hid ((o2.rd.below hbl (Nat.le_refl _)).more hbl.size)
 have HB4:=Lib.hid (HB2.out.trans (hb.mono HB2.out.size))
 have HY4:=Lib.hid ((HY1.out.below hb (Nat.le_refl _)).more hb.size)
 have HR4:=Lib.hid ((HR2.out.below hb (Nat.le_refl _)).more hb.size)
 have HVa4:=Lib.hid ((HV1b.out.below hb (Nat.le_refl _)).more hb.size)
 have HVb4:=Lib.hid ((HV2b.out.below hb (Nat.le_refl _)).more hb.size)
 have HX4:=Lib.hid (HX2.out.below hb HX2.out.lt)
 have HW4:=Lib.hid hWk;have HBK4:=Lib.hid hbk
 clear hbj hbl hb hWk hbk o1 o2 hBX
 go_wp2_with (first
  |(refine wpList_store_rowTo rfl _ _ _ rfl rfl w3.heap.size Xa rfl rfl 28 Zb (heap_alloc_new w3 _) (szBlkT _ HXaS.out) (by rw[HZBS.out,HXaS.out]) HXaO.out ?_;change wpList _ _ _ _ _ (mkV w3 Zb Xa 28);rw[←HW4.out,←HBK4.out])
  |fail)
 refine(HP2.out w4 HR4.out.1).mono ?_
 rintro e w5 ⟨⟨v,rfl,⟨u3,u4,rfl,o1,o2⟩,-⟩,hbj⟩
 try dsimp only
 try dsimp only at o1
 try dsimp only at o2
 obtain⟨Xb,hBX⟩:∃X,X=blkT k.kind k.last k.left (tcO k.kind k.F k.n) (tcO k.kind k.G k.m) u3 u4:=⟨_,rfl⟩
 rw[←hBX]
 have HXbS:Hid (Xb.size=37):=Lib.hid (by rw[hBX];exact blkT_size ..)
 have HXbO:Hid (Xb.all (·.oneCell')=true):=Lib.hid (by rw[hBX];exact blkT_one _ _ _ _ _ _ _ o1.one o2.one)
 have HXbE:=Lib.hid hBX
 obtain⟨w6,hWk⟩:∃W,W=mkV w5 Zb Xb 28:=⟨_,rfl⟩
 obtain⟨b6,hbk⟩:∃s,s=w5.heap.size:=⟨_,rfl⟩
 have hbl:Below w5.heap.size w5 w6:=by rw[hWk];exact mkV_below _ _ _ _
 have hb:Below w4.heap.size w4 w6:=hbj.trans (hbl.mono hbj.size)
 have HBOX6:Hid (BoxC w6 b6 Xb 28):=Lib.hid (by rw[hWk,hbk];exact mkV_row w5 Zb Xb _)
 have HOu36:=Lib.hid ((o1.rd.below hbl (Nat.le_refl _)).more hbl.size)
 have HOu46:=Lib.hid ((o2.rd.below hbl (Nat.le_refl _)).more hbl.size)
 have HB6:=Lib.hid (HB4.out.trans (hb.mono HB4.out.size))
 have HY6:=Lib.hid ((HY4.out.below hb (Nat.le_refl _)).more hb.size)
 have HR6:=Lib.hid ((HR4.out.below hb (Nat.le_refl _)).more hb.size)
 have HVa6:=Lib.hid ((HVa4.out.below hb (Nat.le_refl _)).more hb.size)
 have HVb6:=Lib.hid ((HVb4.out.below hb (Nat.le_refl _)).more hb.size)
 have HX6:=Lib.hid (HX4.out.below hb HX4.out.lt)
 have HOu16:=Lib.hid ((HOu14.out.below hb (Nat.le_refl _)).more hb.size)
 have HOu26:=Lib.hid ((HOu24.out.below hb (Nat.le_refl _)).more hb.size)
 have HBOXa6:=Lib.hid (HBOX4.out.below hb HBOX4.out.lt)
 have HW6:=Lib.hid hWk;have HBK6:=Lib.hid hbk
 clear hbj hbl hb hWk hbk o1 o2 hBX
 go_wp2_with (first
  |(refine wpList_store_rowTo rfl _ _ _ rfl rfl w5.heap.size Xb rfl rfl 28 Zb (heap_alloc_new w5 _) (szBlkT _ HXbS.out) (by rw[HZBS.out,HXbS.out]) HXbO.out ?_;change wpList _ _ _ _ _ (mkV w5 Zb Xb 28);rw[←HW6.out,←HBK6.out])
  |(refine wpList_load_row rfl _ _ rfl h rfl _ X (0,0) _ HX6.out Tryz.underlying28 rfl (szBlkT _ HXS.out) ?_)
  |fail)
 refine(HS1.out w6 HY6.out.1 HVa6.out HVb6.out).mono ?_
 rintro e w7 ⟨rfl,hbj⟩
 obtain⟨w8,hWk⟩:∃W,W=mkV w7 Zt T 36:=⟨_,rfl⟩
 obtain⟨b8,hbk⟩:∃s,s=w7.heap.size:=⟨_,rfl⟩
 have hbl:Below w7.heap.size w7 w8:=by rw[hWk];exact mkV_below _ _ _ _
 have hb:Below w6.heap.size w6 w8:=hbj.trans (hbl.mono hbj.size)
 have HBOX8:Hid (BoxC w8 b8 T 36):=Lib.hid (by rw[hWk,hbk];exact mkV_row w7 Zt T _)
 have HB8:=Lib.hid (HB6.out.trans (hb.mono HB6.out.size))
 have HY8:=Lib.hid ((HY6.out.below hb (Nat.le_refl _)).more hb.size)
 have HR8:=Lib.hid ((HR6.out.below hb (Nat.le_refl _)).more hb.size)
 have HVa8:=Lib.hid ((HVa6.out.below hb (Nat.le_refl _)).more hb.size)
 have HVb8:=Lib.hid ((HVb6.out.below hb (Nat.le_refl _)).more hb.size)
 have HX8:=Lib.hid (HX6.out.below hb HX6.out.lt)
 have HOu18:=Lib.hid ((HOu16.out.below hb (Nat.le_refl _)).more hb.size)
 have HOu28:=Lib.hid ((HOu26.out.below hb (Nat.le_refl _)).more hb.size)
 have HBOXa8:=Lib.hid (HBOXa6.out.below hb HBOXa6.out.lt)
 have HOu38:=Lib.hid ((HOu36.out.below hb (Nat.le_refl _)).more hb.size)
 have HOu48:=Lib.hid ((HOu46.out.below hb (Nat.le_refl _)).more hb.size)
 have HBOXb8:=Lib.hid (HBOX6.out.below hb HBOX6.out.lt)
 have HW8:=Lib.hid hWk;have HBK8:=Lib.hid hbk
 clear hbj hbl hb hWk hbk
 go_wp2_with (first
  |(refine wpList_store_rowTo rfl _ _ _ rfl rfl w7.heap.size T rfl rfl 36 Zt (heap_alloc_new w7 _) (by rw[HTS.out];exact szTok) (by rw[HZTS.out,HTS.out]) HTO.out ?_;change wpList _ _ _ _ _ (mkV w7 Zt T 36);rw[←HW8.out,←HBK8.out])
  |(refine wpList_load_row rfl _ _ rfl h rfl _ X (0,0) _ HX8.out Tryz.underlying28 rfl (szBlkT _ HXS.out) ?_)
  |fail)
 refine(HS2.out w8 HR8.out.1 HVa8.out HVb8.out).mono ?_
 rintro e w9 ⟨rfl,hbj⟩
 obtain⟨w10,hWk⟩:∃W,W=mkV w9 Zt T 36:=⟨_,rfl⟩
 obtain⟨b10,hbk⟩:∃s,s=w9.heap.size:=⟨_,rfl⟩
 have hbl:Below w9.heap.size w9 w10:=by rw[hWk];exact mkV_below _ _ _ _
 have hb:Below w8.heap.size w8 w10:=hbj.trans (hbl.mono hbj.size)
 have HBOX10:Hid (BoxC w10 b10 T 36):=Lib.hid (by rw[hWk,hbk];exact mkV_row w9 Zt T _)
 have HB10:=Lib.hid (HB8.out.trans (hb.mono HB8.out.size))
 have HY10:=Lib.hid ((HY8.out.below hb (Nat.le_refl _)).more hb.size)
 have HR10:=Lib.hid ((HR8.out.below hb (Nat.le_refl _)).more hb.size)
 have HVa10:=Lib.hid ((HVa8.out.below hb (Nat.le_refl _)).more hb.size)
 have HVb10:=Lib.hid ((HVb8.out.below hb (Nat.le_refl _)).more hb.size)
 have HX10:=Lib.hid (HX8.out.below hb HX8.out.lt)
 have HOu110:=Lib.hid ((HOu18.out.below hb (Nat.le_refl _)).more hb.size)
 have HOu210:=Lib.hid ((HOu28.out.below hb (Nat.le_refl _)).more hb.size)
 have HBOXa10:=Lib.hid (HBOXa8.out.below hb HBOXa8.out.lt)
 have HOu310:=Lib.hid ((HOu38.out.below hb (Nat.le_refl _)).more hb.size)
 have HOu410:=Lib.hid ((HOu48.out.below hb (Nat.le_refl _)).more hb.size)
 have HBOXb10:=Lib.hid (HBOXb8.out.below hb HBOXb8.out.lt)
 have HBOXc10:=Lib.hid (HBOX8.out.below hb HBOX8.out.lt)
 have HW10:=Lib.hid hWk;have HBK10:=Lib.hid hbk
 clear hbj hbl hb hWk hbk
 go_wp2_with (first
  |(refine wpList_store_rowTo rfl _ _ _ rfl rfl w9.heap.size T rfl rfl 36 Zt (heap_alloc_new w9 _) (by rw[HTS.out];exact szTok) (by rw[HZTS.out,HTS.out]) HTO.out ?_;change wpList _ _ _ _ _ (mkV w9 Zt T 36);rw[←HW10.out,←HBK10.out])
  |(refine wpList_load_row rfl _ _ rfl b4 rfl _ Xa (0,0) _ HBOXa10.out Tryz.underlying28 rfl (szBlkT _ HXaS.out) ?_)
  |(refine wpList_load_row rfl _ _ rfl b6 rfl _ Xb (0,0) _ HBOXb10.out Tryz.underlying28 rfl (szBlkT _ HXbS.out) ?_)
  |fail)
 have HSM:=Lib.hid (rsame13_any w10 k.kind k.last (k.left:Int) (tcO k.kind k.F k.n) (tcO k.kind k.G k.m) u1 u2 u3 u4 (syO k.kind k.F k.n) (syO k.kind k.G k.m) HOu110.out HOu210.out HOu310.out HOu410.out HZ.out.1 HZ.out.2)
 rw[←blkT_I,←blkT_I,←HXaE.out,←HXbE.out]at HSM
 refine HSM.out.mono ?_
 rintro e w11 ⟨rfl,hb⟩
 have HB11:=Lib.hid (HB10.out.trans (hb.mono HB10.out.size))
 have HY11:=Lib.hid ((HY10.out.below hb (Nat.le_refl _)).more hb.size)
 have HR11:=Lib.hid ((HR10.out.below hb (Nat.le_refl _)).more hb.size)
 have HVa11:=Lib.hid ((HVa10.out.below hb (Nat.le_refl _)).more hb.size)
 have HVb11:=Lib.hid ((HVb10.out.below hb (Nat.le_refl _)).more hb.size)
 have HX11:=Lib.hid (HX10.out.below hb HX10.out.lt)
 have HOu111:=Lib.hid ((HOu110.out.below hb (Nat.le_refl _)).more hb.size)
 have HOu211:=Lib.hid ((HOu210.out.below hb (Nat.le_refl _)).more hb.size)
 have HBOXa11:=Lib.hid (HBOXa10.out.below hb HBOXa10.out.lt)
 have HOu311:=Lib.hid ((HOu310.out.below hb (Nat.le_refl _)).more hb.size)
 have HOu411:=Lib.hid ((HOu410.out.below hb (Nat.le_refl _)).more hb.size)
 have HBOXb11:=Lib.hid (HBOXb10.out.below hb HBOXb10.out.lt)
 have HBOXc11:=Lib.hid (HBOXc10.out.below hb HBOXc10.out.lt)
 have HBOXd11:=Lib.hid (HBOX10.out.below hb HBOX10.out.lt)
 clear hb HSM
 go_wp2_with (first
  |(refine wpList_load_row_on (by rfl) _ _ rfl b8 rfl _ T (0,0) _ HBOXc11.out Tryz.underlying36 rfl (by rw[HTS.out];exact szTok) ?_)
  |(refine wpList_load_row_on (by rfl) _ _ rfl b10 rfl _ T (0,0) _ HBOXd11.out Tryz.underlying36 rfl (by rw[HTS.out];exact szTok) ?_)
  |(refine wpList_eql_at (by rfl) _ _ _ rfl (.agg T) (.agg T) true rfl rfl (run_eqGuard_agg _ _ _ _ _ _ _ guardTok) (HTQ.out _) ?_)
  |fail)
 have s5:=fun(W:World) (hW:Below w11.heap.size w11 W)=>run_str (HY11.out.1.below hW (Nat.le_refl _)) k1
 have s6:=fun(W:World) (hW:Below w11.heap.size w11 W)=>run_str (HR11.out.1.below hW (Nat.le_refl _)) c
 obtain⟨S,hS⟩:∃Z,Z=strB l g:=⟨_,rfl⟩
 rw[←hS]at s5 s6
 have HS5:=Lib.hid s5;have HS6:=Lib.hid s6
 have HLX:Hid (∀W,Below w11.heap.size w11 W→(Instr.loadAt 28 (.pointer (some ⟨h,0,none⟩))).run Tryz.prog W=.ok (.agg X) W):=Lib.hid fun W hW=>by
  have hl:=run_loadVar_row (P:=Tryz.prog) W h 28 28 X (0,0) _ (HX11.out.below hW HX11.out.lt) Tryz.underlying28 rfl (szBlkT _ HXS.out)
  simp only[Instr.loadAt,Instr.sureAddr,Sem.run_bind,Sem.run_pure,Result.andThen_ok,hl]
 have HCa:Hid (∀W,Below w11.heap.size w11 W→Calls Tryz.prog 13 #[.agg X] W fun e w'=>e=.returned (.int .i64 CK)∧Below W.heap.size W w'):=Lib.hid fun W hW=>HC1.out W ((HVa11.out.below hW (Nat.le_refl _)).more hW.size) ((HVb11.out.below hW (Nat.le_refl _)).more hW.size)
 have HCb:Hid (∀W,Below w11.heap.size w11 W→Calls Tryz.prog 14 #[.agg X] W fun e w'=>e=.returned (.int .i64 CK)∧Below W.heap.size W w'):=Lib.hid fun W hW=>HC2.out W ((HVa11.out.below hW (Nat.le_refl _)).more hW.size) ((HVb11.out.below hW (Nat.le_refl _)).more hW.size)
 clear s5 s6 hS
 refine wp_region_tab (tabT [fun v _=>v=.bool true,fun v _=>v=.bool true,fun v _=>v=.agg X,fun v _=>v=.int .i64 CK,fun v _=>v=.agg X,fun v _=>v=.int .i64 CK,fun v _=>v=.bool true,fun v _=>v=.bool true,fun v _=>v=.bool true,fun v _=>v=.slice A1 l k1,fun v _=>v=.string S,fun v _=>v=.slice A l c,fun v _=>v=.string S,fun v _=>v=.bool true,fun v _=>v=.bool true,fun v _=>v=.bool true]) w11 (Below.refl _ _) (by kernel_rfl) (by kernel_rfl) ?_ ?_
 case refine_1=>
  refine TabAll.cons (fun aa wv hb ha hS Kk Qq hK=>tab_move (tab_free rfl) _ rfl (up_eq ((ha 22 (by kernel_rfl)).trans rfl)) hK) ?_
  refine TabAll.cons (fun aa wv hb ha hS Kk Qq hK=>tab_move (tab_free rfl) _ rfl (hS 0 106 (by kernel_rfl) rfl) hK) ?_
  refine TabAll.cons (fun aa wv hb ha hS Kk Qq hK=>tab_load (tab_on 1 true rfl 107 rfl (hS 1 107 (by kernel_rfl) rfl).here) _ _ rfl _ (.agg X) (show aa.eval (.tmp 5)=.pointer (some ⟨h,0,none⟩)from((ha 5 (by kernel_rfl)).trans rfl)) (HLX.out wv hb) (up_eq rfl) hK) ?_
  refine TabAll.cons (fun aa wv hb ha hS Kk Qq hK=>tab_call (tab_on 1 true rfl 107 rfl (hS 1 107 (by kernel_rfl) rfl).here) 13 _ _ rfl (enters_of Tryz.func13 (by kernel_rfl) rfl) #[.agg X] (by simp[(show aa.eval (.tmp 108)=.agg X from(hS 2 108 (by kernel_rfl) rfl).here)]) (HCa.out wv hb) (fun e w' h=>⟨_,h.1,h.2,up_eq rfl⟩) hK) ?_
  refine TabAll.cons (fun aa wv hb ha hS Kk Qq hK=>tab_load (tab_on 1 true rfl 107 rfl (hS 1 107 (by kernel_rfl) rfl).here) _ _ rfl _ (.agg X) (show aa.eval (.tmp 5)=.pointer (some ⟨h,0,none⟩)from((ha 5 (by kernel_rfl)).trans rfl)) (HLX.out wv hb) (up_eq rfl) hK) ?_
  refine TabAll.cons (fun aa wv hb ha hS Kk Qq hK=>tab_call (tab_on 1 true rfl 107 rfl (hS 1 107 (by kernel_rfl) rfl).here) 14 _ _ rfl (enters_of Tryz.func14 (by kernel_rfl) rfl) #[.agg X] (by simp[(show aa.eval (.tmp 110)=.agg X from(hS 4 110 (by kernel_rfl) rfl).here)]) (HCb.out wv hb) (fun e w' h=>⟨_,h.1,h.2,up_eq rfl⟩) hK) ?_
  refine TabAll.cons (fun aa wv hb ha hS Kk Qq hK=>tab_bin (tab_on 1 true rfl 107 rfl (hS 1 107 (by kernel_rfl) rfl).here) _ _ _ _ _ rfl _ _ _ (hS 3 109 (by kernel_rfl) rfl).here (hS 5 111 (by kernel_rfl) rfl).here (eqg_int ..) (eql_int ..) (up_eq rfl) hK) ?_
  refine TabAll.cons (fun aa wv hb ha hS Kk Qq hK=>tab_pick (tab_free rfl) _ _ _ rfl true (hS 1 107 (by kernel_rfl) rfl).here (hS 6 112 (by kernel_rfl) rfl) hK) ?_
  refine TabAll.cons (fun aa wv hb ha hS Kk Qq hK=>tab_move (tab_free rfl) _ rfl (hS 7 113 (by kernel_rfl) rfl) hK) ?_
  refine TabAll.cons (fun aa wv hb ha hS Kk Qq hK=>tab_move (tab_on 8 true rfl 114 rfl (hS 8 114 (by kernel_rfl) rfl).here) _ rfl (up_eq ((ha 7 (by kernel_rfl)).trans rfl)) hK) ?_
  refine TabAll.cons (fun aa wv hb ha hS Kk Qq hK=>tab_convert (tab_on 8 true rfl 114 rfl (hS 8 114 (by kernel_rfl) rfl).here) _ _ _ rfl (.string S) (by rw[(show aa.eval (.tmp 115)=.slice A1 l k1 from(hS 9 115 (by kernel_rfl) rfl).here)];exact HS5.out wv hb) (up_eq rfl) hK) ?_
  refine TabAll.cons (fun aa wv hb ha hS Kk Qq hK=>tab_move (tab_on 8 true rfl 114 rfl (hS 8 114 (by kernel_rfl) rfl).here) _ rfl (up_eq ((ha 0 (by kernel_rfl)).trans rfl)) hK) ?_
  refine TabAll.cons (fun aa wv hb ha hS Kk Qq hK=>tab_convert (tab_on 8 true rfl 114 rfl (hS 8 114 (by kernel_rfl) rfl).here) _ _ _ rfl (.string S) (by rw[(show aa.eval (.tmp 117)=.slice A l c from(hS 11 117 (by kernel_rfl) rfl).here)];exact HS6.out wv hb) (up_eq rfl) hK) ?_
  refine TabAll.cons (fun aa wv hb ha hS Kk Qq hK=>tab_bin (tab_on 8 true rfl 114 rfl (hS 8 114 (by kernel_rfl) rfl).here) _ _ _ _ _ rfl _ _ _ (hS 10 116 (by kernel_rfl) rfl).here (hS 12 118 (by kernel_rfl) rfl).here (eqg_str ..) (eql_str ..) (up_eq rfl) hK) ?_
  refine TabAll.cons (fun aa wv hb ha hS Kk Qq hK=>tab_pick (tab_free rfl) _ _ _ rfl true (hS 8 114 (by kernel_rfl) rfl).here (hS 13 119 (by kernel_rfl) rfl) hK) ?_
  refine TabAll.cons (fun aa wv hb ha hS Kk Qq hK=>tab_assign (tab_free rfl) _ rfl (hS 14 120 (by kernel_rfl) rfl) hK) ?_
  exact TabAll.nil
 intro vals wz hb hv
 have e6:vals 6=.bool true:=(hv 15 6 rfl).here
 have HFN:=Lib.hid (HB11.out.trans (hb.mono HB11.out.size))
 clear hb hv
 simp only[List.map_cons,List.map_nil,putL,Act.put,List.setIfInBounds_toArray,List.set_cons_zero,List.set_cons_succ,e6]
 go_wp2
 go_ret
 exact⟨rfl,HFN.out⟩
theorem reads13_law(A:Option Addr)(l c:Nat)(g:Nat→Nat)(a:Int)(kd:Nat)(last:Bool)(left:Int)(c1 c2:Nat→Int)(v1 v2:Value)(s1 s2:List Int)(w:World)(hr:ByR w w.heap.size A l c g)(ha1: -9223372036854775808≤a)(ha2:a≤9223372036854775807)
  (hkd:kd<256) (h1:RdS w w.heap.size v1 s1) (h2:RdS w w.heap.size v2 s2):
  Calls Tryz.prog 3 #[.slice A l c,.int .i64 a,.agg (blkI kd last left c1 c2 v1 v2)] w fun e w'=>e=.returned (.bool true)∧Below w.heap.size w w':=by
 have h1':=h1
 have h2':=h2
 obtain⟨B1,e1,rfl,-⟩:=h1'
 obtain⟨B2,e2,rfl,-⟩:=h2'
 obtain⟨m1,hm1⟩:∃m,s1.length=m:=⟨_,rfl⟩
 obtain⟨m2,hm2⟩:∃m,s2.length=m:=⟨_,rfl⟩
 rw[hm1]at h1⊢
 rw[hm2]at h2⊢
 by_cases hn0:400<l
 ·obtain⟨h,hh⟩:∃h,h=w.heap.size:=⟨_,rfl⟩
  obtain⟨X,hX⟩:∃X,X=blkI kd last left c1 c2 (.slice B1 m1 e1) (.slice B2 m2 e2):=⟨_,rfl⟩
  rw[←hX]
  obtain⟨W1,hW1⟩:∃W1,W1=w.alloc (.cells X 28):=⟨_,rfl⟩
  have hb1:Below w.heap.size w W1:=by rw[hW1];exact(Below.refl _ _).alloc (Nat.le_refl _) _
  have x1:BoxC W1 h X 28:=by rw[hW1,hh];exact BoxC.new w _ _
  have q1:W1.cell? ⟨h,19,none⟩=some (.slice B1 m1 e1):=x1.cell.trans (by rw[hX];rfl)
  have q2:W1.cell? ⟨h,36,none⟩=some (.slice B2 m2 e2):=x1.cell.trans (by rw[hX];rfl)
  have HW1:=Lib.hid hW1;have HH:=Lib.hid hh;have HB1:=Lib.hid hb1
  have hd:decide (400<l)=true:=decT hn0
  clear hX hW1 hh hb1 x1 hr h1 h2 hm1 hm2 hn0
  go_enter Tryz.func3,Tryz.ntmps3
  go_wp2_with (first|(rw[←HW1.out,←HH.out])|fail)
  refine(rgreat13_any W1 A l c).mono ?_
  rintro e w9 ⟨rfl,rfl⟩
  rw[hd]
  go_wp2
  go_ret
  exact⟨rfl,HB1.out⟩
 by_cases hn1:1000<m1
 ·obtain⟨h,hh⟩:∃h,h=w.heap.size:=⟨_,rfl⟩
  obtain⟨X,hX⟩:∃X,X=blkI kd last left c1 c2 (.slice B1 m1 e1) (.slice B2 m2 e2):=⟨_,rfl⟩
  rw[←hX]
  obtain⟨W1,hW1⟩:∃W1,W1=w.alloc (.cells X 28):=⟨_,rfl⟩
  have hb1:Below w.heap.size w W1:=by rw[hW1];exact(Below.refl _ _).alloc (Nat.le_refl _) _
  have x1:BoxC W1 h X 28:=by rw[hW1,hh];exact BoxC.new w _ _
  have q1:W1.cell? ⟨h,19,none⟩=some (.slice B1 m1 e1):=x1.cell.trans (by rw[hX];rfl)
  have q2:W1.cell? ⟨h,36,none⟩=some (.slice B2 m2 e2):=x1.cell.trans (by rw[hX];rfl)
  have HW1:=Lib.hid hW1;have HH:=Lib.hid hh;have HB1:=Lib.hid hb1
  have hd:decide (400<l)=false:=decF hn0
  have d1:decide (1000<(m1:Int))=true:=decT (by omega)
  have d1':decide (1000<m1)=true:=decT hn1
  clear hX hW1 hh hb1 x1 hr h1 h2 hm1 hm2 hn0 hn1
  go_enter Tryz.func3,Tryz.ntmps3
  go_wp2_with (first|(rw[←HW1.out,←HH.out])|fail)
  refine(rgreat13_any W1 A l c).mono ?_
  rintro e w9 ⟨rfl,rfl⟩
  rw[hd]
  go_wp2
  go_ret
  exact⟨rfl,HB1.out⟩
 by_cases hn2:1000<m2
 ·obtain⟨h,hh⟩:∃h,h=w.heap.size:=⟨_,rfl⟩
  obtain⟨X,hX⟩:∃X,X=blkI kd last left c1 c2 (.slice B1 m1 e1) (.slice B2 m2 e2):=⟨_,rfl⟩
  rw[←hX]
  obtain⟨W1,hW1⟩:∃W1,W1=w.alloc (.cells X 28):=⟨_,rfl⟩
  have hb1:Below w.heap.size w W1:=by rw[hW1];exact(Below.refl _ _).alloc (Nat.le_refl _) _
  have x1:BoxC W1 h X 28:=by rw[hW1,hh];exact BoxC.new w _ _
  have q1:W1.cell? ⟨h,19,none⟩=some (.slice B1 m1 e1):=x1.cell.trans (by rw[hX];rfl)
  have q2:W1.cell? ⟨h,36,none⟩=some (.slice B2 m2 e2):=x1.cell.trans (by rw[hX];rfl)
  have HW1:=Lib.hid hW1;have HH:=Lib.hid hh;have HB1:=Lib.hid hb1
  have hd:decide (400<l)=false:=decF hn0
  have d1:decide (1000<(m1:Int))=false:=decF (by omega)
  have d1':decide (1000<m1)=false:=decF hn1
  have d2:decide (1000<(m2:Int))=true:=decT (by omega)
  have d2':decide (1000<m2)=true:=decT hn2
  clear hX hW1 hh hb1 x1 hr h1 h2 hm1 hm2 hn0 hn1 hn2
  go_enter Tryz.func3,Tryz.ntmps3
  go_wp2_with (first|(rw[←HW1.out,←HH.out])|fail)
  refine(rgreat13_any W1 A l c).mono ?_
  rintro e w9 ⟨rfl,rfl⟩
  rw[hd]
  go_wp2
  go_ret
  exact⟨rfl,HB1.out⟩
 exact reads13_main A l c g a kd last left c1 c2 B1 e1 B2 e2 s1 s2 m1 m2 w hr ha1 ha2 hkd h1 h2 hm1 hm2 hn0 hn1 hn2
end Go.Proofs.YtgokdgcmkcmjeaaGreat
