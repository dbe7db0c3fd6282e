/-
  Words and walks.
-/
import Derived.Test.YtgokdgcmkcmjeaaGreatprau
set_option maxRecDepth 100000
set_option maxHeartbeats 16000000
namespace Go.Proofs.YtgokdgcmkcmjeaaGreat
open Go.RowKit
def blkZ(last:Bool):Blk13:=⟨2,last,0,nof13,0,nof13,0⟩
def z5:Array Value:=#[.int .u8 0,.bool false,.int .i64 0,.slice none 0 0,.slice none 0 0]
def NewAt(base n:Nat)(A:Option Addr):Prop:=∀g o,0<n→A=some ⟨g,o,none⟩→base≤g
def BlkD(base:Nat)(R:Blk13×Nat×Int)(e:Ending)(w':World):Prop:=
 ∃A1 c1 A2 c2,e=.returned (.tuple #[.agg (blkC R.1 A1 c1 A2 c2),.int .i64 (R.2.1:Int),.int .i64 R.2.2])∧RdB w' w'.heap.size A1 R.1.n R.1.F∧RdB w' w'.heap.size A2 R.1.m R.1.G∧NewAt base R.1.n A1∧NewAt base R.1.m A2∧(R.2.2=0→BlkIn R.1)
theorem rd_nof(w:World)(B:Nat)(A:Option Addr):RdB w B A 0 nof13:=⟨fun j=>by show 0<256;omega,fun h=>absurd h (by omega)⟩
theorem BlkD.none{base:Nat}{R:Blk13×Nat×Int}{w':World}{x:Int}(h:R=(blk0,0,x))(hx:x≠0):BlkD base R (.returned (.tuple #[.agg z5,.int .i64 0,.int .i64 x])) w':=by
 subst h
 exact⟨.none,0,.none,0,rfl,rd_nof _ _ _,rd_nof _ _ _,(fun _ _ h=>absurd h (by show¬0<0;omega)),(fun _ _ h=>absurd h (by show¬0<0;omega)),fun h=>absurd h hx⟩
theorem built_blk0:Tryz.prog.built 73 []=some z5:=by kernel_rfl
theorem szBlk5(cs:Array Value)(h:cs.size=5):(Tryz.prog.info? 73).map (·.size)=some cs.size:=by rw[h];exact(zero_of_info infoBlk13).2
theorem cell_blk2{fn:Func}{p u v:Tmp}(h:fn.results=#[.cell p 73,.tmp u,.tmp v])(tmps:Array Value)(w:World)(g:Nat)(cs:Array Value)(hs:cs.size=5)(hp:tmps.getD p undef=.pointer (some ⟨g,0,none⟩))(ht:w.heap[g]?=some (.cells cs 73 (0,0))):
  (results fn tmps).run Tryz.prog w=.ok (.tuple #[.agg cs,tmps.getD u undef,tmps.getD v undef]) w:=by
 have hp':tmps[p]?.getD undef=.pointer (some ⟨g,0,none⟩):=by simpa using hp
 have hl:=run_loadVar_row (P:=Tryz.prog) w g 73 73 cs (0,0) _ ht Tryz.underlying73 rfl (szBlk5 cs hs)
 simp[results,h,hp',asAddr,hl]
theorem dyn_end{last:Bool}{g:Nat→Nat}{L a:Nat}(h:8*L<a+14):dynR last g L a=(blk0,0,10):=by unfold dynR;rw[if_pos h]
theorem dyn_v{last:Bool}{g:Nat→Nat}{L a v:Nat}(h:¬8*L<a+14)(hv:v=numN g a 14):dynR last g L a=dynV last v g L (a+14):=by unfold dynR;rw[if_neg h,hv]
theorem lenR_len{F g:Nat→Nat}{L n:Nat}:∀k a out,out.length≤n→n≤out.length+k→(lenR F g L n k a out).2.2=0→(lenR F g L n k a out).1.length=n
 |0,a,out,h1,h2,_=>by show out.length=n;omega
 |k+1,a,out,h1,h2,h=>by
  rw[lenR_s]at h⊢
  by_cases h0:n≤out.length
  ·rw[if_pos h0];show out.length=n;omega
  ·rw[if_neg h0]at h⊢
   generalize readR F 19 g L a 17 0=R at h⊢
   unfold lenG at h⊢
   by_cases c1:R.2.2≠0
   ·rw[if_pos c1]at h;exact absurd h c1
   ·rw[if_neg c1]at h⊢
    by_cases c2:8*L<R.2.1+bitsR (R.1:Int)
    ·rw[if_pos c2]at h;simp at h
    ·rw[if_neg c2]at h⊢
     split at h
     ·simp at h
     ·rename_i c3
      rw[if_neg c3]
      have ht:=times_pos (R.1:Int) ((numN g R.2.1 (bitsR (R.1:Int)):Nat):Int)
      exact lenR_len k _ _ (by rw[List.length_append,List.length_replicate];omega) (by rw[List.length_append,List.length_replicate];omega) h
theorem RdB.move{w w':World}{B B' n:Nat}{A:Option Addr}{f:Nat→Nat}(h:RdB w B A n f)(hk:∀b o,A=some ⟨b,o,none⟩→0<n→b<B'∧w'.heap[b]?=w.heap[b]?):RdB w' B' A n f:=by
 refine⟨h.1,fun h0=>?_⟩
 obtain⟨b,o,e,_,hc⟩:=h.2 h0
 obtain⟨k1,k2⟩:=hk b o e h0
 exact⟨b,o,e,k1,fun j hj=>(World.cell?_of_block (w:=w) k2).trans (hc j hj)⟩
theorem RdB.le{w:World}{B n m:Nat}{A:Option Addr}{f:Nat→Nat}(h:RdB w B A n f)(hm:m≤n):RdB w B A m f:=by
 refine⟨h.1,fun h0=>?_⟩
 obtain⟨b,o,e,h1,hc⟩:=h.2 (by omega)
 exact⟨b,o,e,h1,fun j hj=>hc j (by omega)⟩
theorem rd_lt{w:World}{B n b o:Nat}{A:Option Addr}{f:Nat→Nat}(h:RdB w B A n f)(h0:0<n)(e:A=some ⟨b,o,none⟩):b<B:=by
 obtain⟨b2,o2,e2,h1,_⟩:=h.2 h0
 rw[e]at e2;injection e2 with e2;injection e2 with e3 _ _;omega
theorem add_off13(b o p:Nat):(⟨b,o,none⟩:Addr).add p=⟨b,o+p,none⟩:=by unfold Addr.add;split<;>simp_all
theorem rdyn13_any(w:World)(last:Bool)(A:Option Addr)(l c:Nat)(g:Nat→Nat)(hg:RdB w w.heap.size A l g)(hl:l≤1000000)(a:Nat)(ha:a≤8*l):
  Calls Tryz.prog 58 #[.agg (blkC (blkZ last) none 0 none 0),.slice A l c,.int .i64 (a:Int)] w fun e w'=>BlkD w.heap.size (dynR last g l a) e w'∧Below w.heap.size w w':=by
 obtain⟨h,hh⟩:∃h,h=w.heap.size:=⟨_,rfl⟩
 obtain⟨X,hX⟩:∃X,X=blkC (blkZ last) none 0 none 0:=⟨_,rfl⟩
 have hXe:X=#[.int .u8 2,.bool last,.int .i64 0,.slice none 0 0,.slice none 0 0]:=hX
 rw[←hX]
 obtain⟨Z,hZ⟩:∃Z,Z=z5:=⟨_,rfl⟩
 obtain⟨W1,hW1⟩:∃W1,W1=(w.alloc (.cells X 73)).alloc (.cells Z 73):=⟨_,rfl⟩
 have hb1:Below h w W1:=by rw[hW1,hh];exact((Below.refl _ _).alloc (Nat.le_refl _) _).alloc (by simp) _
 have x1:BoxC W1 h X 73:=by rw[hW1,hh];exact(BoxC.new w _ _).old _
 have t1:BoxC W1 (h+1) Z 73:=by rw[hW1,hh];have:=BoxC.new (w.alloc (.cells X 73)) Z 73;rwa[World.size_alloc]at this
 obtain⟨R,hR⟩:∃R,R=dynR last g l a:=⟨_,rfl⟩
 rw[←hR]
 have HG:=Lib.hid hg;have HX1:=Lib.hid x1;have HT1:=Lib.hid t1;have HB1:=Lib.hid hb1;have HH:=Lib.hid hh;have HW1:=Lib.hid hW1;have HXE:=Lib.hid hXe
 have HTK:Hid (∀V,Below h w V→Calls Tryz.prog 57 #[.slice A l c,.int .i64 (a:Int),.int .i64 14] V fun e w'=>e=.returned (.tuple #[.int .u32 (takeV g l (a:Int) ((14:Nat):Int):Nat),.int .i64 (takeE l (a:Int) ((14:Nat):Int))])∧V=w'):=Lib.hid fun V hV=>rtake_any V V.heap.size A l c g (a:Int) ((14:Nat):Int) ((hg.below (by rw[←hh];exact hV) (Nat.le_refl _)).more (by have:=hV.size;exact this)) (by omega) (by omega)
 obtain⟨tk1,tk2⟩:=take13 (g:=g) (l:=l) (a:=a) (n:=14) (by omega)
 rw[tk1]at HTK
 have hzb:∀u:World,(zeroValue 73).run Tryz.prog u=.ok (.agg Z) u:=by rw[hZ];exact(zero_of_info infoBlk13).1
 have HZS:Hid (Z.size=5):=Lib.hid (by rw[hZ];rfl)
 have HZO:Hid (Z.all (·.oneCell')=true):=Lib.hid (by rw[hZ];simp[z5,Value.oneCell'])
 have HZE:=Lib.hid hZ
 have HZB:Hid (Tryz.prog.built 73 []=some Z):=Lib.hid (by rw[hZ];exact built_blk0)
 clear hg x1 t1 hb1 hW1 hXe hX tk1 hh hZ
 by_cases y0:8*l<a+14
 ·rw[if_pos y0]at HTK
  obtain⟨TV,hTV⟩:∃v,v=takeV g l (a:Int) ((14:Nat):Int):=⟨_,rfl⟩
  rw[←hTV]at HTK
  have hres:R=(blk0,0,10):=by rw[hR];exact dyn_end y0
  have HRES:=Lib.hid hres
  clear y0 tk2 hTV hres hR
  go_enter Tryz.func58,Tryz.ntmps58
  go_wp2_with (first|(rw[←HW1.out,←HH.out])|fail)
  refine(HTK.out W1 HB1.out).mono ?_
  rintro e w9 ⟨rfl,rfl⟩
  go_wp2_with (first
   |(refine wpList_buildTo rfl 73 #[] rfl (some 26) rfl Z ?_ ?_;focus(simpa[Act.eval]using HZB.out))
   |(refine wpList_store_rowTo rfl _ _ _ rfl rfl (h+1) Z rfl rfl 73 Z HT1.out (szBlk5 _ HZS.out) rfl HZO.out ?_)
   |fail)
  refine bodyPost_ret ((cell_blk2 rfl _ _ (h+1) _ HZS.out rfl (setRow_heap _ _ _ _ _ _ HT1.out)).trans rfl) rfl ⟨?_,?_⟩
  ·rw[HZE.out];exact BlkD.none HRES.out (by decide)
  ·rw[←HH.out];exact below_rowU13 HB1.out (by omega) _
 rw[if_neg y0,tk2 y0]at HTK
 have hv14:numN g a 14<16384:=numN_lt g a 14
 obtain⟨v,hv⟩:∃v,v=numN g a 14:=⟨_,rfl⟩
 rw[←hv]at HTK hv14
 have hres:R=dynV last v g l (a+14):=by rw[hR];exact dyn_v y0 hv
 have HRES:=Lib.hid hres
 clear tk2 hv hres hR
 go_enter Tryz.func58,Tryz.ntmps58
 go_wp2_with (first|(rw[←HW1.out,←HH.out])|fail)
 refine(HTK.out W1 HB1.out).mono ?_
 rintro e w9 ⟨rfl,rfl⟩
 obtain⟨x,hx⟩:∃x,x=v%32+257:=⟨_,rfl⟩
 obtain⟨y,hy⟩:∃x,x=v/32%32+1:=⟨_,rfl⟩
 obtain⟨n,hn⟩:∃x,x=v/1024+4:=⟨_,rfl⟩
 have ex:(v:Int)%32+257=(x:Int):=by omega
 have ey:(v:Int)/32%32+1=(y:Int):=by omega
 have en:(v:Int)/1024+4=(n:Int):=by omega
 have hn19:n≤19:=by omega
 have hx1:257≤x∧x≤288:=by omega
 have hy1:1≤y∧y≤32:=by omega
 have hres2:R=if 286<x∨30<y then(blk0,0,132)else if 8*l<a+14+3*n then(blk0,0,10)else dynS last (shR g (a+14) n) g l (a+14+3*n) x y:=by rw[HRES.out,hx,hy,hn];rfl
 have HRES2:=Lib.hid hres2
 clear hres2 HRES hx hy hn
 by_cases y1:286<x
 ·have d1:decide ((286:Int)<(x:Int))=true:=decY (by omega)
  have d1':decide (286<x)=true:=decY0 y1
  have hr3:R=(blk0,0,132):=by rw[HRES2.out,if_pos (.inl y1)]
  have HR3:=Lib.hid hr3
  clear hr3 y1
  go_wp2_with (first
   |(refine wpList_buildTo rfl 73 #[] rfl (some 47) rfl Z ?_ ?_;focus(simpa[Act.eval]using HZB.out))
   |(refine wpList_store_rowTo rfl _ _ _ rfl rfl (h+1) Z rfl rfl 73 Z HT1.out (szBlk5 _ HZS.out) rfl HZO.out ?_)
   |fail)
  refine bodyPost_ret ((cell_blk2 rfl _ _ (h+1) _ HZS.out rfl (setRow_heap _ _ _ _ _ _ HT1.out)).trans rfl) rfl ⟨?_,?_⟩
  ·rw[HZE.out];exact BlkD.none HR3.out (by decide)
  ·rw[←HH.out];exact below_rowU13 HB1.out (by omega) _
 have d1:decide ((286:Int)<(x:Int))=false:=decN (by omega)
 have d1':decide (286<x)=false:=decN0 y1
 by_cases y2:30<y
 ·have d2:decide ((30:Int)<(y:Int))=true:=decY (by omega)
  have d2':decide (30<y)=true:=decY0 y2
  have hr3:R=(blk0,0,132):=by rw[HRES2.out,if_pos (.inr y2)]
  have HR3:=Lib.hid hr3
  clear hr3 y1 y2
  go_wp2_with (first
   |(refine wpList_buildTo rfl 73 #[] rfl (some 47) rfl Z ?_ ?_;focus(simpa[Act.eval]using HZB.out))
   |(refine wpList_store_rowTo rfl _ _ _ rfl rfl (h+1) Z rfl rfl 73 Z HT1.out (szBlk5 _ HZS.out) rfl HZO.out ?_)
   |fail)
  refine bodyPost_ret ((cell_blk2 rfl _ _ (h+1) _ HZS.out rfl (setRow_heap _ _ _ _ _ _ HT1.out)).trans rfl) rfl ⟨?_,?_⟩
  ·rw[HZE.out];exact BlkD.none HR3.out (by decide)
  ·rw[←HH.out];exact below_rowU13 HB1.out (by omega) _
 have d2:decide ((30:Int)<(y:Int))=false:=decN (by omega)
 have d2':decide (30<y)=false:=decN0 y2
 have hr3:R=if 8*l<a+14+3*n then(blk0,0,10)else dynS last (shR g (a+14) n) g l (a+14+3*n) x y:=by rw[HRES2.out,if_neg (by omega)]
 have ha14:a+14≤8*l:=by omega
 have HSZ:Hid (h+2≤W1.heap.size):=Lib.hid HT1.out.lt
 have HSH:Hid (Calls Tryz.prog 99 #[.slice A l c,.int .i64 ((a:Int)+14),.int .i64 (n:Int)] W1 fun e w'=>ShoOut W1.heap.size g l (a+14) n e w'∧Below W1.heap.size W1 w'):=Lib.hid (by
  have h1:=rshort13_any W1 A l c g ((HG.out.below (HH.out▸HB1.out) (Nat.le_refl _)).more (HH.out▸HB1.out.size)) hl (a+14) n ha14 hn19
  rw[show(((a+14:Nat)):Int)=(a:Int)+14 by omega]at h1
  exact h1)
 obtain⟨F,hF⟩:∃F,F=shR g (a+14) n:=⟨_,rfl⟩
 obtain⟨pl,hpl⟩:∃x,x=a+14+3*n:=⟨_,rfl⟩
 rw[←hF,←hpl]at hr3
 have HR3:=Lib.hid hr3
 have HF:=Lib.hid hF;have HPL:=Lib.hid hpl
 clear hr3 HRES2 y1 y2
 by_cases y3:8*l<pl
 ·have hr4:R=(blk0,0,10):=by rw[HR3.out,if_pos y3]
  have HR4:=Lib.hid hr4
  have hcut:8*l<a+14+3*n:=by rw[←hpl];exact y3
  clear hr4 hpl hF
  go_wp2_with fail
  refine HSH.out.mono ?_
  rintro e w2 ⟨hsho,hb2⟩
  have HB2:=Lib.hid (HB1.out.trans (hb2.mono (by have:=HSZ.out;omega)))
  have HT2:=Lib.hid (HT1.out.below hb2 (by have:=HSZ.out;omega))
  have HX2:=Lib.hid (HX1.out.below hb2 (by have:=HSZ.out;omega))
  have HSZ2:Hid (h+2≤w2.heap.size):=Lib.hid (Nat.le_trans HSZ.out hb2.size)
  clear hb2
  unfold ShoOut at hsho
  rw[if_pos hcut]at hsho
  subst hsho
  clear y3 hcut
  go_wp2_with (first
   |(refine wpList_buildTo rfl 73 #[] rfl (some 59) rfl Z ?_ ?_;focus(simpa[Act.eval]using HZB.out))
   |(refine wpList_store_rowTo rfl _ _ _ rfl rfl (h+1) Z rfl rfl 73 Z HT2.out (szBlk5 _ HZS.out) rfl HZO.out ?_)
   |fail)
  refine bodyPost_ret ((cell_blk2 rfl _ _ (h+1) _ HZS.out rfl (setRow_heap _ _ _ _ _ _ HT2.out)).trans rfl) rfl ⟨?_,?_⟩
  ·rw[HZE.out];exact BlkD.none HR4.out (by decide)
  ·rw[←HH.out];exact below_rowU13 HB2.out (by omega) _
 have hcut:¬8*l<a+14+3*n:=by rw[←hpl];exact y3
 have hr4:R=dynS last F g l pl x y:=by rw[HR3.out,if_neg y3]
 by_cases y4:checkE F 19 7≠0∨allN F 19≠32768
 ·have hr5:R=(blk0,0,132):=by rw[hr4];unfold dynS;rw[if_pos y4]
  have HR5:=Lib.hid hr5
  have y4':checkE (shR g (a+14) n) 19 7≠0∨allN (shR g (a+14) n) 19≠32768:=by rw[←hF];exact y4
  have HY:=Lib.hid y4'
  clear hr4 hr5 hpl hF y4 y4'
  go_wp2_with fail
  refine HSH.out.mono ?_
  rintro e w2 ⟨hsho,hb2⟩
  have HB2:=Lib.hid (HB1.out.trans (hb2.mono (by have:=HSZ.out;omega)))
  have HT2:=Lib.hid (HT1.out.below hb2 (by have:=HSZ.out;omega))
  have HX2:=Lib.hid (HX1.out.below hb2 (by have:=HSZ.out;omega))
  have HSZ2:Hid (h+2≤w2.heap.size):=Lib.hid (Nat.le_trans HSZ.out hb2.size)
  clear hb2
  unfold ShoOut at hsho
  rw[if_neg hcut,if_pos HY.out]at hsho
  subst hsho
  clear y3 hcut
  go_wp2_with (first
   |(refine wpList_buildTo rfl 73 #[] rfl (some 59) rfl Z ?_ ?_;focus(simpa[Act.eval]using HZB.out))
   |(refine wpList_store_rowTo rfl _ _ _ rfl rfl (h+1) Z rfl rfl 73 Z HT2.out (szBlk5 _ HZS.out) rfl HZO.out ?_)
   |fail)
  refine bodyPost_ret ((cell_blk2 rfl _ _ (h+1) _ HZS.out rfl (setRow_heap _ _ _ _ _ _ HT2.out)).trans rfl) rfl ⟨?_,?_⟩
  ·rw[HZE.out];exact BlkD.none HR5.out (by decide)
  ·rw[←HH.out];exact below_rowU13 HB2.out (by omega) _
 have hr5:R=dynL last (lenR F g l (x+y) (x+y) pl []) x y:=by rw[hr4];unfold dynS;rw[if_neg y4]
 have hcF:checkE F 19 7=0:=by omega
 have y4':¬(checkE (shR g (a+14) n) 19 7≠0∨allN (shR g (a+14) n) 19≠32768):=by rw[←hF];exact y4
 obtain⟨xy,hxy⟩:∃z,z=x+y:=⟨_,rfl⟩
 have exy:(x:Int)+(y:Int)=(xy:Int):=by omega
 have hxy2:xy≤320:=by omega
 obtain⟨Q,hQ⟩:∃Q,Q=lenR F g l (x+y) (x+y) pl []:=⟨_,rfl⟩
 rw[←hQ]at hr5
 rw[←hxy]at hQ
 have hplx:pl≤8*l:=by omega
 have hF8:∀j,F j<256:=fun j=>by rw[hF];exact shR_lt g (a+14) n j
 have HR5:=Lib.hid hr5;have HQ:=Lib.hid hQ;have HCF:=Lib.hid hcF;have HY:=Lib.hid y4';have HF8:=Lib.hid hF8;have HXY:=Lib.hid hxy
 clear hr4 hr5 hpl hF y4 y4' hQ hcF hF8 hxy
 go_wp2_with fail
 refine HSH.out.mono ?_
 rintro e w2 ⟨hsho,hb2⟩
 have HB2:=Lib.hid (HB1.out.trans (hb2.mono (by have:=HSZ.out;omega)))
 have HT2:=Lib.hid (HT1.out.below hb2 (by have:=HSZ.out;omega))
 have HX2:=Lib.hid (HX1.out.below hb2 (by have:=HSZ.out;omega))
 have HSZ2:Hid (h+2≤w2.heap.size):=Lib.hid (Nat.le_trans HSZ.out hb2.size)
 clear hb2
 unfold ShoOut at hsho
 rw[if_neg hcut,if_neg HY.out]at hsho
 obtain⟨b,hbb,rfl,hrow⟩:=hsho
 rw[←HPL.out]
 rw[←HF.out]at hrow
 have HLN:=Lib.hid (rlen13_any w2 (some ⟨b,0,none⟩) 19 F (hrow.rd HF8.out) (CodeOk.of HCF.out) A l c g ((HG.out.below (HH.out▸HB2.out) (Nat.le_refl _)).more (HH.out▸HB2.out.size)) hl pl xy hplx hxy2)
 rw[←HQ.out]at HLN
 clear hbb hrow hcut y3
 go_wp2_with fail
 refine HLN.out.mono ?_
 rintro e w3 ⟨⟨Ao,co,rfl,hroN⟩,hb3⟩
 have hro:=hroN.rd
 have hnew:=hroN.new
 clear hroN
 have HB3:=Lib.hid (HB2.out.trans (hb3.mono (by have:=HSZ2.out;omega)))
 have HT3:=Lib.hid (HT2.out.below hb3 (by have:=HSZ2.out;omega))
 have HX3:=Lib.hid (HX2.out.below hb3 (by have:=HSZ2.out;omega))
 clear hb3
 obtain⟨L,q,qe⟩:=Q
 simp only at hro hnew⊢
 by_cases y5:qe=0
 case neg=>
  have z5':(qe !=0)=true:=by simpa using y5
  have hr6:R=(blk0,0,qe):=by rw[HR5.out];unfold dynL;rw[if_pos y5]
  have HR6:=Lib.hid hr6
  have HNE:=Lib.hid y5
  clear hr6 y5 hro hnew
  go_wp2_with (first
   |(refine wpList_buildTo rfl 73 #[] rfl (some 74) rfl Z ?_ ?_;focus(simpa[Act.eval]using HZB.out))
   |(refine wpList_store_rowTo rfl _ _ _ rfl rfl (h+1) Z rfl rfl 73 Z HT3.out (szBlk5 _ HZS.out) rfl HZO.out ?_)
   |fail)
  refine bodyPost_ret ((cell_blk2 rfl _ _ (h+1) _ HZS.out rfl (setRow_heap _ _ _ _ _ _ HT3.out)).trans rfl) rfl ⟨?_,?_⟩
  ·rw[HZE.out];exact BlkD.none HR6.out HNE.out
  ·rw[←HH.out];exact below_rowU13 HB3.out (by omega) _
 subst y5
 have z5':((0:Int) !=0)=false:=rfl
 have hLL:L.length=xy:=by
  have h1:=lenR_len (F:=F) (g:=g) (L:=l) (n:=xy) xy pl [] (Nat.zero_le _) (by show xy≤0+xy;omega) (by rw[←HQ.out])
  rw[←HQ.out]at h1
  exact h1
 have hr6:R=dynQ last L q x y:=by rw[HR5.out];unfold dynL;rw[if_neg (fun h=>h rfl)]
 have HR6:=Lib.hid hr6
 rw[hLL]at hro hnew⊢
 obtain⟨b9,o9,rfl,hb9,hcc⟩:=hro.1.2 (by omega)
 have hb9n:h≤b9:=by have:=hnew b9 o9 (by omega) rfl;have:=HSZ2.out;omega
 have HNEW:=Lib.hid hb9n
 clear hnew hb9n
 obtain⟨ad,had⟩:∃ad:Addr,ad=⟨b9,o9,none⟩:=⟨_,rfl⟩
 obtain⟨A2,hA2⟩:∃A2,(if co=x then(some ad:Option Addr)else some (ad.add x))=A2:=⟨_,rfl⟩
 have hrF:=hro
 rw[←had]at hrF
 have hdrop:=hrF.drop (p:=x) (by omega) hA2
 have hsub:xy-x=y:=by have:=HXY.out;omega
 rw[hsub]at hdrop
 have hxc:x≤co:=by have:=hro.2.2.1;omega
 have hxxy:x≤xy:=by have:=HXY.out;omega
 rw[←had]
 have HAD:=Lib.hid had;have HDR:=Lib.hid hdrop;have HCC:=Lib.hid hcc;have HRO:=Lib.hid hro;have HB9:=Lib.hid hb9
 have c3:w3.cell? ⟨h,3,none⟩=some (.slice none 0 0):=HX3.out.cell.trans (by rw[HXE.out];rfl)
 have c4:w3.cell? ⟨h,4,none⟩=some (.slice none 0 0):=HX3.out.cell.trans (by rw[HXE.out];rfl)
 have f3:w3.frozen? ⟨h,3,none⟩=false:=HX3.out.free
 have f4:w3.frozen? ⟨h,4,none⟩=false:=HX3.out.free
 have hne:b9≠h:=fun e=>by
  have h1:=hcc 256 (by omega)
  have h2:=HX3.out.cell (i:=o9+256)
  rw[←e,h1,HXE.out]at h2
  have h3:(#[.int .u8 2,.bool last,.int .i64 0,.slice none 0 0,.slice none 0 0]:Array Value)[o9+256]?=none:=Array.getElem?_eq_none (by simp)
  rw[h3]at h2;cases h2
 have hne1:b9≠h+1:=fun e=>by
  have h1:=hcc 256 (by omega)
  have h2:=HT3.out.cell (i:=o9+256)
  rw[←e,h1,HZE.out]at h2
  have h3:z5[o9+256]?=none:=Array.getElem?_eq_none (by simp[z5])
  rw[h3]at h2;cases h2
 have hV8:=hro.1.1 256
 obtain⟨V,hV⟩:∃V,V=lst L 256:=⟨_,rfl⟩
 have c9:w3.cell? ⟨ad.block,ad.off+256,none⟩=some (.int .u8 (V:Int)):=by rw[HAD.out,hV];exact hcc 256 (by omega)
 obtain⟨S1,hS1⟩:∃S,S=Value.slice (some ad) x co:=⟨_,rfl⟩
 obtain⟨S2,hS2⟩:∃S,S=Value.slice A2 y (co-x):=⟨_,rfl⟩
 obtain⟨W5,hW5⟩:∃W,W=(w3.setCell ⟨h,3,none⟩ (.slice (some ad) x co)).setCell ⟨h,4,none⟩ (.slice A2 y (co-x)):=⟨_,rfl⟩
 obtain⟨X5,hX5⟩:∃X:Array Value,X=#[.int .u8 2,.bool last,.int .i64 0,.slice (some ad) x co,.slice A2 y (co-x)]:=⟨_,rfl⟩
 have hx5:BoxC W5 h X5 73:=by
  have h1:=(HX3.out.set 3 (.slice (some ad) x co)).set 4 (.slice A2 y (co-x))
  rw[HXE.out]at h1
  rw[hW5,hX5];exact h1
 have ht5:BoxC W5 (h+1) Z 73:=by rw[hW5];exact(HT3.out.other (by show h+1≠h;omega) _).other (by show h+1≠h;omega) _
 have hb5:Below h w W5:=by rw[hW5];exact below_cell (below_cell HB3.out (Nat.le_refl _) 3 _) (Nat.le_refl _) 4 _
 have hh5:∀b,b≠h→W5.heap[b]?=w3.heap[b]?:=fun b hb=>by
  rw[hW5]
  exact(Below.heap_setCell _ ⟨h,4,none⟩ _ b hb).trans (Below.heap_setCell _ ⟨h,3,none⟩ _ b hb)
 have hs5:W5.heap.size=w3.heap.size:=by rw[hW5];simp[World.setCell]
 have hblk:∀b o,A2=some ⟨b,o,none⟩→b=b9:=fun b o e=>by
  rw[←hA2,HAD.out]at e
  split at e
  ·injection e with e;injection e with e1 _ _;exact e1.symm
  ·injection e with e;rw[add_off13]at e;injection e with e1 _ _;exact e1.symm
 have hrd1:RdB W5 W5.heap.size (some ad) x (lst L):=by
  have h1:RdB w3 w3.heap.size (some ad) x (lst L):=by rw[HAD.out];exact hro.1.le hxxy
  exact h1.move fun b o e _=>by
   rw[HAD.out]at e;injection e with e;injection e with e1 _ _;subst e1
   exact⟨by rw[hs5];exact hb9,hh5 _ hne⟩
 have hrd2:RdB W5 W5.heap.size A2 y (lst (L.drop x)):=by
  have h1:RdB w3 w3.heap.size A2 y (lst (L.drop x)):=by rw[show lst (L.drop x)=fun j=>lst L (j+x)from funext fun j=>lst_drop L x j];exact hdrop.1
  exact h1.move fun b o e _=>by
   have:=hblk b o e;subst this
   exact⟨by rw[hs5];exact hb9,hh5 _ hne⟩
 obtain⟨E1,hE1⟩:∃x',x'=checkE (lst L) x 15:=⟨_,rfl⟩
 obtain⟨E2,hE2⟩:∃x',x'=checkE (lst (L.drop x)) y 15:=⟨_,rfl⟩
 have hc1:=rcheck_any W5 _ (some ad) x co (lst L) 15 hrd1
 have hc2:=rcheck_any W5 _ A2 y (co-x) (lst (L.drop x)) 15 hrd2
 rw[←hE1]at hc1
 rw[←hE2]at hc2
 have HC1:=Lib.hid hc1;have HC2:=Lib.hid hc2;have HE1:=Lib.hid hE1;have HE2:=Lib.hid hE2;have HV:=Lib.hid hV;have HW5:=Lib.hid hW5;have HX5:=Lib.hid hx5;have HT5:=Lib.hid ht5;have HB5:=Lib.hid hb5;have HRD1:=Lib.hid hrd1;have HRD2:=Lib.hid hrd2;have HX5E:=Lib.hid hX5;have HX5S:Hid (X5.size=5):=Lib.hid (by rw[hX5];rfl);have HX5O:Hid (X5.all (·.oneCell')=true):=Lib.hid (by rw[hX5];simp[Value.oneCell']);have HBLK:=Lib.hid hblk;have HN1:=Lib.hid hne1
 clear hr6 hro hrF hdrop had hcc hb9 hLL hc1 hc2 hE1 hE2 hV hW5 hx5 ht5 hb5 hh5 hs5 hblk hrd1 hrd2 hX5 hS1 hS2 hne hne1 S1 S2
 by_cases y6:V=0
 ·have z6:((V:Int)==0)=true:=by simp[y6]
  have hr7:R=(blk0,0,132):=by rw[HR6.out];unfold dynQ;rw[if_pos (.inl (by rw[←HV.out];exact y6))]
  have HR7:=Lib.hid hr7
  clear hr7 y6
  go_wp2_with (first
   |(refine wpList_buildTo rfl 73 #[] rfl (some 101) rfl Z ?_ ?_;focus(simpa[Act.eval]using HZB.out))
   |(rw[←HW5.out];refine wpList_store_rowTo rfl _ _ _ rfl rfl (h+1) Z rfl rfl 73 Z HT5.out (szBlk5 _ HZS.out) rfl HZO.out ?_)
   |fail)
  refine bodyPost_ret ((cell_blk2 rfl _ _ (h+1) _ HZS.out rfl (setRow_heap _ _ _ _ _ _ HT5.out)).trans rfl) rfl ⟨?_,?_⟩
  ·rw[HZE.out];exact BlkD.none HR7.out (by decide)
  ·rw[←HH.out];exact below_rowU13 HB5.out (by omega) _
 have z6:((V:Int)==0)=false:=by simp;omega
 have hV0:¬lst L 256=0:=by rw[←HV.out];exact y6
 by_cases y7:E1=0
 case neg=>
  have z7:(E1 !=0)=true:=by simpa using y7
  have hr7:R=(blk0,0,132):=by rw[HR6.out];unfold dynQ;rw[if_pos (.inr (.inl (by rw[←HE1.out];exact y7)))]
  have HR7:=Lib.hid hr7
  clear hr7 y6 y7 hV0
  go_wp2_with fail
  rw[←HW5.out]
  refine HC1.out.mono ?_
  rintro e w9 ⟨rfl,rfl⟩
  go_wp2_with (first
   |(refine wpList_buildTo rfl 73 #[] rfl (some 101) rfl Z ?_ ?_;focus(simpa[Act.eval]using HZB.out))
   |(refine wpList_store_rowTo rfl _ _ _ rfl rfl (h+1) Z rfl rfl 73 Z HT5.out (szBlk5 _ HZS.out) rfl HZO.out ?_)
   |fail)
  refine bodyPost_ret ((cell_blk2 rfl _ _ (h+1) _ HZS.out rfl (setRow_heap _ _ _ _ _ _ HT5.out)).trans rfl) rfl ⟨?_,?_⟩
  ·rw[HZE.out];exact BlkD.none HR7.out (by decide)
  ·rw[←HH.out];exact below_rowU13 HB5.out (by omega) _
 subst y7
 have z7:((0:Int) !=0)=false:=rfl
 have d4:W5.cell? ⟨h,4,none⟩=some (.slice A2 y (co-x)):=HX5.out.cell.trans (by rw[HX5E.out];rfl)
 by_cases y8:E2=0
 case neg=>
  have z8:(E2 !=0)=true:=by simpa using y8
  have hr7:R=(blk0,0,132):=by rw[HR6.out];unfold dynQ;rw[if_pos (.inr (.inr (by rw[←HE2.out];exact y8)))]
  have HR7:=Lib.hid hr7
  clear hr7 y6 y8 hV0
  go_wp2_with fail
  rw[←HW5.out]
  refine HC1.out.mono ?_
  rintro e w9 ⟨rfl,rfl⟩
  go_wp2_with fail
  refine HC2.out.mono ?_
  rintro e w9 ⟨rfl,rfl⟩
  go_wp2_with (first
   |(refine wpList_buildTo rfl 73 #[] rfl (some 101) rfl Z ?_ ?_;focus(simpa[Act.eval]using HZB.out))
   |(refine wpList_store_rowTo rfl _ _ _ rfl rfl (h+1) Z rfl rfl 73 Z HT5.out (szBlk5 _ HZS.out) rfl HZO.out ?_)
   |fail)
  refine bodyPost_ret ((cell_blk2 rfl _ _ (h+1) _ HZS.out rfl (setRow_heap _ _ _ _ _ _ HT5.out)).trans rfl) rfl ⟨?_,?_⟩
  ·rw[HZE.out];exact BlkD.none HR7.out (by decide)
  ·rw[←HH.out];exact below_rowU13 HB5.out (by omega) _
 subst y8
 have hr7:R=(⟨2,last,0,lst L,x,lst (L.drop x),y⟩,q,0):=by rw[HR6.out];unfold dynQ;rw[if_neg (by rw[←HE1.out,←HE2.out];omega)]
 have HR7:=Lib.hid hr7
 clear hr7 y6 hV0
 go_wp2_with fail
 rw[←HW5.out]
 refine HC1.out.mono ?_
 rintro e w9 ⟨rfl,rfl⟩
 go_wp2_with fail
 refine HC2.out.mono ?_
 rintro e w9 ⟨rfl,rfl⟩
 go_wp2_with (first
  |(refine wpList_load_row rfl _ _ rfl h rfl _ X5 (0,0) _ HX5.out Tryz.underlying73 rfl (szBlk5 _ HX5S.out) ?_)
  |(refine wpList_store_rowTo rfl _ _ _ rfl rfl (h+1) X5 rfl rfl 73 Z HT5.out (szBlk5 _ HX5S.out) (by rw[HZS.out,HX5S.out]) HX5O.out ?_)
  |fail)
 refine bodyPost_ret ((cell_blk2 rfl _ _ (h+1) _ HX5S.out rfl (setRow_heap _ _ _ _ _ _ HT5.out)).trans rfl) rfl ⟨?_,?_⟩
 ·rw[HR7.out]
  refine⟨some ad,co,A2,co-x,by rw[HX5E.out];rfl,?_,?_,?_,?_,fun _=>⟨by show(2:Nat)≤2;omega,by show(0:Nat)≤65535;omega,fun _=>CodeOk.of HE1.out.symm,fun _=>CodeOk.of HE2.out.symm⟩⟩
  ·exact HRD1.out.move fun b o e h0=>by
    have hb:=rd_lt HRD1.out h0 e
    rw[HAD.out]at e;injection e with e;injection e with e1 _ _;subst e1
    exact⟨by rw[size_setRow];exact hb,setRow_other _ _ _ _ HN1.out⟩
  ·exact HRD2.out.move fun b o e h0=>by
    have hb:=rd_lt HRD2.out h0 e
    have:=HBLK.out b o e;subst this
    exact⟨by rw[size_setRow];exact hb,setRow_other _ _ _ _ HN1.out⟩
  ·intro b o _ e
   rw[HAD.out]at e;injection e with e;injection e with e1 _ _;subst e1
   rw[←HH.out];exact HNEW.out
  ·intro b o _ e
   have:=HBLK.out b o e;subst this
   rw[←HH.out];exact HNEW.out
 ·rw[←HH.out];exact below_rowU13 HB5.out (by omega) _
end Go.Proofs.YtgokdgcmkcmjeaaGreat
