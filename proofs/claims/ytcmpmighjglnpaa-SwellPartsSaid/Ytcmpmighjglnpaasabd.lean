/-
  Words and walks.
-/
import Derived.Lib.SmallJoins
import Derived.Great.BuildSlice
import Derived.Laws.StructEq
import Derived.Deep.QuietTactic
import Derived.BigQuiet
import Derived.Test.Ytcmpmighjglnpaasaaa
import Derived.Test.Ytcmpmighjglnpaasaab
import Derived.Test.Ytcmpmighjglnpaasaac
import Derived.Test.Ytcmpmighjglnpaasaad
import Derived.Test.Ytcmpmighjglnpaasaae
import Derived.Test.Ytcmpmighjglnpaasaag
import Derived.Test.Ytcmpmighjglnpaasaah
import Derived.Test.Ytcmpmighjglnpaasaal
import Derived.Test.Ytcmpmighjglnpaasaam
import Derived.Test.Ytcmpmighjglnpaasaao
import Derived.Test.Ytcmpmighjglnpaasaap
import Derived.Test.Ytcmpmighjglnpaasaas
import Derived.Test.Ytcmpmighjglnpaasaat
import Derived.Test.Ytcmpmighjglnpaasaau
import Derived.Test.Ytcmpmighjglnpaasaaw
import Derived.Test.Ytcmpmighjglnpaasaay
import Derived.Test.Ytcmpmighjglnpaasabb
set_option maxRecDepth 100000
set_option maxHeartbeats 16000000
namespace Go.Proofs.Ytcmpmighjglnpaa
open Go.RowKit
structure SwJ (w:World) (u:UnV) (inn win:List Nat) (s1 s2:List Int):Prop where
 I:∃A c,u.I=.slice A inn.length c∧ByR w w.heap.size A inn.length c (lst inn)
 W:∃A c,u.W=.slice A win.length c∧ByR w w.heap.size A win.length c (lst win)
 r1:RdS w w.heap.size u.v1 s1
 r2:RdS w w.heap.size u.v2 s2
 kd:u.kd<256
 M: -9223372036854775808≤u.M∧u.M≤9223372036854775807
 D: -9223372036854775808≤u.D∧u.D≤9223372036854775807
 a: -9223372036854775808≤u.a∧u.a≤9223372036854775807
 S: -9223372036854775808≤u.S∧u.S≤9223372036854775807
theorem SwJ.few{w:World}{u:UnV}{inn win:List Nat}{s1 s2:List Int}(h:SwJ w u inn win s1 s2)(n1:s1.length≤1000000)(n2:s2.length≤1000000)(n3:inn.length≤1000000)(n4:win.length≤1000000):SwI w u inn win s1 s2:=
 ⟨h.I,h.W,h.r1,h.r2,n1,n2,n3,n4,h.kd,h.M,h.D,h.a,h.S⟩
theorem SwJ.on{w w':World}{u:UnV}{inn win:List Nat}{s1 s2:List Int}(h:SwJ w u inn win s1 s2)(hb:Below w.heap.size w w'):SwJ w' u inn win s1 s2:=by
 obtain⟨A,c,e1,e2⟩:=h.I
 obtain⟨A',c',e3,e4⟩:=h.W
 exact⟨⟨A,c,e1,(e2.below hb (Nat.le_refl _)).more hb.size⟩,⟨A',c',e3,(e4.below hb (Nat.le_refl _)).more hb.size⟩,(h.r1.below hb (Nat.le_refl _)).more hb.size,(h.r2.below hb (Nat.le_refl _)).more hb.size,h.kd,h.M,h.D,h.a,h.S⟩
def grtW(u:UnV)(l il wl:Nat)(s1 s2:List Int):Bool:=decide (300<l)||decide (700<il)||decide (4000<wl)||decide (400<s1.length)||decide (400<s2.length)||decide (4000<u.M)
theorem rgreat14_any(w:World)(u:UnV)(inn win:List Nat)(s1 s2:List Int)(h:SwJ w u inn win s1 s2)(Al:Option Addr)(l c:Nat):Calls Try.prog 10 #[.agg (swA u.sw),.slice Al l c] w fun e w'=>e=.returned (.bool (grtW u l inn.length win.length s1 s2))∧Below w.heap.size w w':=by
 obtain⟨sb,hsb⟩:∃b,b=w.heap.size:=⟨_,rfl⟩
 obtain⟨X,hX⟩:∃X,X=swA u.sw:=⟨_,rfl⟩
 obtain⟨W1,hW1⟩:∃W,W=w.alloc (.cells X 32):=⟨_,rfl⟩
 have hb1:Below w.heap.size w W1:=by rw[hW1];exact(Below.refl _ _).alloc (Nat.le_refl _) _
 have x1:BoxC W1 sb X 32:=by rw[hW1,hsb];exact BoxC.new w _ _
 obtain⟨A1,c1,e1,_⟩:=h.I
 obtain⟨A2,c2,e2,_⟩:=h.W
 obtain⟨A3,c3,e3,_⟩:=h.r1
 obtain⟨A4,c4,e4,_⟩:=h.r2
 obtain⟨a0,a1,a2,a3,a41,a42,a43,a44⟩:=sw_x hX x1
 have a23:W1.cell? ⟨sb,23,none⟩=some u.v1:=by rw[x1.cell,hX];rfl
 have a40:W1.cell? ⟨sb,40,none⟩=some u.v2:=by rw[x1.cell,hX];rfl
 rw[e1]at a2
 rw[e2]at a43
 rw[e3]at a23
 rw[e4]at a40
 obtain⟨il,hil⟩:∃x,x=inn.length:=⟨_,rfl⟩
 obtain⟨wl,hwl⟩:∃x,x=win.length:=⟨_,rfl⟩
 obtain⟨n1,hn1⟩:∃x,x=s1.length:=⟨_,rfl⟩
 obtain⟨n2,hn2⟩:∃x,x=s2.length:=⟨_,rfl⟩
 obtain⟨q,hq⟩:∃q,q=grtW u l inn.length win.length s1 s2:=⟨_,rfl⟩
 have eq:q=(decide (300<l)||decide (700<il)||decide (4000<wl)||decide (400<n1)||decide (400<n2)||decide (4000<u.M)):=by rw[hq,hil,hwl,hn1,hn2];rfl
 rw[←hq,←hX]
 rw[←hil]at a2
 rw[←hwl]at a43
 rw[←hn1]at a23
 rw[←hn2]at a40
 have HQ:=Lib.hid eq
 have HW1:=Lib.hid hW1;have HSB:=Lib.hid hsb;have HB1:=Lib.hid hb1
 clear h hX hW1 hsb hb1 x1 a1 a3 a41 a42 a44 e1 e2 e3 e4 hil hwl hn1 hn2 hq eq
 by_cases h0:300<l
 ·have t0:(300:Int)<(l:Int):=by omega
  have hq:q=true:=by rw[HQ.out];simp[h0]
  have HT:=Lib.hid hq
  clear hq h0 HQ
  go_enter Try.func10,Try.ntmps10
  go_wp2_with (first|(rw[←HW1.out,←HSB.out])|fail)
  go_ret
  exact⟨by rw[HT.out];rfl,HB1.out⟩
 have t0:¬(300:Int)<(l:Int):=by omega
 by_cases h1:700<il
 ·have t1:(700:Int)<(il:Int):=by omega
  have hq:q=true:=by rw[HQ.out];simp[h1]
  have HT:=Lib.hid hq
  clear hq h1 HQ
  go_enter Try.func10,Try.ntmps10
  go_wp2_with (first|(rw[←HW1.out,←HSB.out])|fail)
  go_ret
  exact⟨by rw[HT.out];rfl,HB1.out⟩
 have t1:¬(700:Int)<(il:Int):=by omega
 by_cases h2:4000<wl
 ·have t2:(4000:Int)<(wl:Int):=by omega
  have hq:q=true:=by rw[HQ.out];simp[h2]
  have HT:=Lib.hid hq
  clear hq h2 HQ
  go_enter Try.func10,Try.ntmps10
  go_wp2_with (first|(rw[←HW1.out,←HSB.out])|fail)
  go_ret
  exact⟨by rw[HT.out];rfl,HB1.out⟩
 have t2:¬(4000:Int)<(wl:Int):=by omega
 by_cases h3:400<n1
 ·have t3:(400:Int)<(n1:Int):=by omega
  have hq:q=true:=by rw[HQ.out];simp[h3]
  have HT:=Lib.hid hq
  clear hq h3 HQ
  go_enter Try.func10,Try.ntmps10
  go_wp2_with (first|(rw[←HW1.out,←HSB.out])|fail)
  go_ret
  exact⟨by rw[HT.out];rfl,HB1.out⟩
 have t3:¬(400:Int)<(n1:Int):=by omega
 by_cases h4:400<n2
 ·have t4:(400:Int)<(n2:Int):=by omega
  have hq:q=true:=by rw[HQ.out];simp[h4]
  have HT:=Lib.hid hq
  clear hq h4 HQ
  go_enter Try.func10,Try.ntmps10
  go_wp2_with (first|(rw[←HW1.out,←HSB.out])|fail)
  go_ret
  exact⟨by rw[HT.out];rfl,HB1.out⟩
 have t4:¬(400:Int)<(n2:Int):=by omega
 by_cases h5:4000<u.M
 ·have hq:q=true:=by rw[HQ.out];simp[h5]
  have HT:=Lib.hid hq
  clear hq HQ h0 h1 h2 h3 h4
  go_enter Try.func10,Try.ntmps10
  go_wp2_with (first|(rw[←HW1.out,←HSB.out])|fail)
  go_ret
  exact⟨by rw[HT.out];rfl,HB1.out⟩
 have hq:q=false:=by rw[HQ.out];simp[h0,h1,h2,h3,h4,h5]
 have HT:=Lib.hid hq
 clear hq HQ h0 h1 h2 h3 h4
 go_enter Try.func10,Try.ntmps10
 go_wp2_with (first|(rw[←HW1.out,←HSB.out])|fail)
 go_ret
 exact⟨by rw[HT.out];rfl,HB1.out⟩
theorem grt_no{u:UnV}{l il wl:Nat}{s1 s2:List Int}(h:grtW u l il wl s1 s2=false):l≤300∧il≤700∧wl≤4000∧s1.length≤400∧s2.length≤400∧u.M≤4000:=by
 unfold grtW at h
 simp only[Bool.or_eq_false_iff,decide_eq_false_iff_not]at h
 omega
end Go.Proofs.Ytcmpmighjglnpaa
namespace Go.Proofs.Ytcmpmighjglnpaa
open Go.RowKit
def BakK(k:Blk13)(kd:Nat)(last:Bool)(left:Int)(c1:Nat→Int)(s1:List Int)(c2:Nat→Int)(s2:List Int):Prop:=
 ∃lf:Nat,left=(lf:Int)∧(k=if kd=0 then⟨0,last,lf,nof13,0,nof13,0⟩else⟨kd,last,lf,k.F,320,k.G,320⟩)∧(kd≠0→IsTree c1 s1 k.F∧IsTree c2 s2 k.G)∧BlkIn k
theorem bakK_of{kd:Nat}{last:Bool}{left:Int}{c1:Nat→Int}{s1:List Int}{c2:Nat→Int}{s2:List Int}(h:MayI kd left c1 s1 c2 s2):∃k,BakK k kd last left c1 s1 c2 s2:=by
 rcases h with⟨rfl,h1,h2,_,_⟩|⟨h1,h2,⟨f1,t1⟩,f2,t2⟩
 ·exact⟨⟨0,last,left.toNat,nof13,0,nof13,0⟩,left.toNat,by omega,by rw[if_pos rfl],fun h=>absurd rfl h,by show(0:Nat)≤2;omega,by show left.toNat≤65535;omega,fun h=>absurd rfl h,fun h=>absurd rfl h⟩
 ·have k0:kd≠0:=by omega
  exact⟨⟨kd,last,0,f1,320,f2,320⟩,0,h2,by rw[if_neg k0],fun _=>⟨t1,t2⟩,by show kd≤2;omega,by show(0:Nat)≤65535;omega,fun _=>CodeOk.of t1.1,fun _=>CodeOk.of t2.1⟩
theorem extF_tree{c:Nat→Int}{s:List Int}{f:Nat→Nat}(h:IsTree c s f):extF 320 f=f:=by
 funext j
 by_cases hj:j<320
 ·exact extF_in f hj
 ·rw[extF_out f (by omega),h.2.1 j (by omega)]
theorem bakK_reads{k:Blk13}{kd:Nat}{last:Bool}{left:Int}{c1:Nat→Int}{s1:List Int}{c2:Nat→Int}{s2:List Int}(h:BakK k kd last left c1 s1 c2 s2):ReadsB k kd last left c1 s1 c2 s2:=by
 obtain⟨lf,hl,hk,ht,hb⟩:=h
 by_cases k0:kd=0
 ·rw[if_pos k0]at hk
  refine⟨by rw[hk,k0],by rw[hk],by rw[hk,hl],hb.left,by rw[hk];exact Nat.zero_le _,by rw[hk];exact Nat.zero_le _,fun h=>absurd k0 h⟩
 ·rw[if_neg k0]at hk
  obtain⟨t1,t2⟩:=ht k0
  refine⟨by rw[hk],by rw[hk],by rw[hk,hl],hb.left,by rw[hk];exact Nat.le_refl _,by rw[hk];exact Nat.le_refl _,fun _=>?_⟩
  have en:k.n=320:=by rw[hk]
  have em:k.m=320:=by rw[hk]
  rw[en,em,extF_tree t1,extF_tree t2]
  exact⟨t1,t2⟩
end Go.Proofs.Ytcmpmighjglnpaa
namespace Go.Proofs.Ytcmpmighjglnpaa
open Go.RowKit
theorem goodK_bak{k:Blk13}{kd:Nat}{last:Bool}{left:Int}{c1:Nat→Int}{s1:List Int}{c2:Nat→Int}{s2:List Int}(hm:MayI kd left c1 s1 c2 s2)(h:BakK k kd last left c1 s1 c2 s2):GoodK k:=by
 obtain⟨lf,hl,hk,ht,hb⟩:=h
 by_cases k0:kd=0
 ·rw[if_pos k0]at hk
  refine⟨hb.kind,hb.left,by rw[hk];exact Nat.zero_le _,by rw[hk];exact Nat.zero_le _,fun h=>absurd (by rw[hk]) h⟩
 ·rw[if_neg k0]at hk
  obtain⟨t1,t2⟩:=ht k0
  rcases hm with⟨h0,_⟩|⟨_,h0,_,_⟩
  ·exact absurd h0 k0
  refine⟨hb.kind,hb.left,by rw[hk];exact Nat.le_refl _,by rw[hk];exact Nat.le_refl _,fun _=>?_⟩
  have en:k.n=320:=by rw[hk]
  have em:k.m=320:=by rw[hk]
  have el:k.left=lf:=by rw[hk]
  rw[en,em,el]
  exact⟨by omega,t1.1,t2.1⟩
theorem emptyT_zero{c:Nat→Int}{s:List Int}(o:∀i,16≤i→c i=0)(h:sameT c (fun _=>0) s []=true):c=(fun _=>0)∧s=[]:=by
 unfold sameT at h
 rw[Bool.and_eq_true,sameC_iff,decide_eq_true_eq]at h
 refine⟨funext fun i=>?_,h.2⟩
 by_cases hi:i<16
 ·exact h.1 i hi
 ·exact o i (by omega)
theorem blkC_of{u:UnV}{il wl:Nat}{s1 s2:List Int}{r:Bool}(hr:r=true↔MayI u.kd u.left u.c1 s1 u.c2 s2)(o1:∀i,16≤i→u.c1 i=0)(o2:∀i,16≤i→u.c2 i=0):∃st,mayW u il wl s1 s2 r=true→BlkC u s1 s2 st:=by
 by_cases hm:mayW u il wl s1 s2 r=true
 ·have hm2:=hm
  unfold mayW at hm2
  simp only[Bool.and_eq_true]at hm2
  obtain⟨⟨_,h4⟩,h5⟩:=hm2
  unfold opnW at h4
  by_cases ho:u.op=true
  ·rw[if_pos ho]at h4
   have hI:=hr.1 h4
   obtain⟨k,hk⟩:=bakK_of (last:=u.last) hI
   exact⟨some k,fun _=>⟨ho,goodK_bak hI hk,hI,bakK_reads hk⟩⟩
  ·rw[if_neg ho]at h4
   unfold sameK at h4
   simp only[Bool.and_eq_true]at h4
   obtain⟨⟨⟨⟨a1,a2⟩,a3⟩,a4⟩,a5⟩:=h4
   obtain⟨b1,b2⟩:=emptyT_zero o1 a4
   obtain⟨b3,b4⟩:=emptyT_zero o2 a5
   have a1:=eq_of_beq a1
   have a2:=eq_of_beq a2
   have a3:=eq_of_beq a3
   exact⟨none,fun _=>⟨by simpa using ho,by omega,a2,a3,b1,b3,b2,b4⟩⟩
 ·exact⟨none,fun h=>absurd h hm⟩
end Go.Proofs.Ytcmpmighjglnpaa
namespace Go.Proofs.Ytcmpmighjglnpaa
open Go.RowKit Go.ChangeShapes Go.WideShapes Go.ChangeAt Go.Joins
section
variable {H:Type} {enc:TypeId×Value→H} {P:Program} {w:World} {base:Nat} {spare:Nat→Bool} {held:Bool}
theorem trod_struct5{t:TypeId}{f0 f1 f2 f3 f4:Field}{fuel:Nat}{cs:List Value}{x:DataW H×List MemPlace}(ht:P.underlying t=some (.struct #[f0,f1,f2,f3,f4]))(h:DataW.trod enc P w base spare held fuel t cs=some x):
  ∃y0 y1 y2 y3 y4 n,x=(.agg [y0.1,y1.1,y2.1,y3.1,y4.1],y0.2++(y1.2++(y2.2++(y3.2++y4.2))))∧cs.length=P.cellsOf t∧DataW.trod enc P w base spare held n f0.type ((cs.drop f0.offset).take (P.cellsOf f0.type))=some y0∧
   DataW.trod enc P w base spare held n f1.type ((cs.drop f1.offset).take (P.cellsOf f1.type))=some y1∧DataW.trod enc P w base spare held n f2.type ((cs.drop f2.offset).take (P.cellsOf f2.type))=some y2∧
   DataW.trod enc P w base spare held n f3.type ((cs.drop f3.offset).take (P.cellsOf f3.type))=some y3∧DataW.trod enc P w base spare held n f4.type ((cs.drop f4.offset).take (P.cellsOf f4.type))=some y4:=by
 obtain⟨xs,n,_,rfl,hl,hlen,hf⟩:=DataW.trod_struct ht h
 match xs,hlen with
 |[y0,y1,y2,y3,y4],_=>exact⟨y0,y1,y2,y3,y4,n,by simp,hl,by simpa using hf 0 f0 rfl,by simpa using hf 1 f1 rfl,by simpa using hf 2 f2 rfl,by simpa using hf 3 f3 rfl,by simpa using hf 4 f4 rfl⟩
end
theorem byr_list{w:World}{B n c:Nat}{A:Option Addr}{f:Nat→Nat}(h:ByR w B A n c f):∃L:List Nat,L.length=n∧ByR w B A L.length c (lst L):=by
 have hl:BytesP (preL f n):=fun x hx=>by
  unfold preL at hx
  obtain⟨i,_,rfl⟩:=List.mem_map.1 hx
  exact h.1.1 i
 refine⟨preL f n,preL_length _ _,?_⟩
 rw[preL_length]
 refine h.same (lst_lt hl) fun j hj=>?_
 show f j=(preL f n).getD j 0
 rw[preL_get f hj]
end Go.Proofs.Ytcmpmighjglnpaa
namespace Go.Proofs.Ytcmpmighjglnpaa
open Go.RowKit Go.ChangeShapes Go.WideShapes Go.ChangeAt Go.Joins Go.ChangeMaps
theorem cellsTree:Try.prog.cellsOf 26=17:=by kernel_rfl
theorem cellsCnt:Try.prog.cellsOf 23=16:=by kernel_rfl
theorem cellsInt:Try.prog.cellsOf 3=1:=by kernel_rfl
theorem cellsInts:Try.prog.cellsOf 24=1:=by kernel_rfl
end Go.Proofs.Ytcmpmighjglnpaa
namespace Go.Proofs.Ytcmpmighjglnpaa
open Go.RowKit Go.ChangeShapes Go.WideShapes Go.ChangeAt Go.Joins Go.ChangeMaps
theorem cellsBlk:Try.prog.cellsOf 28=37:=by kernel_rfl
theorem cellsU8b:Try.prog.cellsOf 5=1:=by kernel_rfl
theorem cellsBolb:Try.prog.cellsOf 4=1:=by kernel_rfl
theorem open_treeL{H:Type}{enc:TypeId×Value→H}{W:World}{base:Nat}{sp:Nat→Bool}{hd:Bool}{l:List Value}{fuel:Nat}{y:DataW H×List MemPlace}(hsz:l.length=17)
  (hf:DataW.trod enc Try.prog W base sp hd fuel 26 l=some y):
  ∃(c:Nat→Int) (u:Value) (s:List Int),l=trL c u∧RdS W W.heap.size u s:=by
 obtain⟨cs,rfl⟩:∃cs:Array Value,l=cs.toList:=⟨l.toArray,by simp⟩
 replace hsz:cs.size=17:=by simpa using hsz
 obtain⟨y0,y1,n,_,_,h0,h1⟩:=trod_struct2 Try.underlying26 hf
 rw[show Try.prog.cellsOf _=16 from cellsCnt]at h0
 rw[show Try.prog.cellsOf _=1 from cellsInts]at h1
 obtain⟨ys,m,rfl,hx,hl,hyl,hget⟩:=DataW.trod_array Try.underlying23 h0
 have key:∀i,i<16→∃z:Int,cs[i]?=some (.int .i64 z):=by
  intro i hi
  have h3:=hget i hi
  rw[cellsInt,Nat.mul_one]at h3
  have h4:(((cs.toList.drop 0).take 16).drop i).take 1=[cs[i]'(by omega)]:=by
   rw[List.drop_zero,List.drop_take,List.take_take,show min 1 (16-i)=1 by omega,List.drop_eq_getElem_cons (by simpa using(by omega:i<cs.size))]
   simp
  obtain⟨y,hy⟩:∃y,ys[i]?=some y:=⟨ys[i]'(by omega),by simp[hyl,hi]⟩
  rw[hy]at h3
  have h5:DataW.trod enc Try.prog W base sp hd m 3 [cs[i]'(by omega)]=some y:=by rw[←h4];exact h3
  obtain⟨z,hz,_,_⟩:=DataW.trod_int Try.underlying3 h5
  refine⟨z,?_⟩
  have:cs[i]'(by omega)=.int .i64 z:=by simpa using hz
  rw[←this];simp
 have h16:(cs.toList.drop 16).take 1=[cs[16]'(by omega)]:=by
  rw[List.drop_eq_getElem_cons (by simpa using(by omega:16<cs.size))]
  simp
 have h1':DataW.trod enc Try.prog W base sp hd (m+1) 24 [cs[16]'(by omega)]=some y1:=by rw[←h16];exact h1
 obtain⟨A,ln,c,e0⟩:=slice_form Try.underlying24 h1'
 simp only[List.cons.injEq,and_true]at e0
 rw[e0]at h1'
 obtain⟨s,hlen,hrd,hn,hm,hb⟩:=open_intl (d:=y1.1) (p:=y1.2) ⟨m+1,by simpa[Value.cells]using h1'⟩
 refine⟨fun i=>if h:i<16 then(key i h).choose else 0,.slice A ln c,s,?_,⟨A,c,by rw[hlen],hrd,hn,hlen▸hm.1,hm.2⟩⟩
 have e:cs=trA (fun i=>if h:i<16 then(key i h).choose else 0) (.slice A ln c):=by
  apply Array.ext_getElem?
  intro i
  rw[trA_get]
  by_cases hi:i<16
  ·rw[if_pos hi];simp only[hi,dif_pos];exact(key i hi).choose_spec
  ·rw[if_neg hi]
   by_cases h2:i=16
   ·subst h2;rw[if_pos rfl,←e0];simp
   ·rw[if_neg h2];simp;omega
 exact congrArg Array.toList e
end Go.Proofs.Ytcmpmighjglnpaa
namespace Go.Proofs.Ytcmpmighjglnpaa
open Go.RowKit Go.ChangeShapes Go.WideShapes Go.ChangeAt Go.Joins Go.ChangeMaps
section
variable {H:Type} {enc:TypeId×Value→H} {P:Program} {w:World} {base:Nat} {spare:Nat→Bool} {held:Bool}
theorem trod_struct8{t:TypeId}{f0 f1 f2 f3 f4 f5 f6 f7:Field}{fuel:Nat}{cs:List Value}{x:DataW H×List MemPlace}(ht:P.underlying t=some (.struct #[f0,f1,f2,f3,f4,f5,f6,f7]))(h:DataW.trod enc P w base spare held fuel t cs=some x):
  ∃y0 y1 y2 y3 y4 y5 y6 y7 n,cs.length=P.cellsOf t∧DataW.trod enc P w base spare held n f0.type ((cs.drop f0.offset).take (P.cellsOf f0.type))=some y0∧
   DataW.trod enc P w base spare held n f1.type ((cs.drop f1.offset).take (P.cellsOf f1.type))=some y1∧DataW.trod enc P w base spare held n f2.type ((cs.drop f2.offset).take (P.cellsOf f2.type))=some y2∧
   DataW.trod enc P w base spare held n f3.type ((cs.drop f3.offset).take (P.cellsOf f3.type))=some y3∧DataW.trod enc P w base spare held n f4.type ((cs.drop f4.offset).take (P.cellsOf f4.type))=some y4∧
   DataW.trod enc P w base spare held n f5.type ((cs.drop f5.offset).take (P.cellsOf f5.type))=some y5∧DataW.trod enc P w base spare held n f6.type ((cs.drop f6.offset).take (P.cellsOf f6.type))=some y6∧
   DataW.trod enc P w base spare held n f7.type ((cs.drop f7.offset).take (P.cellsOf f7.type))=some y7:=by
 obtain⟨xs,n,_,rfl,hl,hlen,hf⟩:=DataW.trod_struct ht h
 match xs,hlen with
 |[y0,y1,y2,y3,y4,y5,y6,y7],_=>exact⟨y0,y1,y2,y3,y4,y5,y6,y7,n,hl,by simpa using hf 0 f0 rfl,by simpa using hf 1 f1 rfl,by simpa using hf 2 f2 rfl,by simpa using hf 3 f3 rfl,by simpa using hf 4 f4 rfl,by simpa using hf 5 f5 rfl,by simpa using hf 6 f6 rfl,by simpa using hf 7 f7 rfl⟩
end
theorem cellsSwl:Try.prog.cellsOf 32=45:=by kernel_rfl
theorem cellsWin14:Try.prog.cellsOf 30=2:=by kernel_rfl
theorem cellsByt14:Try.prog.cellsOf 22=1:=by kernel_rfl
def cut16(c:Nat→Int)(i:Nat):Int:=if i<16 then c i else 0
theorem trL_cut(c:Nat→Int)(v:Value):trL (cut16 c) v=trL c v:=by
 unfold trL cntV
 congr 1
theorem cut16_out(c:Nat→Int):∀i,16≤i→cut16 c i=0:=fun i hi=>if_neg (by omega)
theorem open_blkL{H:Type}{enc:TypeId×Value→H}{W:World}{base:Nat}{sp:Nat→Bool}{hd:Bool}{l:List Value}{fuel:Nat}{y:DataW H×List MemPlace}(hll:l.length=37)
  (hf:DataW.trod enc Try.prog W base sp hd fuel 28 l=some y):
  ∃(kd:Nat) (last:Bool) (left:Int) (c1 c2:Nat→Int) (v1 v2:Value) (s1 s2:List Int),l=blkL kd last left c1 c2 v1 v2∧kd<256∧RdS W W.heap.size v1 s1∧RdS W W.heap.size v2 s2∧(∀i,16≤i→c1 i=0)∧∀i,16≤i→c2 i=0:=by
 obtain⟨y0,y1,y2,y3,y4,n,_,_,h0,h1,h2,h3,h4⟩:=trod_struct5 Try.underlying28 hf
 rw[show Try.prog.cellsOf _=1 from cellsU8b]at h0
 rw[show Try.prog.cellsOf _=1 from cellsBolb]at h1
 rw[show Try.prog.cellsOf _=1 from cellsInt]at h2
 rw[show Try.prog.cellsOf _=17 from cellsTree]at h3 h4
 match l,hll with
 |x0::x1::x2::r,hll=>
  have hrl:r.length=34:=by simpa using hll
  replace h0:DataW.trod enc Try.prog W base sp hd n 5 [x0]=some y0:=h0
  replace h1:DataW.trod enc Try.prog W base sp hd n 4 [x1]=some y1:=h1
  replace h2:DataW.trod enc Try.prog W base sp hd n 3 [x2]=some y2:=h2
  replace h3:DataW.trod enc Try.prog W base sp hd n 26 (r.take 17)=some y3:=h3
  replace h4:DataW.trod enc Try.prog W base sp hd n 26 ((r.drop 17).take 17)=some y4:=h4
  obtain⟨a,e0,_,hw⟩:=DataW.trod_int Try.underlying5 h0
  obtain⟨b,e1,_⟩:=DataW.trod_bool Try.underlying4 h1
  obtain⟨c,e2,_⟩:=DataW.trod_int Try.underlying3 h2
  simp only[List.cons.injEq,and_true]at e0 e1 e2
  subst e0;subst e1;subst e2
  obtain⟨c1,v1,s1,f1,r1⟩:=open_treeL (by simp;omega) h3
  obtain⟨c2,v2,s2,f2,r2⟩:=open_treeL (by simp;omega) h4
  have hr:=wf_u8_range hw
  obtain⟨kd,rfl⟩:=Int.eq_ofNat_of_zero_le hr.1
  refine⟨kd,b,c,cut16 c1,cut16 c2,v1,v2,s1,s2,?_,by omega,r1,r2,cut16_out _,cut16_out _⟩
  have hd2:(r.drop 17).take 17=r.drop 17:=List.take_of_length_le (by simp;omega)
  rw[hd2]at f2
  unfold blkL
  rw[trL_cut,trL_cut,←f1,←f2,List.take_append_drop]
theorem open_swl{H:Type}{enc:TypeId×Value→H}{W:World}{r:Reach}{b0 base:Nat}{sp:Nat→Bool}{hd:Bool}{v:Value}{d:DataW H}{p:List MemPlace}
  (hv:Value.okWide Try.prog W r b0 32 v) (h:DataW.Trod enc Try.prog W base sp hd 32 v d p):
  ∃(u:UnV) (inn win:List Nat) (s1 s2:List Int),v=.agg (swA u.sw)∧SwJ W u inn win s1 s2∧(∀i,16≤i→u.c1 i=0)∧∀i,16≤i→u.c2 i=0:=by
 obtain⟨cs,rfl,hsz⟩:=okWide_struct Try.underlying32 hv
 rw[cellsSwl]at hsz
 obtain⟨l,rfl⟩:∃l:List Value,cs=l.toArray:=⟨cs.toList,by simp⟩
 have hll:l.length=45:=by simpa using hsz
 obtain⟨fuel,hf⟩:=h
 obtain⟨y0,y1,y2,y3,y4,y5,y6,y7,n,_,h0,h1,h2,h3,h4,h5,h6,h7⟩:=trod_struct8 Try.underlying32 hf
 simp only[Value.cells]at h0 h1 h2 h3 h4 h5 h6 h7
 rw[show Try.prog.cellsOf _=1 from cellsInt]at h0 h1 h3
 rw[show Try.prog.cellsOf _=1 from cellsByt14]at h2
 rw[show Try.prog.cellsOf _=37 from cellsBlk]at h4
 rw[show Try.prog.cellsOf _=1 from cellsBolb]at h5 h7
 rw[show Try.prog.cellsOf _=2 from cellsWin14]at h6
 match l,hll with
 |x0::x1::x2::x3::r,hll=>
  have hrl:r.length=41:=by simpa using hll
  obtain⟨B,hB⟩:∃B,B=r.take 37:=⟨_,rfl⟩
  obtain⟨T,hT⟩:∃T,T=r.drop 37:=⟨_,rfl⟩
  have hBl:B.length=37:=by rw[hB];simp;omega
  have hTl:T.length=4:=by rw[hT];simp;omega
  have hr:r=B++T:=by rw[hB,hT,List.take_append_drop]
  clear hB hT
  subst hr
  replace h0:DataW.trod enc Try.prog W base sp hd n 3 [x0]=some y0:=h0
  replace h1:DataW.trod enc Try.prog W base sp hd n 3 [x1]=some y1:=h1
  replace h2:DataW.trod enc Try.prog W base sp hd n 22 [x2]=some y2:=h2
  replace h3:DataW.trod enc Try.prog W base sp hd n 3 [x3]=some y3:=h3
  replace h4:DataW.trod enc Try.prog W base sp hd n 28 ((B++T).take 37)=some y4:=h4
  rw[←hBl,List.take_left]at h4
  have hd4:∀k,((x0::x1::x2::x3::(B++T)).drop (41+k))=T.drop k:=fun k=>by
   rw[show 41+k=37+k+1+1+1+1 by omega]
   simp only[List.drop_succ_cons]
   rw[←hBl,List.drop_append]
   simp
  match T,hTl with
  |[z0,z1,z2,z3],_=>
   replace h5:DataW.trod enc Try.prog W base sp hd n 4 (((x0::x1::x2::x3::(B++[z0,z1,z2,z3])).drop (41+0)).take 1)=some y5:=h5
   replace h6:DataW.trod enc Try.prog W base sp hd n 30 (((x0::x1::x2::x3::(B++[z0,z1,z2,z3])).drop (41+1)).take 2)=some y6:=h6
   replace h7:DataW.trod enc Try.prog W base sp hd n 4 (((x0::x1::x2::x3::(B++[z0,z1,z2,z3])).drop (41+3)).take 1)=some y7:=h7
   rw[hd4]at h5 h6 h7
   replace h5:DataW.trod enc Try.prog W base sp hd n 4 [z0]=some y5:=h5
   replace h6:DataW.trod enc Try.prog W base sp hd n 30 [z1,z2]=some y6:=h6
   replace h7:DataW.trod enc Try.prog W base sp hd n 4 [z3]=some y7:=h7
   obtain⟨g0,g1,m,_,_,k0,k1⟩:=trod_struct2 Try.underlying30 h6
   rw[show Try.prog.cellsOf _=1 from cellsInt]at k0
   rw[show Try.prog.cellsOf _=1 from cellsByt14]at k1
   replace k0:DataW.trod enc Try.prog W base sp hd m 3 [z1]=some g0:=k0
   replace k1:DataW.trod enc Try.prog W base sp hd m 22 [z2]=some g1:=k1
   obtain⟨M,e0,_,b0⟩:=DataW.trod_int Try.underlying3 h0
   obtain⟨D,e1,_,b1⟩:=DataW.trod_int Try.underlying3 h1
   obtain⟨a,e3,_,b3⟩:=DataW.trod_int Try.underlying3 h3
   obtain⟨op,e5,_⟩:=DataW.trod_bool Try.underlying4 h5
   obtain⟨S,e6,_,b6⟩:=DataW.trod_int Try.underlying3 k0
   obtain⟨ov,e7,_⟩:=DataW.trod_bool Try.underlying4 h7
   obtain⟨Ai,li,ci,e2⟩:=slice_form Try.underlying22 h2
   obtain⟨Aw,lw,cw,e8⟩:=slice_form Try.underlying22 k1
   simp only[List.cons.injEq,and_true]at e0 e1 e2 e3 e5 e6 e7 e8
   subst e0;subst e1;subst e2;subst e3;subst e5;subst e6;subst e7;subst e8
   obtain⟨f1,q1⟩:=open_byr (d:=y2.1) (p:=y2.2) ⟨n,by simpa[Value.cells]using h2⟩
   obtain⟨f2,q2⟩:=open_byr (d:=g1.1) (p:=g1.2) ⟨m,by simpa[Value.cells]using k1⟩
   obtain⟨L1,n1,p1⟩:=byr_list q1
   obtain⟨L2,n2,p2⟩:=byr_list q2
   obtain⟨kd,last,left,c1,c2,v1,v2,s1,s2,eB,hkd,r1,r2,o1,o2⟩:=open_blkL hBl h4
   subst n1;subst n2
   refine⟨⟨M,D,.slice Ai L1.length ci,a,kd,last,left,c1,c2,v1,v2,op,S,.slice Aw L2.length cw,ov,.slice none 0 0,0,.slice none 0 0,0⟩,L1,L2,s1,s2,?_,⟨⟨Ai,ci,rfl,p1⟩,⟨Aw,cw,rfl,p2⟩,r1,r2,hkd,wf_i64_range b0,wf_i64_range b1,wf_i64_range b3,wf_i64_range b6⟩,o1,o2⟩
   rw[eB]
   rfl
end Go.Proofs.Ytcmpmighjglnpaa
