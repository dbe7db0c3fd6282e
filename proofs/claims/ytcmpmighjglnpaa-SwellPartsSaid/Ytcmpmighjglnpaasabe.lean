/-
  The law SwellKeeps: never more is told than the limit, and what is kept is small. No condition.
-/
import Derived.Test.Ytcmpmighjglnpaasabb
import Derived.Test.Ytcmpmighjglnpaasabd
set_option maxRecDepth 100000
set_option maxHeartbeats 16000000
namespace Go.Proofs.Ytcmpmighjglnpaa
open Go.RowKit Go.ChangeShapes Go.WideShapes Go.ChangeAt Go.Joins
theorem may_bool(p:Prop):∃r:Bool,r=true↔p:=by
 by_cases h:p
 ·exact⟨true,fun _=>h,fun _=>rfl⟩
 ·exact⟨false,fun h2=>(by cases h2),fun h2=>absurd h2 h⟩
theorem feed_fine{u:UnV}{inn win:List Nat}{s1 s2:List Int}{r:Bool}{st:Option Blk13}{L:List Nat}(hst:mayW u inn.length win.length s1 s2 r=true→BlkC u s1 s2 st)(bi:BytesP inn)(bw:BytesP win)(hE:feedE u inn win s1 s2 r st L=0):
  GoodSw (swmOf u inn win st)∧u.M=((swmOf u inn win st).most:Int)∧u.D=((swmOf u inn win st).made:Int)∧(feedM (swmOf u inn win st) L).err=0:=by
 unfold feedE at hE
 by_cases h:feE (mayW u inn.length win.length s1 s2 r) u.ov L.length≠0
 ·rw[if_pos h]at hE;exact absurd hE h
 ·rw[if_neg h]at hE
  have hm:mayW u inn.length win.length s1 s2 r=true:=by
   cases hm:mayW u inn.length win.length s1 s2 r with
   |true=>rfl
   |false=>rw[hm]at h;exact absurd (by unfold feE;rw[if_pos rfl];decide) h
  obtain⟨g1,g2,g3,_⟩:=may_good hm (hst hm) bi bw
  exact⟨g1,g2,g3,hE⟩
theorem used_le14{s:Swm}(h:GoodSw s){b:List Nat}(he:(feedM s b).err=0):usedM s b (feedM s b)≤b.length:=by
 have K:=feed_kept h he
 have hi:=K.inn
 rw[List.length_append]at hi
 unfold usedM
 split
 ·omega
 ·exact Nat.le_refl _
theorem next_told{s:Swm}(h:GoodSw s){b:List Nat}(he:(feedM s b).err=0):(nextM s b (feedM s b)).most=s.most∧(nextM s b (feedM s b)).made=s.made+(feedM s b).out.length∧(nextM s b (feedM s b)).win=lastN 32768 (s.win++(feedM s b).out)∧(nextM s b (feedM s b)).over=(feedM s b).over:=by
 have K:=feed_kept h he
 obtain⟨o,h1,h2,h3,_⟩:=K.told
 rw[List.nil_append]at h1
 rw[h1]
 unfold nextM
 cases ho:(feedM s b).over with
 |true=>rw[if_pos rfl];exact⟨rfl,h2,h3,rfl⟩
 |false=>rw[if_neg (by decide)];exact⟨rfl,h2,h3,rfl⟩
theorem bytes_of14{w:World}{B:Nat}{A:Option Addr}{c:Nat}{l:List Nat}(h:ByR w B A l.length c (lst l)):BytesP l:=by
 intro x hx
 obtain⟨i,hi,rfl⟩:=List.getElem_of_mem hx
 have:=h.1.1 i
 unfold lst at this
 rwa[List.getD_eq_getElem?_getD,List.getElem?_eq_getElem hi]at this
theorem keeps14_law(u:UnV)(inn win:List Nat)(s1 s2:List Int)(A:Option Addr)(c:Nat)(L:List Nat)(w:World)(hs:SwJ w u inn win s1 s2)(hc:∀i,16≤i→u.c1 i=0)(hd:∀i,16≤i→u.c2 i=0)(hr:ByR w w.heap.size A L.length c (lst L)):
  Calls Try.prog 5 #[.agg (swA u.sw),.slice A L.length c] w fun e w'=>e=.returned (.bool true)∧Below w.heap.size w w':=by
 obtain⟨Z,hZ⟩:∃Z,Z=swA swZ:=⟨_,rfl⟩
 have hz:∀u:World,(zeroValue 32).run Try.prog u=.ok (.agg Z) u:=by rw[hZ];exact(zero_of_info infoSwl).1
 have HZS:Hid (Z.size=45):=Lib.hid (by rw[hZ];exact swA_size rfl)
 have HZO:Hid (Z.all (·.oneCell')=true):=Lib.hid (by rw[hZ];exact swZ_one)
 have HZ:=Lib.hid hZ
 obtain⟨X,hX⟩:∃X,X=swA u.sw:=⟨_,rfl⟩
 have HXS:Hid (X.size=45):=Lib.hid (by rw[hX];exact swA_size (blkL_len ..))
 obtain⟨b0,hn⟩:∃b,b=w.heap.size:=⟨_,rfl⟩
 obtain⟨W0,hW⟩:∃W,W=w.alloc (.cells X 32):=⟨_,rfl⟩
 have hb0:Below w.heap.size w W0:=by rw[hW];exact(Below.refl _ _).alloc (Nat.le_refl _) _
 have hv0:BoxC W0 b0 X 32:=by rw[hW,hn];exact BoxC.new w _ _
 obtain⟨Gr,hGr⟩:∃G,G=grtW u L.length inn.length win.length s1 s2:=⟨_,rfl⟩
 have hg:=fun(W:World) (hb:Below w.heap.size w W)=>rgreat14_any W u inn win s1 s2 (hs.on hb) A L.length c
 rw[←hGr,←hX]at hg
 have hL:BytesP L:=bytes_of14 hr
 obtain⟨r,hmr⟩:=may_bool (MayI u.kd u.left u.c1 s1 u.c2 s2)
 obtain⟨st,hst⟩:=blkC_of (il:=inn.length) (wl:=win.length) hmr hc hd
 have hf:=fun(hG:Gr=false) (W:World) (hb:Below w.heap.size w W)=>by
  obtain⟨g1,g2,g3,g4,g5,g6⟩:=grt_no (hGr▸hG)
  exact ufeed_any W u inn win s1 s2 ((hs.on hb).few (by omega) (by omega) (by omega) (by omega)) r hmr A L.length c L rfl ((hr.below hb (Nat.le_refl _)).more hb.size) st hst
 obtain⟨E,hE⟩:∃E,E=feedE u inn win s1 s2 r st L:=⟨_,rfl⟩
 obtain⟨S,hS⟩:∃S,S=swmOf u inn win st:=⟨_,rfl⟩
 rw[←hE,←hS,←hX]at hf
 have hfine:E=0→GoodSw S∧u.M=(S.most:Int)∧u.D=(S.made:Int)∧(feedM S L).err=0∧S.win=win:=fun h=>by
  obtain⟨A1,c1,_,i1⟩:=hs.I
  obtain⟨A2,c2,_,i2⟩:=hs.W
  rw[hE]at h
  obtain⟨a1,a2,a3,a4⟩:=feed_fine hst (bytes_of14 i1) (bytes_of14 i2) h
  rw[hS]
  exact⟨a1,a2,a3,a4,rfl⟩
 have hw:∀W,Below w.heap.size w W→∃A2 c2,u.W=.slice A2 win.length c2∧ByR W W.heap.size A2 win.length c2 (lst win):=fun W hb=>by
  obtain⟨A2,c2,e,i2⟩:=hs.W
  exact⟨A2,c2,e,(i2.below hb (Nat.le_refl _)).more hb.size⟩
 have hcl:Gr=false→L.length≤300∧inn.length≤700∧win.length≤4000∧u.M≤4000:=fun hG=>by
  obtain⟨g1,g2,g3,_,_,g6⟩:=grt_no (hGr▸hG)
  exact⟨g1,g2,g3,g6⟩
 rw[←hX]
 have HX:=Lib.hid hX;have HB:=Lib.hid hb0;have HVb0:=Lib.hid hv0;have HNb0:=Lib.hid hn;have HEW0:=Lib.hid hW
 have HG:=Lib.hid hg;have HF:=Lib.hid hf;have HFI:=Lib.hid hfine;have HL:=Lib.hid hL;have HR:=Lib.hid hr;have HAL:=Lib.hid alive14_any;have HWW:=Lib.hid hw;have HCL:=Lib.hid hcl
 clear hs hc hd hr hZ hX hn hW hb0 hv0 hGr hg hL hmr hst hf hE hS hfine hw hcl
 go_enter Try.func5,Try.ntmps5
 go_wp2_with (first|(rw[←HEW0.out,←HNb0.out])|fail)
 refine(HAL.out W0).mono ?_
 rintro e w1 ⟨rfl,hb⟩
 have HVb0:=Lib.hid (HVb0.out.below hb HVb0.out.lt)
 have HB:=Lib.hid (HB.out.trans (hb.mono HB.out.size))
 clear hb
 go_wp2_with (first
  |(refine wpList_load_row rfl _ _ rfl b0 rfl _ X (0,0) _ HVb0.out Try.underlying32 rfl (szSwl _ HXS.out) ?_)
  |fail)
 refine(HG.out w1 HB.out).mono ?_
 rintro e w2 ⟨rfl,hb⟩
 have HVb0:=Lib.hid (HVb0.out.below hb HVb0.out.lt)
 have HB:=Lib.hid (HB.out.trans (hb.mono HB.out.size))
 clear hb
 cases hGG:Gr with
 |true=>
  clear hGG
  go_wp2
  go_ret
  exact⟨rfl,HB.out⟩
 |false=>
  obtain⟨hl1,hl2,hl3,hl4⟩:=HCL.out hGG
  have HF2:=Lib.hid (HF.out hGG)
  clear hGG
  go_wp2_with (first
   |(refine wpList_load_row rfl _ _ rfl b0 rfl _ X (0,0) _ HVb0.out Try.underlying32 rfl (szSwl _ HXS.out) ?_)
   |fail)
  refine(HF2.out w2 HB.out).mono ?_
  rintro e w3 ⟨hbad,hok,hb⟩
  clear HF HF2 HG
  by_cases h0:E≠0
  ·obtain rfl:=hbad h0
   clear hok hbad
   have d0:(E==0)=false:=beq_eq_false_iff_ne.2 h0
   have d1:(E !=0)=true:=by simp[bne,d0]
   clear h0
   rw[←HZ.out]
   obtain⟨b3,hn⟩:∃b,b=w3.heap.size:=⟨_,rfl⟩
   obtain⟨W3,hW⟩:∃W,W=mkV w3 Z Z 32:=⟨_,rfl⟩
   have hm:Below w3.heap.size w3 W3:=by rw[hW];exact mkV_below _ _ _ _
   have hv:BoxC W3 b3 Z 32:=by rw[hW,hn];exact mkV_row _ _ _ _
   have hb2:=hb.trans (hm.mono hb.size)
   have HVb0:=Lib.hid (HVb0.out.below hb2 HVb0.out.lt)
   have HB:=Lib.hid (HB.out.trans (hb2.mono HB.out.size))
   have HVb3:=Lib.hid hv;have HNb3:=Lib.hid hn;have HEW3:=Lib.hid hW
   clear hb hb2 hm hv hn hW
   have c2:W3.cell? ⟨b3,2,none⟩=some (.slice none 0 0):=by have:=HVb3.out.cell (i:=2);rw[this,HZ.out];rfl
   go_wp2_with (first
    |(refine wpList_store_rowTo rfl _ _ _ rfl rfl w3.heap.size Z rfl rfl 32 Z (heap_alloc_new w3 _) (szSwl _ HZS.out) (by first|rfl|rw[HZS.out,HZS.out]) HZO.out ?_;rw[show(w3.alloc (.cells Z 32)).setRow w3.heap.size Z=mkV w3 Z Z 32 from rfl,←HEW3.out,←HNb3.out])
    |(refine wpList_load_row rfl _ _ rfl b0 rfl _ X (0,0) _ HVb0.out Try.underlying32 rfl (szSwl _ HXS.out) ?_)
    |(refine wpList_load_row rfl _ _ rfl b3 rfl _ Z (0,0) _ HVb3.out Try.underlying32 rfl (szSwl _ HZS.out) ?_)
    |fail)
   go_ret
   exact⟨rfl,HB.out⟩
  ·have h00:E=0:=by omega
   obtain⟨u3,At3,ct3,rfl,so,own,hby⟩:=hok h00
   obtain⟨gS,hM,hD,he,hwi⟩:=HFI.out h00
   clear hbad hok h0 h00
   have gN:=next_good gS HL.out he
   obtain⟨n1,n2,n3,n4⟩:=next_told gS he
   have hM3:u3.M=(S.most:Int):=by rw[so.M,n1]
   obtain⟨O,hO⟩:∃O,O=(feedM S L).out:=⟨_,rfl⟩
   obtain⟨on,hon⟩:∃n,n=O.length:=⟨_,rfl⟩
   obtain⟨k,hk⟩:∃k,k=usedM S L (feedM S L):=⟨_,rfl⟩
   have hkl:k≤L.length:=by rw[hk];exact used_le14 gS he
   have hD3:u3.D=(S.made:Int)+(on:Int):=by rw[so.D,n2,hon,hO];push_cast;rfl
   have hmd:S.made+on≤S.most:=by have:=gN.made;rw[n1,n2,←hO,←hon]at this;exact this
   have hmost:=gS.most
   obtain⟨N,hN⟩:∃N,N=nextM S L (feedM S L):=⟨_,rfl⟩
   rw[←hN]at so gN n3
   rw[←hO,←hon]at own
   rw[←hO]at hby n3
   rw[hwi]at n3
   rw[←hk,←hO,←hon]
   have hil:=gN.inn
   obtain⟨il,hil2⟩:∃n,n=N.inn.length:=⟨_,rfl⟩
   have hi3:∃Ai ci,u3.I=.slice Ai il ci:=by obtain⟨a,b,e,_⟩:=so.I;exact⟨a,b,by rw[e,hil2]⟩
   obtain⟨Ai,ci,hi3⟩:=hi3
   rw[←hil2]at hil
   obtain⟨mo,hmo⟩:∃m,m=S.most:=⟨_,rfl⟩
   obtain⟨md,hmdd⟩:∃m,m=S.made:=⟨_,rfl⟩
   rw[←hmo]at hM hM3 hmd hmost
   rw[←hmdd]at hD hD3 hmd
   obtain⟨X1,hX⟩:∃X,X=swA u3.sw:=⟨_,rfl⟩
   rw[←hX]
   have HX1S:Hid (X1.size=45):=Lib.hid (by rw[hX];exact swA_size (blkL_len ..))
   have HX1O:Hid (X1.all (·.oneCell')=true):=Lib.hid (by rw[hX];exact so.one)
   have HX1:=Lib.hid hX
   clear hX
   have hm4:mo≤4000:=by rw[hM]at hl4;omega
   have HL4:=Lib.hid hl4
   clear hl4
   have HGN:=Lib.hid gN;have HN3:=Lib.hid n3;have HON:=Lib.hid hon;have HBY:=Lib.hid hby;have HM:=Lib.hid hM;have HD:=Lib.hid hD;have HM3:=Lib.hid hM3;have HD3:=Lib.hid hD3;have HI3:=Lib.hid hi3
   clear gS gN n1 n2 n3 n4 hO hon hk hN hil2 hmo hmdd he hwi hby hM hD hM3 hD3 hi3
   obtain⟨b3,hn⟩:∃b,b=w3.heap.size:=⟨_,rfl⟩
   obtain⟨W3,hW⟩:∃W,W=mkV w3 Z X1 32:=⟨_,rfl⟩
   have hm:Below w3.heap.size w3 W3:=by rw[hW];exact mkV_below _ _ _ _
   have hv:BoxC W3 b3 X1 32:=by rw[hW,hn];exact mkV_row _ _ _ _
   have hb2:=hb.trans (hm.mono hb.size)
   have HVb0:=Lib.hid (HVb0.out.below hb2 HVb0.out.lt)
   have HB:=Lib.hid (HB.out.trans (hb2.mono HB.out.size))
   have HVb3:=Lib.hid hv;have HNb3:=Lib.hid hn;have HEW3:=Lib.hid hW
   have HSn:=Lib.hid (so.on hm)
   have HRt:=Lib.hid (own_keep own hm)
   clear hb hb2 hm hv hn hW so own
   obtain⟨q0,q1,q2,_,_,_,_,_⟩:=sw_x HX1.out HVb3.out
   obtain⟨r0,r1,_,_,_,_,_,_⟩:=sw_x HX.out HVb0.out
   rw[HM3.out]at q0
   rw[HD3.out]at q1
   rw[HI3.out]at q2
   rw[HM.out]at r0
   rw[HD.out]at r1
   have e0:((mo:Int) !=(mo:Int))=false:=by simp
   have e1:((md:Int)+(on:Int) !=(md:Int)+(on:Int))=false:=by simp
   have e2:decide ((mo:Int)<(md:Int)+(on:Int))=false:=decide_eq_false (by omega)
   have e3:decide ((600:Int)<(il:Int))=false:=decide_eq_false (by omega)
   have e4:decide ((k:Int)<0)=false:=decide_eq_false (by omega)
   have e5:decide ((L.length:Int)<(k:Int))=false:=decide_eq_false (by omega)
   have e6:decide (L.length<k)=false:=decide_eq_false (by omega)
   go_wp2_with (first
    |(refine wpList_store_rowTo rfl _ _ _ rfl rfl w3.heap.size X1 rfl rfl 32 Z (heap_alloc_new w3 _) (szSwl _ HX1S.out) (by first|rfl|rw[HZS.out,HX1S.out]) HX1O.out ?_;rw[show(w3.alloc (.cells Z 32)).setRow w3.heap.size X1=mkV w3 Z X1 32 from rfl,←HEW3.out,←HNb3.out])
    |(refine wpList_load_row rfl _ _ rfl b0 rfl _ X (0,0) _ HVb0.out Try.underlying32 rfl (szSwl _ HXS.out) ?_)
    |(refine wpList_load_row rfl _ _ rfl b3 rfl _ X1 (0,0) _ HVb3.out Try.underlying32 rfl (szSwl _ HX1S.out) ?_)
    |(refine wpList_load_row_on (by rfl) _ _ rfl b0 rfl _ X (0,0) _ HVb0.out Try.underlying32 rfl (szSwl _ HXS.out) ?_)
    |(refine wpList_load_row_on (by rfl) _ _ rfl b3 rfl _ X1 (0,0) _ HVb3.out Try.underlying32 rfl (szSwl _ HX1S.out) ?_)
    |fail)
   have f:=checkO_any HSn.out HGN.out
   rw[←HX1.out]at f
   clear q0 q1 q2 r0 r1 e0 e1 e2 e3 e4 e5 e6
   refine(f).mono ?_
   rintro e w4 ⟨rfl,hb⟩
   have HVb0:=Lib.hid (HVb0.out.below hb HVb0.out.lt)
   have HVb3:=Lib.hid (HVb3.out.below hb HVb3.out.lt)
   have HSn:=Lib.hid (HSn.out.on hb)
   have HRt:=Lib.hid (own_keep HRt.out hb)
   have HB:=Lib.hid (HB.out.trans (hb.mono HB.out.size))
   clear hb
   clear f
   obtain⟨Aw,cw,eW,rW⟩:=HWW.out w4 HB.out
   obtain⟨A4,c4,eW3,rW3,_⟩:=HSn.out.W
   have r6:w4.cell? ⟨b0,43,none⟩=some (.slice Aw win.length cw):=by obtain⟨_,_,_,_,_,_,h,_⟩:=sw_x HX.out HVb0.out;rw[h,eW]
   have q6:w4.cell? ⟨b3,43,none⟩=some (.slice A4 N.win.length c4):=by obtain⟨_,_,_,_,_,_,h,_⟩:=sw_x HX1.out HVb3.out;rw[h,eW3]
   have t1:(convert 22 9 (.slice Aw win.length cw)).run Try.prog w4=.ok (.string (strL win)) w4:=run_str rW.1 cw
   have t2:(convert 22 9 (.slice At3 on ct3)).run Try.prog w4=.ok (.string (strL O)) w4:=by have h:=run_str (ByR.of_own HRt.out (lst_lt HBY.out)).1 ct3;rw[HON.out]at h⊢;exact h
   have t3:(convert 22 9 (.slice A4 N.win.length c4)).run Try.prog w4=.ok (.string (strL N.win)) w4:=run_str rW3.1 c4
   have hnl:(win++O).length≤32768:=by rw[List.length_append,←HON.out];omega
   have hNw:strL N.win=strL (win++O):=by rw[HN3.out];unfold lastN;rw[show(win++O).length-32768=0 by omega,List.drop_zero]
   rw[hNw]at t3
   obtain⟨S1,hS1⟩:∃S,S=strL win:=⟨_,rfl⟩
   obtain⟨S2,hS2⟩:∃S,S=strL O:=⟨_,rfl⟩
   obtain⟨S3,hS3⟩:∃S,S=strL (win++O):=⟨_,rfl⟩
   obtain⟨n3,hn3⟩:∃n,n=(win++O).length:=⟨_,rfl⟩
   have hadd:(Op.stringOp .add S1 S2).run Try.prog w4=.ok (.string S3) w4:=by rw[run_string_add_sum w4 S1 S2 (by rw[hS1,hS2,strL_size,strL_size];rw[List.length_append]at hnl;omega),hS1,hS2,hS3,strL_app]
   have hs3:S3.size=n3:=by rw[hS3,hn3,strL_size]
   have hex:S3.extract 0 S3.size=S3:=by simp
   have hex2:S3.extract 0 n3=S3:=by rw[←hs3];exact hex
   rw[←hS1]at t1
   rw[←hS2]at t2
   rw[←hS3]at t3
   rw[←hn3]at hnl
   have zz:(S3.toList==S3.toList)=true:=by simp
   have e00:((0:Int) !=0)=false:=by decide
   have t3d:(convert 22 9 (.slice A4 N.win.length c4)).run Try.prog w4.drew=.ok (.string S3) w4.drew:=by have h:=run_str (w:=w4.drew) (show RdB w4.drew w4.heap.size A4 N.win.length (lst N.win)from rW3.1) c4;rw[show strB N.win.length (lst N.win)=strL N.win from rfl,hNw,←hS3]at h;exact h
   clear rW rW3 eW eW3 hNw hS1 hS2 hS3 hn3
   go_wp2_with fail
   go_region
   go_wp2
   go_ret
   exact⟨rfl,HB.out.drew⟩
theorem keeps14_law_lifted(os:Os)(started:os.Started)(H:Type)(enc:TypeId×Value→H):
  ReturnsInHanded {} Try.checked os 5 .any (Rows.swellKeepsSpec.pre6 enc Try.prog Try.f5 Rows.swellKeepsRow.domain false) (Rows.swellKeepsSpec.post enc Try.prog Try.f5 false true false false):=by
 refine returnsInHanded_of_change (C:=Try.checked) own started (by kernel_rfl) Try.func5
  (ChangeSpec.witness6 (enc:=enc) (C:=Try.checked) false ⟨#[],#[.agg (swA swZ),.slice none 0 0],[]⟩ 8 (by kernel_rfl) (by kernel_rfl) (by kernel_rfl) (by kernel_rfl)) ?_
 intro W base args ds gs before hval0 hW _ _
 have hval:∀(j:Nat) t v,Try.f5.params[j]?=some t→args[j]?=some v→Value.okWide Try.prog W .any base t v:=hval0
 have hW':=hW
 obtain⟨p,q,hA0,hV,rfl,_,_⟩:=hW
 have hA:DataW.TrodAll enc Try.prog W 0 (fun _=>true) true Try.f5.params.toList args.toList ds p:=hA0
 rw[Try.params5]at hA hval
 obtain⟨v0,vs0,d0,ds0,p0,q0,hargs,rfl,rfl,h0,r0⟩:=trodAll_cons hA
 obtain⟨v1,vs1,d1,ds1,p1,q1,rfl,rfl,rfl,h1,r1⟩:=trodAll_cons r0
 obtain⟨rfl,rfl,rfl⟩:=trodAll_nil r1
 obtain rfl:args=#[v0,v1]:=by cases args;simp_all
 obtain⟨rfl,rfl⟩:=trodVars_none hV
 have k0:=h0
 have lt0:∀x∈p0,x.block<W.heap.size:=by obtain⟨m,hm⟩:=k0;exact DataW.trod_lt m _ _ _ hm
 obtain⟨Q0,I0,J0,s0,t0,rfl,hs0,hc0,hd0⟩:=open_swl (hval 0 32 v0 rfl rfl) h0
 have k1:=h1
 have lt1:∀x∈p1,x.block<W.heap.size:=by obtain⟨m,hm⟩:=k1;exact DataW.trod_lt m _ _ _ hm
 obtain⟨A1,len1,cap1,rfl⟩:=okWide_slice Try.underlying22 (hval 1 22 v1 rfl rfl)
 obtain⟨f1,hx1⟩:=open_byr h1
 obtain⟨L1,rfl,hr1⟩:=byr_list hx1
 clear hA0 hval0
 refine(keeps14_law Q0 I0 J0 s0 t0 A1 cap1 L1 W hs0 hc0 hd0 hr1).mono fun e W' ⟨he,bel⟩=>?_
 subst he
 exact⟨_,rfl,_,_,_,[],_,[],hW',trodAll_mk1 (shut_bool Try.underlying4 _),(trodAll_cons_mk (Below.trod laidOut (by kernel_rfl) (of_decide_eq_true (by kernel_rfl)) k0 bel lt0) (trodAll_cons_mk (Below.trod laidOut (by kernel_rfl) (of_decide_eq_true (by kernel_rfl)) k1 bel lt1) trodAll_mk0)),rfl,bel.frame _,fun h=>by cases h⟩
theorem keeps14_law_holds:Rows.SwellKeepsSaid:=
 OpenClaim.holds_of_wide 5 Try.f5 rfl rfl rfl rfl rfl rfl rfl ⟨rfl,rfl,rfl,rfl,rfl⟩ rfl rfl rfl rfl rfl (by kernel_rfl) Try.func5 (by kernel_rfl)
  (of_decide_eq_true (by kernel_rfl)) (by unfold Func.isWrapper;first|(rw[if_pos (by decide+kernel)];kernel_rfl)|(rw[if_neg (by decide+kernel)];exact⟨rfl,rfl⟩))
  (fun os started H enc _=>keeps14_law_lifted os started H enc)
#print axioms keeps14_law_holds
end Go.Proofs.Ytcmpmighjglnpaa
