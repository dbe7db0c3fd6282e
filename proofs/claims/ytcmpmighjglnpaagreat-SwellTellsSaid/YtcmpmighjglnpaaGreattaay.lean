/-
  Words and walks.
-/
import Derived.Test.YtcmpmighjglnpaaGreattaax
set_option maxRecDepth 100000
set_option maxHeartbeats 16000000
namespace Go.Proofs.YtcmpmighjglnpaaGreat
open Go.RowKit
theorem FeeD.fail{w w':World}{E:Int}{s:Swm}{b:List Nat}(h:E≠0)(hb:Below w.heap.size w w'):FeeD w E s b (.returned (.tuple #[.agg (swA swZ),.slice none 0 0,.int .i64 0,.int .i64 E])) w':=⟨fun _=>rfl,fun h0=>absurd h0 h,hb⟩
theorem ufeed_any(w:World)(u:UnV)(inn win:List Nat)(s1 s2:List Int)(h:SwI w u inn win s1 s2)(r:Bool)(hr:r=true↔MayI u.kd u.left u.c1 s1 u.c2 s2)(Al:Option Addr)(l c:Nat)(b:List Nat)(hl:l=b.length)(rb0:ByR w w.heap.size Al l c (lst b))(st:Option Blk13)(hst:mayW u inn.length win.length s1 s2 r=true→BlkC u s1 s2 st):
  Calls Tryz.prog 9 #[.agg (swA u.sw),.slice Al l c] w fun e w'=>FeeD w (feedE u inn win s1 s2 r st b) (swmOf u inn win st) b e w':=by
 obtain⟨sb,hsb⟩:∃b,b=w.heap.size:=⟨_,rfl⟩
 obtain⟨rb,hrb⟩:∃b,b=w.heap.size+1:=⟨_,rfl⟩
 obtain⟨X,hX⟩:∃X,X=swA u.sw:=⟨_,rfl⟩
 obtain⟨Z,hZ⟩:∃Z,Z=swA swZ:=⟨_,rfl⟩
 have hz:∀u:World,(zeroValue 32).run Tryz.prog u=.ok (.agg Z) u:=by rw[hZ];exact(zero_of_info infoSwl).1
 obtain⟨W1,hW1⟩:∃W,W=(w.alloc (.cells X 32)).alloc (.cells Z 32):=⟨_,rfl⟩
 have hb1:Below w.heap.size w W1:=by rw[hW1];exact((Below.refl _ _).alloc (Nat.le_refl _) _).alloc (by simp) _
 have hs1:W1.heap.size=w.heap.size+2:=by rw[hW1];simp
 have x1:BoxC W1 sb X 32:=by rw[hW1,hsb];exact(BoxC.new w _ _).old _
 have z1:BoxC W1 rb Z 32:=by rw[hW1,hrb];have:=BoxC.new (w.alloc (.cells X 32)) Z 32;rwa[World.size_alloc]at this
 have hI1:=h.on hb1
 have hmay:=umay_any W1 u inn win s1 s2 hI1 r hr Al l c
 obtain⟨E0,hE0⟩:∃E,E=feE (mayW u inn.length win.length s1 s2 r) u.ov l:=⟨_,rfl⟩
 rw[←hE0,←hX]at hmay
 have hEE:feedE u inn win s1 s2 r st b=if E0≠0 then E0 else(feedM (swmOf u inn win st) b).err:=by unfold feedE;rw[hE0,hl]
 rw[hEE]
 have HXS:Hid (X.size=45):=Lib.hid (by rw[hX];exact swA_size (blkL_len ..))
 have HZS:Hid (Z.size=45):=Lib.hid (by rw[hZ];exact swA_size rfl)
 have HZO:Hid (Z.all (·.oneCell')=true):=Lib.hid (by rw[hZ];exact swZ_one)
 have HZB:Hid (Tryz.prog.built 32 []=some Z):=Lib.hid (by rw[hZ];exact built_swZ)
 have HMAY:=Lib.hid hmay;have HX1:=Lib.hid x1;have HZ1:=Lib.hid z1;have HB1:=Lib.hid hb1;have HW1:=Lib.hid hW1;have HSB:=Lib.hid hsb;have HRB:=Lib.hid hrb;have HS1:=Lib.hid hs1;have HXE:=Lib.hid hX;have HZE:=Lib.hid hZ
 have HSZ2:Hid (w.heap.size+1=rb):=Lib.hid hrb.symm
 rw[←hX]
 by_cases he:E0≠0
 ·rw[if_pos he]
  have d0:(E0==0)=false:=beq_eq_false_iff_ne.2 he
  have d1:(E0 !=0)=true:=by simp[bne,d0]
  have HE:=Lib.hid he
  clear h hr hst hI1 hmay hEE hX hZ hW1 hb1 hs1 x1 z1 hsb hrb hE0 he rb0 hl
  go_enter Tryz.func9,Tryz.ntmps9
  go_wp2_with (first
   |(rw[←HW1.out,←HSB.out])
   |(refine wpList_load_row rfl _ _ rfl sb rfl _ X (0,0) _ HX1.out Tryz.underlying32 rfl (szSwl _ HXS.out) ?_)
   |fail)
  refine HMAY.out.mono ?_
  rintro e w2 ⟨rfl,hb2⟩
  have HZ2:=Lib.hid (HZ1.out.below hb2 HZ1.out.lt)
  have HB2:=Lib.hid (HB1.out.trans (hb2.mono HB1.out.size))
  clear hb2
  obtain⟨w3,hw3⟩:∃W,W=w2.setRow rb Z:=⟨_,rfl⟩
  have HZ3:Hid (BoxC w3 rb Z 32):=Lib.hid (by rw[hw3];exact HZ2.out.row Z)
  have HB3:Hid (Below w.heap.size w w3):=Lib.hid (by rw[hw3];exact below_rowC HB2.out (by have:=HRB.out;omega) _)
  have HW3:=Lib.hid hw3
  clear hw3
  rw[show sb+1=rb by rw[HSB.out];exact HSZ2.out]
  go_wp2_with (first
   |(refine wpList_buildTo rfl 32 #[] rfl (some 16) rfl Z ?_ ?_;focus(simpa[Act.eval]using HZB.out))
   |(refine wpList_store_rowTo rfl _ _ _ rfl rfl rb Z rfl rfl 32 Z HZ2.out (szSwl _ HZS.out) rfl HZO.out ?_;rw[←HW3.out])
   |fail)
  refine bodyPost_ret ((cell_swl4 rfl _ _ rb _ HZS.out rfl HZ3.out).trans rfl) rfl ?_
  rw[HZE.out]
  exact FeeD.fail HE.out HB3.out
 ·have hE00:E0=0:=by omega
  rw[if_neg he]
  have hm:mayW u inn.length win.length s1 s2 r=true:=by
   rw[hE00]at hE0
   cases hm:mayW u inn.length win.length s1 s2 r with
   |true=>rfl
   |false=>rw[hm]at hE0;unfold feE at hE0;rw[if_pos rfl]at hE0;cases hE0
  have hov:u.ov=false:=by
   rw[hE00,hm]at hE0
   cases ho:u.ov with
   |false=>rfl
   |true=>rw[ho]at hE0;unfold feE at hE0;rw[if_neg (by decide),if_pos rfl]at hE0;cases hE0
  have hl2:l≤131072:=by
   rw[hE00,hm,hov]at hE0
   unfold feE at hE0
   rw[if_neg (by decide),if_neg (by decide)]at hE0
   by_cases h9:131072<l
   ·rw[if_pos h9]at hE0;cases hE0
   ·omega
  have hblk:=hst hm
  obtain⟨Ai,ci,eI,rI⟩:=h.I
  obtain⟨Aw,cw,eW,rW⟩:=h.W
  have bi:BytesP inn:=bytes_of rI
  have bw:BytesP win:=bytes_of rW
  have bb:BytesP b:=by
   have rb1:=rb0
   rw[hl]at rb1
   exact bytes_of rb1
  obtain⟨gs,gM,gD,ga,gS⟩:=may_good hm hblk bi bw
  obtain⟨s,hs⟩:∃s,s=swmOf u inn win st:=⟨_,rfl⟩
  rw[←hs]at gs gM gD ga⊢
  have esi:s.inn=inn:=by rw[hs];rfl
  have esw:s.win=win:=by rw[hs];rfl
  have est:s.st=st:=by rw[hs];rfl
  obtain⟨Q,hQ⟩:∃Q,Q=feedM s b:=⟨_,rfl⟩
  have hplace:=gs.place b
  rw[esi]at hplace
  have hi6:=gs.inn
  rw[esi]at hi6
  have hmost:=gs.most
  have hmade:=gs.made
  have hwl:win.length≤32768:=by have:=gs.win;rw[esw]at this;omega
  have hlb:(inn++b).length=inn.length+l:=by rw[List.length_append,hl]
  have hgf:cat (lst inn) inn.length (lst b)=lst (inn++b):=by funext j;exact(lst_app inn b j).symm
  have hfed:fedA (lst (inn++b)) (inn.length+l) s.most st (winO win [] 0) s.made [] s.at_=Q:=by
   rw[hQ,winO_0 hwl,←hlb]
   unfold feedM
   rw[esi,esw,est]
  have hkept:=fun e0=>feed_kept gs (b:=b) e0
  have h10:=feed_10 s b
  rw[←hQ]at h10 hkept
  have bQ:Q.err=0→BytesP Q.out:=fun e0=>by
   obtain⟨o,k1,_,_,k4⟩:=(hkept e0).told
   rw[k1];intro x hx;exact k4 x (by simpa using hx)
  have HBEG:Hid (∀V,Below W1.heap.size W1 V→Calls Tryz.prog 22 #[.agg X,.slice Al l c] V fun e w'=>∃p u',e=.returned (.pointer (some ⟨p,0,none⟩))∧UnR w' V.heap.size p u' st (lst (inn++b)) (inn.length+l) win []∧u'.M=u.M∧u'.D=u.D∧u'.ov=u.ov∧u'.bit=s.at_∧u'.wait=0∧Below V.heap.size V w'):=Lib.hid fun V hV=>by
   have bv:=hb1.trans (hV.mono hb1.size)
   have hIv:=h.on bv
   have hbg:=ubegin_any V V.heap.size (Nat.le_refl _) u Ai inn.length ci (lst inn) eI ((rI.below bv (Nat.le_refl _)).more bv.size) s.at_ ga Al l c (lst b) ((rb0.below bv (Nat.le_refl _)).more bv.size) Aw cw win eW ((rW.below bv (Nat.le_refl _)).more bv.size) gS s1 s2 hIv.r1 hIv.r2 h.n1 h.n2 hwl bw (by omega) (by rw[hlb]at hplace;exact hplace) st hblk
   rw[hgf,←hX]at hbg
   exact hbg.mono fun e w' ⟨p,u',y1,y2,y3,y4,_,_,y7,y8,y9,y10⟩=>⟨p,u',y1,y2,y3,y4,y7,y8,y9,y10⟩
  have HGO:Hid (∀V h0 p u',UnR V h0 p u' st (lst (inn++b)) (inn.length+l) win []→u'.M=u.M→u'.D=u.D→u'.ov=u.ov→u'.bit=s.at_→u'.wait=0→Calls Tryz.prog 23 #[.pointer (some ⟨p,0,none⟩)] V fun e w'=>GoD V h0 p u' (lst (inn++b)) (inn.length+l) s.most Q e w'):=Lib.hid fun V h0 p u' hu y1 y2 y3 y4 y5=>
   ugo_any V h0 p u' st (lst (inn++b)) (inn.length+l) s.most s.made win [] hu (y1.trans gM) (y2.trans gD) hmade hmost (Nat.zero_le _) (y3.trans hov) Q (by rw[y5,y4];exact hfed)
  obtain⟨il,hil⟩:∃l,l=inn.length:=⟨_,rfl⟩
  have a2:∀V,Below W1.heap.size W1 V→V.cell? ⟨sb,2,none⟩=some (.slice Ai il ci):=fun V hV=>by
   obtain⟨_,_,q2,_⟩:=sw_x hX (x1.below hV x1.lt)
   rw[eI,←hil]at q2;exact q2
  have HA2:=Lib.hid a2
  have HQ:=Lib.hid hQ;have H10:=Lib.hid h10;have HKE:=Lib.hid hkept;have HBQ:=Lib.hid bQ;have HMO:=Lib.hid hmost;have HIL:=Lib.hid hil;have HL:=Lib.hid hl;have HESI:=Lib.hid esi;have HLB:=Lib.hid hlb;have HL2:=Lib.hid hl2;have HI6:=Lib.hid hi6;have HGM:=Lib.hid gM
  rw[hE00]at HMAY
  clear h hr hst hI1 hmay hEE hX hZ hW1 hb1 hs1 x1 z1 hsb hrb hE0 he rb0 hl hE00 hm hov hl2 hblk eI rI eW rW bi bw bb gs gM gD ga gS hs esi esw est hQ hplace hi6 hmost hmade hwl hlb hgf hfed hkept h10 bQ hil a2
  go_enter Tryz.func9,Tryz.ntmps9
  go_wp2_with (first
   |(rw[←HW1.out,←HSB.out])
   |(refine wpList_load_row rfl _ _ rfl sb rfl _ X (0,0) _ HX1.out Tryz.underlying32 rfl (szSwl _ HXS.out) ?_)
   |fail)
  refine HMAY.out.mono ?_
  rintro e w2 ⟨rfl,hb2⟩
  have HX2:=Lib.hid (HX1.out.below hb2 HX1.out.lt)
  have HV2:=Lib.hid hb2
  clear hb2
  rw[show sb+1=rb by rw[HSB.out];exact HSZ2.out]
  go_wp2_with (first
   |(refine wpList_load_row rfl _ _ rfl sb rfl _ X (0,0) _ HX2.out Tryz.underlying32 rfl (szSwl _ HXS.out) ?_)
   |fail)
  refine(HBEG.out w2 HV2.out).mono ?_
  rintro e w3 ⟨p,u3,rfl,y1,y2,y3,y4,y5,y6,y7⟩
  have HGO3:=Lib.hid (HGO.out w3 w2.heap.size p u3 y1 y2 y3 y4 y5 y6)
  have HB3:=Lib.hid y7
  have HY2:=Lib.hid y2
  clear y1 y2 y3 y4 y5 y6 y7 HGO HBEG HMAY
  go_wp2_with fail
  refine HGO3.out.mono ?_
  rintro e w4 ⟨g1,g2,g3⟩
  have HB4:Hid (Below w2.heap.size w2 w4):=Lib.hid (HB3.out.trans g3)
  have hV4:Below W1.heap.size W1 w4:=HV2.out.trans (HB4.out.mono HV2.out.size)
  have HV4:=Lib.hid hV4
  have c2:=HA2.out w4 hV4
  have HZ4:=Lib.hid (HZ1.out.below hV4 HZ1.out.lt)
  clear hV4 g3
  by_cases hq:Q.err≠0
  ·have e1:=g1 hq
   subst e1
   obtain⟨er,her⟩:∃x,x=Q.err:=⟨_,rfl⟩
   have d0:(er==0)=false:=by rw[her];exact beq_eq_false_iff_ne.2 hq
   have d1:(er !=0)=true:=by simp[bne,d0]
   have d2:(er==10)=false:=by rw[her];exact beq_eq_false_iff_ne.2 H10.out
   have d3:(er !=10)=true:=by simp[bne,d2]
   have HER:=Lib.hid her;have HQE:=Lib.hid hq
   rw[←her]
   obtain⟨w5,hw5⟩:∃W,W=w4.setRow rb Z:=⟨_,rfl⟩
   have HZ5:Hid (BoxC w5 rb Z 32):=Lib.hid (by rw[hw5];exact HZ4.out.row Z)
   have HB5:Hid (Below w.heap.size w w5):=Lib.hid (by rw[hw5];exact below_rowC (HB1.out.trans (HV4.out.mono HB1.out.size)) (by have:=HRB.out;omega) _)
   have HW5:=Lib.hid hw5
   clear hw5 her hq g1 g2 c2
   go_wp2_with (first
    |(refine wpList_buildTo rfl 32 #[] rfl (some 29) rfl Z ?_ ?_;focus(simpa[Act.eval]using HZB.out))
    |(refine wpList_store_rowTo rfl _ _ _ rfl rfl rb Z rfl rfl 32 Z HZ4.out (szSwl _ HZS.out) rfl HZO.out ?_;rw[←HW5.out])
    |fail)
   refine bodyPost_ret ((cell_swl4 rfl _ _ rb _ HZS.out rfl HZ5.out).trans rfl) rfl ?_
   rw[HZE.out,←HQ.out,←HER.out]
   exact FeeD.fail (by rw[HER.out];exact HQE.out) HB5.out
  ·have hq0:Q.err=0:=by omega
   obtain⟨e1,u4,pw4,k1,k2,k3,k4,k5,k6,k7,k8,k9,k10⟩:=g2 hq0
   subst e1
   obtain⟨oc,hoc⟩:∃x:Int,x=(if Q.over=true then 0 else 10):=⟨_,rfl⟩
   have hcase:(oc !=10&&oc !=0)=false:=by rw[hoc];cases Q.over<;>rfl
   have hoc2:oc=0∨oc=10:=by rw[hoc];cases Q.over;exact .inr rfl;exact .inl rfl
   rw[←hoc]
   have HRST:=Lib.hid (urest_any w4 w2.heap.size p u4 Q.st (lst (inn++b)) (inn.length+l) pw4 Q.out k1 (by have:=HMO.out;omega) il (by rw[HIL.out];omega))
   have HK2:=Lib.hid k2;have HK3:=Lib.hid k3;have HK6:=Lib.hid k6;have HK7:=Lib.hid k7;have HK8:=Lib.hid k8;have HQ0:=Lib.hid hq0;have HP4:Hid (p<w4.heap.size):=Lib.hid (BoxC.lt k1.box)
   clear hoc k1 k2 k3 k4 k5 k6 k7 k8 k9 k10 g1 g2 hq hq0 hcase
   rcases hoc2 with rfl|rfl
   all_goals(
    go_wp2_with fail
    refine HRST.out.mono ?_
    rintro e w6 ⟨rfl,⟨u6,q1,q2,q3,q4,q5,q6,A6,c6,q7,q8⟩,q9⟩
    obtain⟨N,hN⟩:∃N:Int,N=(if u4.ov=true then max (((u4.bit+7)/8:Nat)-(il:Int)) 0 else((inn.length+l:Nat):Int)-(il:Int)):=⟨_,rfl⟩
    rw[←hN]
    have hNu:N=(usedM s b Q:Int):=by
     rw[hN,HK6.out,HK7.out]
     unfold usedM
     rw[HESI.out,HIL.out,←HL.out]
     cases Q.over
     ·rw[if_neg (by decide),if_neg (by decide)];omega
     ·rw[if_pos rfl,if_pos rfl];omega
    obtain⟨At,ct,et,ho⟩:=q1.told
    rw[et]at ho
    obtain⟨q,hq⟩:∃q,q=Q.out.length:=⟨_,rfl⟩
    have hrbl:rb<w2.heap.size:=Nat.lt_of_lt_of_le HZ1.out.lt HV2.out.size
    have hpne:p≠rb:=by have:=q1.lo;omega
    obtain⟨Y,hY⟩:∃Y,Y=swA u6.sw:=⟨_,rfl⟩
    have HYS:Hid (Y.size=45):=Lib.hid (by rw[hY];exact swA_size (blkL_len ..))
    have hYO:Y.all (·.oneCell')=true:=by
     rw[hY]
     refine swA_one ?_ (by show u6.W.oneCell'=true;rw[q7];rfl) q1.blk.one
     show u6.I.oneCell'=true
     cases hov4:u4.ov with
     |true=>rw[(q5 hov4).1];rfl
     |false=>exact(q6 hov4).1.one
    have HYO:=Lib.hid hYO
    have RY1:Hid ((w6.drew).rangeAt p 0 Y.toList):=Lib.hid (by rw[hY];exact UnB.rS (w:=w6.drew) q1.box)
    have bz6:UnB ((w6.drew).setRow rb Y) p u6:=BoxC.rowO (w:=w6.drew) q1.box hpne Y
    have RY2:Hid (((w6.drew).setRow rb Y).rangeAt p 0 Y.toList):=Lib.hid (by rw[hY]at bz6⊢;exact UnB.rS bz6)
    have RT1:Hid ((w6.drew).cell? ⟨p,47,none⟩=some (.slice At q ct)):=Lib.hid (by rw[hq,←et];exact UnB.ct (w:=w6.drew) q1.box)
    have RT2:Hid (((w6.drew).setRow rb Y).cell? ⟨p,47,none⟩=some (.slice At q ct)):=Lib.hid (by rw[hq,←et];exact UnB.ct bz6)
    have z6:BoxC (w6.drew) rb Z 32:=HZ4.out.below (B:=w2.heap.size) q9.drew hrbl
    have HZD:=Lib.hid z6
    have HZF:Hid (BoxC ((w6.drew).setRow rb Y) rb Y 32):=Lib.hid (z6.row Y)
    have fr6:Fr (fun k=>k=rb) w6 ((w6.drew).setRow rb Y):=(Fr.of (S:=fun k=>k=rb) ((Below.refl w6.heap.size w6).drew)).trans (Fr.row (w6.drew) rb Y:Fr (fun k=>k=rb) (w6.drew) _)
    have hbase:w.heap.size≤w2.heap.size:=Nat.le_trans HB1.out.size HV2.out.size
    have HSO:Hid (SwO ((w6.drew).setRow rb Y) w.heap.size u6 (nextM s b Q)):=Lib.hid (SwO.of (s:=s) (b:=b) (Q:=Q) (by rw[HESI.out];exact q1) HK8.out (by rw[HESI.out];exact HLB.out.symm) (by rw[q2,HK2.out,HY2.out];exact HGM.out) (by rw[q3];exact HK3.out) (by rw[q4];exact HK6.out) (fun e9=>(HKE.out HQ0.out).over e9)
     (fun e9=>q5 (by rw[HK6.out];exact e9)) (fun e9=>by have:=q6 (by rw[HK6.out];exact e9);rw[HK7.out]at this;rw[HESI.out];exact this) q7 q8 fr6 hrbl hbase)
    have HOW:Hid (((w6.drew).setRow rb Y).ownsRow w.heap.size 5 1 (.slice At q ct) q (bytesL q (lst Q.out))):=Lib.hid (by rw[hq];exact own8_frR ho fr6 hrbl hbase)
    have HBF:Hid (Below w.heap.size w ((w6.drew).setRow rb Y)):=Lib.hid (by
     have b6:Below w.heap.size w w6:=(HB1.out.trans (HV4.out.mono HB1.out.size)).trans (q9.mono hbase)
     exact below_rowC b6.drew (by have:=HRB.out;omega) _)
    have HNU:=Lib.hid hNu;have HQL:=Lib.hid hq;have HYE:=Lib.hid hY
    clear q1 q2 q3 q4 q5 q6 q7 q8 q9 hN hNu et ho hq hrbl hpne hY hYO bz6 z6 fr6 hbase c2
    go_wp2_with fail
    refine wp_region_twoK 9 (twT [fun v=>v=.pointer (some ⟨p,0,none⟩),fun v=>v=.pointer (some ⟨p,0,none⟩),fun v=>v=.pointer (some ⟨p,0,none⟩),fun v=>v=.agg Y,fun v=>v=.pointer (some ⟨p,0,none⟩),fun v=>v=.pointer (some ⟨p,0,none⟩),fun v=>v=.pointer (some ⟨p,47,none⟩),fun v=>v=.slice At q ct,fun v=>v=.int .i64 N,fun v=>v=undef,fun v=>v=.slice At q ct,fun v=>v=.int .i64 N,fun v=>v=.int .i64 0]) ((w6.drew).setRow rb Y) (by kernel_rfl) (by kernel_rfl) ?_ ?_
    case refine_1=>
     refine TwAllK.cons (fun aa wv hw ha hS Kk Qq hK=>tw_val (k:=0) (s:=9) (by decide) (tab_free rfl) (.pointer (some ⟨p,0,none⟩)) (by have e:=(show aa.eval (.tmp 9)=.pointer (some ⟨p,0,none⟩)from((ha 9 (by kernel_rfl)).trans rfl));unfold execOp;simp only[e];rfl) hK rfl) ?_
     refine TwAllK.cons (fun aa wv hw ha hS Kk Qq hK=>tw_val (k:=1) (s:=9) (by decide) (tab_free rfl) (.pointer (some ⟨p,0,none⟩)) (by have e:=(show aa.eval (.tmp 36)=.pointer (some ⟨p,0,none⟩)from hS 0 36 (by kernel_rfl) rfl);unfold execOp;simp only[e];rfl) hK rfl) ?_
     refine TwAllK.cons (fun aa wv hw ha hS Kk Qq hK=>tw_val (k:=2) (s:=9) (by decide) (tab_free rfl) (.pointer (some ⟨p,0,none⟩)) (by have e:=(show aa.eval (.tmp 37)=.pointer (some ⟨p,0,none⟩)from hS 1 37 (by kernel_rfl) rfl);unfold execOp;simp only[e];go_simp) hK rfl) ?_
     refine TwAllK.cons (fun aa wv hw ha hS Kk Qq hK=>tw_val (k:=3) (s:=9) (by decide) (tab_free rfl) (.agg Y) (by have e:=(show aa.eval (.tmp 38)=.pointer (some ⟨p,0,none⟩)from hS 2 38 (by kernel_rfl) rfl);have hx:wv.rangeAt p 0 Y.toList:=by {rcases hw with hw|⟨hw,_,_⟩<;>first|(rw[hw];exact RY1.out)|(rw[hw];exact RY2.out)};have hl:=run_loadVar_mid wv p 0 32 Y.toList _ hx Tryz.underlying32 rfl (by rw[Array.length_toList];exact szSwl _ HYS.out);unfold execOp;simp only[e,Instr.loadAt,Instr.sureAddr,Sem.run_bind,Sem.run_pure,Result.andThen_ok,hl]) hK rfl) ?_
     refine TwAllK.cons (fun aa wv hw ha hS Kk Qq hK=>tw_val (k:=4) (s:=9) (by decide) (tab_free rfl) (.pointer (some ⟨p,0,none⟩)) (by have e:=(show aa.eval (.tmp 9)=.pointer (some ⟨p,0,none⟩)from((ha 9 (by kernel_rfl)).trans rfl));unfold execOp;simp only[e];rfl) hK rfl) ?_
     refine TwAllK.cons (fun aa wv hw ha hS Kk Qq hK=>tw_val (k:=5) (s:=9) (by decide) (tab_free rfl) (.pointer (some ⟨p,0,none⟩)) (by have e:=(show aa.eval (.tmp 40)=.pointer (some ⟨p,0,none⟩)from hS 4 40 (by kernel_rfl) rfl);unfold execOp;simp only[e];rfl) hK rfl) ?_
     refine TwAllK.cons (fun aa wv hw ha hS Kk Qq hK=>tw_val (k:=6) (s:=9) (by decide) (tab_free rfl) (.pointer (some ⟨p,47,none⟩)) (by have e:=(show aa.eval (.tmp 41)=.pointer (some ⟨p,0,none⟩)from hS 5 41 (by kernel_rfl) rfl);unfold execOp;simp only[e];go_simp) hK rfl) ?_
     refine TwAllK.cons (fun aa wv hw ha hS Kk Qq hK=>tw_val (k:=7) (s:=9) (by decide) (tab_free rfl) (.slice At q ct) (by have e:=(show aa.eval (.tmp 42)=.pointer (some ⟨p,47,none⟩)from hS 6 42 (by kernel_rfl) rfl);have hc:wv.cell? ⟨p,47,none⟩=some (.slice At q ct):=by {rcases hw with hw|⟨hw,_,_⟩<;>first|(rw[hw];exact RT1.out)|(rw[hw];exact RT2.out)};unfold execOp;simp only[e];go_simp) hK rfl) ?_
     refine TwAllK.cons (fun aa wv hw ha hS Kk Qq hK=>tw_val (k:=8) (s:=9) (by decide) (tab_free rfl) (.int .i64 N) (by have e:=(show aa.eval (.tmp 6)=.int .i64 N from((ha 6 (by kernel_rfl)).trans rfl));unfold execOp;simp only[e];rfl) hK rfl) ?_
     refine TwAllK.cons (fun aa wv hw ha hS Kk Qq hK=>tw_store (s:=9) (tab_free rfl) rfl (by have e1:=(show aa.eval (.tmp 4)=.pointer (some ⟨rb,0,none⟩)from((ha 4 (by kernel_rfl)).trans rfl));have e2:=(show aa.eval (.tmp 39)=.agg Y from hS 3 39 (by kernel_rfl) rfl);have hww:wv=w6.drew:=by {rcases hw with hw|⟨_,hw,_⟩<;>first|exact hw|exact absurd rfl hw};subst hww;have hst:=run_storeVar_row (P:=Tryz.prog) (w6.drew) rb 32 32 Z Y HZD.out (szSwl _ HYS.out) (HZS.out.trans HYS.out.symm) HYO.out;unfold execOp;simp only[e1,e2,Instr.storeAt,Instr.sureAddr,Sem.run_bind,Sem.run_pure,Result.andThen_ok,hst]) hK rfl) ?_
     refine TwAllK.cons (fun aa wv hw ha hS Kk Qq hK=>tw_val (k:=10) (s:=9) (by decide) (tab_free rfl) (.slice At q ct) (by have e:=(show aa.eval (.tmp 43)=.slice At q ct from hS 7 43 (by kernel_rfl) rfl);unfold execOp;simp only[e];rfl) hK rfl) ?_
     refine TwAllK.cons (fun aa wv hw ha hS Kk Qq hK=>tw_val (k:=11) (s:=9) (by decide) (tab_free rfl) (.int .i64 N) (by have e:=(show aa.eval (.tmp 44)=.int .i64 N from hS 8 44 (by kernel_rfl) rfl);unfold execOp;simp only[e];rfl) hK rfl) ?_
     refine TwAllK.cons (fun aa wv hw ha hS Kk Qq hK=>tw_val (k:=12) (s:=9) (by decide) (tab_free rfl) (.int .i64 0) (by unfold execOp;rfl) hK rfl) ?_
     exact TwAllK.nil
    intro vals hv
    have e1:vals 5=.slice At q ct:=hv 10 5 rfl
    have e2:vals 6=.int .i64 N:=hv 11 6 rfl
    have e3:vals 7=.int .i64 0:=hv 12 7 rfl
    clear hv
    simp only[List.map_cons,List.map_nil,putL,Act.put,List.setIfInBounds_toArray,List.set_cons_zero,List.set_cons_succ,e1,e2,e3]
    clear e1 e2 e3
    go_wp2
    refine bodyPost_ret ((cell_swl4 rfl _ _ rb _ HYS.out rfl HZF.out).trans rfl) rfl ?_
    refine⟨fun h9=>absurd (by rw[←HQ.out];exact HQ0.out) h9,fun _=>⟨u6,At,ct,?_,by rw[←HQ.out];exact HSO.out,by rw[←HQ.out,←HQL.out];exact HOW.out,by rw[←HQ.out];exact HBQ.out HQ0.out⟩,HBF.out⟩
    rw[←HQ.out,←HQL.out,←HNU.out,←HYE.out]
    rfl)
end Go.Proofs.YtcmpmighjglnpaaGreat
namespace Go.Proofs.YtcmpmighjglnpaaGreat
open Go.RowKit
theorem unew14_any(w:World)(n:Int):Calls Tryz.prog 7 #[.int .i64 n] w fun e w'=>e=.returned (.tuple #[.agg (swA (newV14 n)),.int .i64 (newE14 n)])∧Below w.heap.size w w':=by
 obtain⟨h,hh⟩:∃h,h=w.heap.size:=⟨_,rfl⟩
 obtain⟨Z,hZ⟩:∃Z,Z=swA swZ:=⟨_,rfl⟩
 obtain⟨W1,hW1⟩:∃W1,W1=w.alloc (.cells Z 32):=⟨_,rfl⟩
 have hb1:Below h w W1:=by rw[hW1,hh];exact(Below.refl _ _).alloc (Nat.le_refl _) _
 have z1:BoxC W1 h Z 32:=by rw[hW1,hh];exact BoxC.new w _ _
 have HZS:Hid (Z.size=45):=Lib.hid (by rw[hZ];exact swA_size rfl)
 have HZB:Hid (Tryz.prog.built 32 []=some Z):=Lib.hid (by rw[hZ];exact built_swZ)
 have hz:∀u:World,(zeroValue 32).run Tryz.prog u=.ok (.agg Z) u:=by rw[hZ];exact(zero_of_info infoSwl).1
 obtain⟨X,hX⟩:∃X,X=swA (newV14 n):=⟨_,rfl⟩
 rw[←hX]
 have HXS:Hid (X.size=45):=Lib.hid (by rw[hX];exact swA_size (newV_B n))
 have HXO:Hid (X.all (·.oneCell')=true):=Lib.hid (by rw[hX];exact newV_one n)
 have HN:Hid (Calls Tryz.prog 20 #[.int .i64 32768] W1 fun e w'=>e=.returned (.tuple #[.agg #[.int .i64 32768,.slice none 0 0],.int .i64 0])∧Below W1.heap.size W1 w'):=Lib.hid (snew_any W1 32768 (by omega) (by omega))
 have HSZ1:Hid (h<W1.heap.size):=Lib.hid z1.lt
 have HW1:=Lib.hid hW1;have HH:=Lib.hid hh;have HB1:=Lib.hid hb1;have HZ1:=Lib.hid z1
 clear hW1 hh hb1 z1
 by_cases hbad:n<0∨131072<n
 ·have e1:newE14 n=2:=if_pos hbad
  have hXZ:X=Z:=by rw[hX,hZ];unfold newV14;rw[if_pos hbad]
  subst hXZ
  rw[e1]
  clear e1 hX hZ
  by_cases y0:n<0
  ·have d0:decide (n<0)=true:=decY y0
   clear hbad y0
   go_enter Tryz.func7,Tryz.ntmps7
   go_wp2_with (first
    |(rw[←HW1.out,←HH.out])
    |(refine wpList_buildTo rfl 32 #[] rfl (some 12) rfl X ?_ ?_;focus(simpa[Act.eval]using HZB.out))
    |(refine wpList_store_rowTo rfl _ _ _ rfl rfl h X rfl rfl 32 X HZ1.out (szSwl _ HXS.out) rfl HXO.out ?_)
    |fail)
   refine bodyPost_ret ((cell_swl2 rfl _ _ h _ HXS.out rfl (setRow_heap _ _ _ _ _ _ HZ1.out)).trans rfl) rfl ⟨rfl,?_⟩
   rw[←HH.out];exact below_rowU13 HB1.out (Nat.le_refl _) _
  ·have d0:decide (n<0)=false:=decN y0
   have d1:decide (131072<n)=true:=decY (by omega)
   clear hbad y0
   go_enter Tryz.func7,Tryz.ntmps7
   go_wp2_with (first
    |(rw[←HW1.out,←HH.out])
    |(refine wpList_buildTo rfl 32 #[] rfl (some 12) rfl X ?_ ?_;focus(simpa[Act.eval]using HZB.out))
    |(refine wpList_store_rowTo rfl _ _ _ rfl rfl h X rfl rfl 32 X HZ1.out (szSwl _ HXS.out) rfl HXO.out ?_)
    |fail)
   refine bodyPost_ret ((cell_swl2 rfl _ _ h _ HXS.out rfl (setRow_heap _ _ _ _ _ _ HZ1.out)).trans rfl) rfl ⟨rfl,?_⟩
   rw[←HH.out];exact below_rowU13 HB1.out (Nat.le_refl _) _
 ·have e1:newE14 n=0:=if_neg hbad
  have HXB:Hid (Tryz.prog.built 32 [(0,.int .i64 n),(6,.agg #[.int .i64 32768,.slice none 0 0])]=some X):=Lib.hid (by rw[hX];unfold newV14;rw[if_neg hbad];exact built_beg14 n)
  have d0:decide (n<0)=false:=decN (by omega)
  have d1:decide (131072<n)=false:=decN (by omega)
  rw[e1]
  clear e1 hX hZ hbad
  go_enter Tryz.func7,Tryz.ntmps7
  go_wp2_with (first
   |(rw[←HW1.out,←HH.out])
   |fail)
  refine HN.out.mono ?_
  rintro e w2 ⟨rfl,hb2⟩
  have HZ2:Hid (BoxC w2 h Z 32):=Lib.hid (HZ1.out.below hb2 HSZ1.out)
  have HB2:=Lib.hid (HB1.out.trans (hb2.mono (Nat.le_of_lt HSZ1.out)))
  have HS2:Hid (h<w2.heap.size):=Lib.hid (Nat.lt_of_lt_of_le HSZ1.out hb2.size)
  clear hb2
  obtain⟨w3,hw3⟩:∃W,W=w2.alloc (.cells #[.int .i64 32768,.slice none 0 0] 30):=⟨_,rfl⟩
  have HZ3:Hid (BoxC w3 h Z 32):=Lib.hid (by rw[hw3];exact HZ2.out.old _)
  have HB3:Hid (Below h w w3):=Lib.hid (by rw[hw3];exact HB2.out.alloc (Nat.le_of_lt HS2.out) _)
  have HW3:=Lib.hid hw3
  have k3:BoxC w3 w2.heap.size #[.int .i64 32768,.slice none 0 0] 30:=by rw[hw3];exact BoxC.new w2 _ _
  have c0:w3.cell? ⟨w2.heap.size,0,none⟩=some (.int .i64 32768):=k3.cell.trans rfl
  have c1:w3.cell? ⟨w2.heap.size,1,none⟩=some (.slice none 0 0):=k3.cell.trans rfl
  clear hw3 k3
  go_wp2_with (first
   |(rw[←HW3.out])
   |(refine wpList_buildTo rfl 32 #[(0,.tmp 17),(6,.tmp 18)] rfl (some 19) rfl X ?_ ?_;focus(simpa[Act.eval,Act.put]using HXB.out))
   |(refine wpList_store_rowTo rfl _ _ _ rfl rfl h X rfl rfl 32 Z HZ3.out (szSwl _ HXS.out) (by rw[HZS.out,HXS.out]) HXO.out ?_)
   |fail)
  refine bodyPost_ret ((cell_swl2 rfl _ _ h _ HXS.out rfl (setRow_heap _ _ _ _ _ _ HZ3.out)).trans rfl) rfl ⟨rfl,?_⟩
  rw[←HH.out];exact below_rowU13 HB3.out (Nat.le_refl _) _
end Go.Proofs.YtcmpmighjglnpaaGreat
namespace Go.Proofs.YtcmpmighjglnpaaGreat
open Go.RowKit
def newU(n:Int):UnV:={unZ with M:=n,S:=32768}
theorem newU_sw{n:Int}(h0:0≤n)(h1:n≤131072):swA (newV14 n)=swA (newU n).sw:=by
 unfold newV14
 rw[if_neg (by omega)]
 rfl
theorem SwO.new(w:World)(base:Nat)(m:Nat):SwO w base (newU (m:Int)) (begM m):=
 ⟨rfl,rfl,rfl,rfl,rfl,⟨none,0,rfl,World.ownsRow_nil _ _ _ _⟩,⟨none,0,rfl,ByR.nil _ _ _ (fun j=>lst_lt (L:=[]) (fun x hx=>by cases hx) j),NewB.nil _ _ _⟩,⟨rfl,rfl,rfl,rfl,rfl,rfl,World.ownsRow_nil _ _ _ _,World.ownsRow_nil _ _ _ _⟩⟩
def fdoE(s:Swm)(b:List Nat):Int:=if s.over=true then 6 else if 131072<b.length then 4 else(feedM s b).err
theorem feedO_any{w:World}{base:Nat}{u:UnV}{s:Swm}(h:SwO w base u s)(g:GoodSw s)(Al:Option Addr)(l c:Nat)(b:List Nat)(hl:l=b.length)(rb:ByR w w.heap.size Al l c (lst b)):
  Calls Tryz.prog 9 #[.agg (swA u.sw),.slice Al l c] w fun e w'=>FeeD w (fdoE s b) s b e w':=by
 obtain⟨s1,s2,i,bc,sm,my,mw⟩:=h.into g
 have:=ufeed_any w u s.inn s.win s1 s2 i true ⟨fun _=>my,fun _=>rfl⟩ Al l c b hl rb s.st fun _=>bc
 rw[sm]at this
 have e:feedE u s.inn s.win s1 s2 true s.st b=fdoE s b:=by
  have e2:feE (mayW u s.inn.length s.win.length s1 s2 true) u.ov b.length=if s.over=true then 6 else if 131072<b.length then 4 else 0:=by
   unfold feE;rw[mw,h.ov,if_neg (by intro h;cases h)]
  unfold feedE fdoE
  rw[e2,sm]
  by_cases ho:s.over=true
  ·rw[if_pos ho,if_pos ho,if_pos (by decide)]
  ·rw[if_neg ho,if_neg ho]
   by_cases h9:131072<b.length
   ·rw[if_pos h9,if_pos h9,if_pos (by decide)]
   ·rw[if_neg h9,if_neg h9,if_neg (by decide)]
 rw[e]at this
 exact this
theorem SwO.on{w w':World}{base:Nat}{u:UnV}{s:Swm}(h:SwO w base u s)(hb:Below w.heap.size w w'):SwO w' base u s:=by
 obtain⟨A,c,e1,e2⟩:=h.I
 obtain⟨A',c',e3,e4,e5⟩:=h.W
 exact⟨h.M,h.D,h.a,h.S,h.ov,⟨A,c,e1,own_keep e2 hb⟩,⟨A',c',e3,(e4.below hb (Nat.le_refl _)).more hb.size,e5.below hb (Nat.le_refl _)⟩,h.blk.on hb⟩
end Go.Proofs.YtcmpmighjglnpaaGreat
