/-
  The law SwellParts: bytes in two parts are read as at once.
-/
import Derived.Test.Ytcmpmighjglnpaasaal
import Derived.Test.Ytcmpmighjglnpaasaap
import Derived.Test.Ytcmpmighjglnpaasabe
import Derived.Test.Ytcmpmighjglnpaasabf
set_option maxRecDepth 100000
set_option maxHeartbeats 16000000
namespace Go.Proofs.Ytcmpmighjglnpaa
open Go.RowKit Go.ChangeShapes Go.WideShapes Go.ChangeAt Go.Joins
theorem parts_num{u:UnV}{inn win:List Nat}{s1 s2:List Int}{r:Bool}{st:Option Blk13}{la lb:List Nat}(hst:mayW u inn.length win.length s1 s2 r=true→BlkC u s1 s2 st)(bi:BytesP inn)(bw:BytesP win)(hl:la.length+lb.length≤131072):
  (feedE u inn win s1 s2 r st la≠0→feedE u inn win s1 s2 r st (la++lb)=feedE u inn win s1 s2 r st la)∧
  (feedE u inn win s1 s2 r st la=0→GoodSw (swmOf u inn win st)∧(feedM (swmOf u inn win st) la).err=0∧
   ((feedM (swmOf u inn win st) la).over=true→feedE u inn win s1 s2 r st (la++lb)=0∧feedM (swmOf u inn win st) (la++lb)=feedM (swmOf u inn win st) la)∧
   ((feedM (swmOf u inn win st) la).over=false→feedE u inn win s1 s2 r st (la++lb)=(feedM (nextM (swmOf u inn win st) la (feedM (swmOf u inn win st) la)) lb).err∧(feedE u inn win s1 s2 r st (la++lb)=0→
    (feedM (swmOf u inn win st) (la++lb)).out=(feedM (swmOf u inn win st) la).out++(feedM (nextM (swmOf u inn win st) la (feedM (swmOf u inn win st) la)) lb).out∧
    nextM (swmOf u inn win st) (la++lb) (feedM (swmOf u inn win st) (la++lb))=nextM (nextM (swmOf u inn win st) la (feedM (swmOf u inn win st) la)) lb (feedM (nextM (swmOf u inn win st) la (feedM (swmOf u inn win st) la)) lb)∧
    usedM (swmOf u inn win st) (la++lb) (feedM (swmOf u inn win st) (la++lb))=la.length+usedM (nextM (swmOf u inn win st) la (feedM (swmOf u inn win st) la)) lb (feedM (nextM (swmOf u inn win st) la (feedM (swmOf u inn win st) la)) lb)))):=by
 have e0:∀L:List Nat,L.length≤131072→feE (mayW u inn.length win.length s1 s2 r) u.ov L.length=feE (mayW u inn.length win.length s1 s2 r) u.ov 0:=fun L h=>by
  unfold feE
  rw[if_neg (show¬131072<L.length by omega),if_neg (show¬131072<0 by omega)]
 have q1:=e0 la (by omega)
 have q2:=e0 (la++lb) (by rw[List.length_append];exact hl)
 have hE1:feedE u inn win s1 s2 r st la=if feE (mayW u inn.length win.length s1 s2 r) u.ov 0≠0 then feE (mayW u inn.length win.length s1 s2 r) u.ov 0 else(feedM (swmOf u inn win st) la).err:=by unfold feedE;rw[q1]
 have hE2:feedE u inn win s1 s2 r st (la++lb)=if feE (mayW u inn.length win.length s1 s2 r) u.ov 0≠0 then feE (mayW u inn.length win.length s1 s2 r) u.ov 0 else(feedM (swmOf u inn win st) (la++lb)).err:=by unfold feedE;rw[q2]
 by_cases hz:feE (mayW u inn.length win.length s1 s2 r) u.ov 0≠0
 ·rw[if_pos hz]at hE1 hE2
  rw[hE1,hE2]
  exact⟨fun _=>rfl,fun h=>absurd h hz⟩
 ·rw[if_neg hz]at hE1 hE2
  have hm:mayW u inn.length win.length s1 s2 r=true:=by
   cases hm:mayW u inn.length win.length s1 s2 r with
   |true=>rfl
   |false=>rw[hm]at hz;exact absurd (by unfold feE;rw[if_pos rfl];decide) hz
  obtain⟨g,_⟩:=may_good hm (hst hm) bi bw
  obtain⟨f1,f2,f3⟩:=feed_two g la lb
  rw[hE1,hE2]
  refine⟨fun h=>by rw[f1 h],fun h=>⟨g,h,fun ho=>?_,fun ho=>?_⟩⟩
  ·have:=f2 h ho
   exact⟨by rw[this];exact h,this⟩
  ·obtain⟨a1,a2⟩:=f3 h ho
   refine⟨a1,fun h9=>?_⟩
   obtain⟨_,_,_,_,b1,b2,b3⟩:=a2 (a1▸h9)
   exact⟨b1,b2,b3⟩
theorem parts14_law(u:UnV)(inn win:List Nat)(s1 s2:List Int)(Aa:Option Addr)(ca:Nat)(la:List Nat)(Ab:Option Addr)(cb:Nat)(lb:List Nat)(w:World)(hs:SwJ w u inn win s1 s2)(hc:∀i,16≤i→u.c1 i=0)(hd:∀i,16≤i→u.c2 i=0)(ra:ByR w w.heap.size Aa la.length ca (lst la))(rb:ByR w w.heap.size Ab lb.length cb (lst lb))(hlb:lb.length≤140737488355328):
  Calls Try.prog 4 #[.agg (swA u.sw),.slice Aa la.length ca,.slice Ab lb.length cb] w fun e w'=>e=.returned (.bool true)∧Below w.heap.size w w':=by
 obtain⟨Z,hZ⟩:∃Z,Z=swA swZ:=⟨_,rfl⟩
 have hz:∀u:World,(zeroValue 32).run Try.prog u=.ok (.agg Z) u:=by rw[hZ];exact(zero_of_info infoSwl).1
 have HZS:Hid (Z.size=45):=Lib.hid (by rw[hZ];exact swA_size rfl)
 have HZO:Hid (Z.all (·.oneCell')=true):=Lib.hid (by rw[hZ];exact swZ_one)
 have HZ:=Lib.hid hZ
 obtain⟨X,hX⟩:∃X,X=swA u.sw:=⟨_,rfl⟩
 have HXS:Hid (X.size=45):=Lib.hid (by rw[hX];exact swA_size (blkL_len ..))
 obtain⟨b0,hn⟩:∃b,b=w.heap.size:=⟨_,rfl⟩
 obtain⟨W0,hW⟩:∃W,W=w.alloc (.cells X 32):=⟨_,rfl⟩
 have hb0:Below w.heap.size w W0:=by rw[hW];exact(Below.refl _ _).alloc (Nat.le_refl _) _
 have hv0:BoxC W0 b0 X 32:=by rw[hW,hn];exact BoxC.new w _ _
 obtain⟨an,han⟩:∃n,n=la.length:=⟨_,rfl⟩
 obtain⟨bn,hbn⟩:∃n,n=lb.length:=⟨_,rfl⟩
 obtain⟨Gr,hGr⟩:∃G,G=grtW u la.length inn.length win.length s1 s2:=⟨_,rfl⟩
 have hg:=fun(W:World) (hb:Below w.heap.size w W)=>rgreat14_any W u inn win s1 s2 (hs.on hb) Aa la.length ca
 rw[←hGr,←hX,←han]at hg
 have hba:BytesP la:=bytes_of14 ra
 have hbb:BytesP lb:=bytes_of14 rb
 have hbc:BytesP (la++lb):=fun x hx=>(List.mem_append.1 hx).elim (hba x) (hbb x)
 obtain⟨r,hmr⟩:=may_bool (MayI u.kd u.left u.c1 s1 u.c2 s2)
 obtain⟨st,hst⟩:=blkC_of (il:=inn.length) (wl:=win.length) hmr hc hd
 have hf:=fun(hG:Gr=false) (W:World) (hb:Below w.heap.size w W) (A2:Option Addr) (n2 c2:Nat) (L2:List Nat) (hn2:n2=L2.length) (r2:ByR W W.heap.size A2 n2 c2 (lst L2))=>by
  obtain⟨g1,g2,g3,g4,g5,g6⟩:=grt_no (hGr▸hG)
  exact ufeed_any W u inn win s1 s2 ((hs.on hb).few (by omega) (by omega) (by omega) (by omega)) r hmr A2 n2 c2 L2 hn2 r2 st hst
 obtain⟨S,hS⟩:∃S,S=swmOf u inn win st:=⟨_,rfl⟩
 have hbi:BytesP inn:=by obtain⟨A1,c1,_,i1⟩:=hs.I;exact bytes_of14 i1
 have hbw:BytesP win:=by obtain⟨A2,c2,_,i2⟩:=hs.W;exact bytes_of14 i2
 have hnum:=fun h:la.length+lb.length≤131072=>parts_num (la:=la) (lb:=lb) hst hbi hbw h
 obtain⟨E4,hE4⟩:∃E,E=feedE u inn win s1 s2 r st (la++lb):=⟨_,rfl⟩
 obtain⟨E5,hE5⟩:∃E,E=feedE u inn win s1 s2 r st la:=⟨_,rfl⟩
 rw[←hE4,←hE5,←hS]at hnum
 rw[←hS,←hX]at hf
 have ra0:∀V,Below w.heap.size w V→ByR V V.heap.size Aa an ca (lst la):=fun V hV=>by rw[han];exact(ra.below hV (Nat.le_refl _)).more hV.size
 have rb0:∀V,Below w.heap.size w V→ByR V V.heap.size Ab bn cb (lst lb):=fun V hV=>by rw[hbn];exact(rb.below hV (Nat.le_refl _)).more hV.size
 have hf4:Gr=false→∀W,Below w.heap.size w W→∀A2 c2,ByR W W.heap.size A2 (an+bn) c2 (lst (la++lb))→Calls Try.prog 7 #[.agg X,.slice A2 (an+bn) c2] W fun e w'=>FeeD W E4 S (la++lb) e w':=fun hG W hb A2 c2 r2=>by
  rw[hE4];exact hf hG W hb A2 (an+bn) c2 (la++lb) (by rw[han,hbn,List.length_append]) r2
 have hf5:Gr=false→∀W,Below w.heap.size w W→Calls Try.prog 7 #[.agg X,.slice Aa an ca] W fun e w'=>FeeD W E5 S la e w':=fun hG W hb=>by
  rw[hE5];exact hf hG W hb Aa an ca la han (ra0 W hb)
 have hcl:Gr=false→an≤300:=fun hG=>by
  obtain⟨g1,_⟩:=grt_no (hGr▸hG)
  rw[han];exact g1
 have hct:(∀j,j<an→lst (la++lb) j=lst la j)∧(∀j,j<bn→lst (la++lb) (an+j)=lst lb j):=⟨(fun j hj=>by rw[lst_app];unfold cat;rw[if_pos (by omega)]),(fun j hj=>by rw[lst_app];unfold cat;rw[if_neg (by omega),han,Nat.add_sub_cancel_left])⟩
 have HRG:Hid (∀V,BoxC V b0 X 32→V.rangeAt b0 0 X.toList):=Lib.hid fun V hx=>rangeMid hx 0 _ fun i hi=>by rw[Nat.zero_add,Array.getElem?_toList]
 rw[←hX,←han,←hbn]
 rw[←hbn]at hlb
 have HX:=Lib.hid hX;have HB:=Lib.hid hb0;have HVb0:=Lib.hid hv0;have HNb0:=Lib.hid hn;have HEW0:=Lib.hid hW
 have HG:=Lib.hid hg;have HF4:=Lib.hid hf4;have HF5:=Lib.hid hf5;have HAL:=Lib.hid alive14_any;have HCL:=Lib.hid hcl
 have HNUM:=Lib.hid hnum;have RA0:=Lib.hid ra0;have RB0:=Lib.hid rb0;have HCT:=Lib.hid hct;have HBC:=Lib.hid (lst_lt hbc);have HBA:=Lib.hid hba;have HBB:=Lib.hid hbb;have HAN:=Lib.hid han;have HBN:=Lib.hid hbn
 clear hs hc hd ra rb hZ hX hn hW hb0 hv0 hGr hg hba hbb hbc hmr hst hf hE4 hE5 hS hnum hbi hbw ra0 rb0 hf4 hf5 hcl hct han hbn
 go_enter Try.func4,Try.ntmps4
 go_wp2_with (first|(rw[←HEW0.out,←HNb0.out])|fail)
 refine(HAL.out W0).mono ?_
 rintro e w1 ⟨rfl,hb⟩
 have HVb0:=Lib.hid (HVb0.out.below hb HVb0.out.lt)
 have HB:=Lib.hid (HB.out.trans (hb.mono HB.out.size))
 clear hb
 go_wp2_with (first
  |(refine wpList_load_row rfl _ _ rfl b0 rfl _ X (0,0) _ HVb0.out Try.underlying32 rfl (szSwl _ HXS.out) ?_)
  |fail)
 refine(HG.out w1 HB.out).mono ?_
 rintro e w2 ⟨rfl,hb⟩
 have HVb0:=Lib.hid (HVb0.out.below hb HVb0.out.lt)
 have HB:=Lib.hid (HB.out.trans (hb.mono HB.out.size))
 clear hb
 cases hGG:Gr with
 |true=>
  clear hGG
  go_wp2
  go_ret
  exact⟨rfl,HB.out⟩
 |false=>
  have hl1:=HCL.out hGG
  have HG4:=Lib.hid (HF4.out hGG)
  have HG5:=Lib.hid (HF5.out hGG)
  clear hGG HF4 HF5 HG HCL
  have h64:wrap64 ((an:Int)+(bn:Int))=(an:Int)+(bn:Int):=by unfold wrap64;omega
  by_cases hab:300<an+bn
  ·have hd:decide ((300:Int)<((an+bn:Nat):Int))=true:=decide_eq_true (by omega)
   have hd2:decide ((300:Int)<(an:Int)+(bn:Int))=true:=decide_eq_true (by omega)
   go_wp2
   go_ret
   exact⟨rfl,HB.out⟩
  have HSM3:Hid (an+bn≤300):=Lib.hid (by omega)
  have HLB:Hid (lb.length≤131072):=Lib.hid (by have h:=HSM3.out;rw[HBN.out]at h;exact Nat.le_trans (Nat.le_trans (Nat.le_add_left _ _) h) (by decide))
  have hd:decide ((300:Int)<((an+bn:Nat):Int))=false:=decide_eq_false (by omega)
  have hd2:decide ((300:Int)<(an:Int)+(bn:Int))=false:=decide_eq_false (by omega)
  obtain⟨hn1,hn2⟩:=HNUM.out (by rw[←HAN.out,←HBN.out];omega)
  have HN1:=Lib.hid hn1;have HN2:=Lib.hid hn2
  clear hn1 hn2 HNUM
  obtain⟨O4,hO4⟩:∃O,O=ansO E4 S (la++lb):=⟨_,rfl⟩
  obtain⟨n4,hn4⟩:∃n,n=O4.length:=⟨_,rfl⟩
  obtain⟨K4,hK4⟩:∃k,k=ansU E4 S (la++lb):=⟨_,rfl⟩
  obtain⟨N4,hN4⟩:∃k,k=nextM S (la++lb) (feedM S (la++lb)):=⟨_,rfl⟩
  have HN4:=Lib.hid hn4;have HO4:=Lib.hid hO4;have HK4:=Lib.hid hK4;have HNN4:=Lib.hid hN4
  have RA:Hid (∀V,Below w2.heap.size w2 V→ByR V V.heap.size Aa an ca (lst la)):=Lib.hid fun V hV=>RA0.out V (HB.out.trans (hV.mono HB.out.size))
  have RB:Hid (∀V,Below w2.heap.size w2 V→ByR V V.heap.size Ab bn cb (lst lb)):=Lib.hid fun V hV=>RB0.out V (HB.out.trans (hV.mono HB.out.size))
  have HCX:Hid (∀V,Below w2.heap.size w2 V→∀A2 c2,ByR V V.heap.size A2 (an+bn) c2 (lst (la++lb))→Calls Try.prog 7 #[.agg X,.slice A2 (an+bn) c2] V fun e w'=>∃X1 At ct,e=.returned (.tuple #[.agg X1,.slice At n4 ct,.int .i64 (K4:Int),.int .i64 E4])∧FeeR w' E4 N4 O4 X1 At ct∧Below V.heap.size V w'):=Lib.hid fun V hV A2 c2 h2=>(HG4.out V (HB.out.trans (hV.mono HB.out.size)) A2 c2 h2).mono fun e w' h=>by rw[hn4,hO4,hK4,hN4];exact h.ans
  clear hn4 hO4 hK4 hN4
  go_wp2_with fail
  refine wp_region_tabk 12 [8,9,10] [2] [5,6,7,8,9,10] 4 (tabT [fun v _=>v=.agg X,fun v _=>v=.slice Aa an ca,fun v W=>∃A1 c1,v=.slice A1 an c1∧W.ownsRow w2.heap.size 5 1 (.slice A1 an c1) an (bytesL an (lst la)),fun v _=>v=.slice Ab bn cb,fun v W=>∃A2 c2,v=.slice A2 (an+bn) c2∧ByR W W.heap.size A2 (an+bn) c2 (lst (la++lb)),fun v W=>∃X1 A4 k4,v=.tuple #[.agg X1,.slice A4 n4 k4,.int .i64 (K4:Int),.int .i64 E4]∧FeeR W E4 N4 O4 X1 A4 k4,fun v W=>∃X1 A4 k4,v=.tuple #[.agg X1,.slice A4 n4 k4,.int .i64 (K4:Int),.int .i64 E4]∧FeeR W E4 N4 O4 X1 A4 k4,fun v W=>∃X1 A4 k4,v=.agg X1∧FeeR W E4 N4 O4 X1 A4 k4,fun v W=>∃X1 A4 k4,v=.slice A4 n4 k4∧FeeR W E4 N4 O4 X1 A4 k4,fun v _=>v=.int .i64 (K4:Int),fun v _=>v=.int .i64 E4,fun v W=>∃ad,v=.pointer (some ⟨ad,0,none⟩)∧BoxC W ad Z 32∧w2.heap.size≤ad]) w2 (Below.refl _ _) (by kernel_rfl) (by kernel_rfl) (List.forall_mem_cons.2 ⟨⟨_,_,rfl,rfl,rfl,(fun _ _ _ _ h=>h),fun aa wv hb ha hS=>by obtain⟨X1,A4,k4,h1,h2⟩:=(hS 6 37 (by kernel_rfl) rfl).here;exact⟨.slice A4 n4 k4,fun w'=>by (unfold execOp;simp only[h1];go_simp),fun W hW=>⟨X1,A4,k4,rfl,h2.on hW⟩⟩⟩,(List.forall_mem_cons.2 ⟨⟨_,_,rfl,rfl,rfl,(fun _ _ _ _ h=>h),fun aa wv hb ha hS=>by obtain⟨X1,A4,k4,h1,h2⟩:=(hS 6 37 (by kernel_rfl) rfl).here;exact⟨.int .i64 (K4:Int),fun w'=>by (unfold execOp;simp only[h1];go_simp),up_eq rfl⟩⟩,(List.forall_mem_cons.2 ⟨⟨_,_,rfl,rfl,rfl,(fun _ _ _ _ h=>h),fun aa wv hb ha hS=>by obtain⟨X1,A4,k4,h1,h2⟩:=(hS 6 37 (by kernel_rfl) rfl).here;exact⟨.int .i64 E4,fun w'=>by (unfold execOp;simp only[h1];go_simp),up_eq rfl⟩⟩,(fun _ h=>by cases h)⟩)⟩)⟩) ?_ ?_
  case refine_1=>
   simp only[List.take_succ_cons,List.take_zero]
   refine TabAllK.cons (by decide) (fun aa wv hb ha hS Kk Qq hK=>tab_row (tab_free rfl) _ _ rfl b0 0 ((ha 3 (by kernel_rfl)).trans rfl) X.toList _ (HRG.out wv (HVb0.out.below hb HVb0.out.lt)) Try.underlying32 rfl (by rw[Array.length_toList];exact szSwl _ HXS.out) (up_eq (by rw[Array.toArray_toList])) hK) ?_
   refine TabAllK.cons (by decide) (fun aa wv hb ha hS Kk Qq hK=>tab_move (tab_free rfl) _ rfl (up_eq ((ha 1 (by kernel_rfl)).trans rfl)) hK) ?_
   refine TabAllK.cons (by decide) (fun aa wv hb ha hS Kk Qq hK=>by obtain⟨A1,c1,w2',hr,o1,b1,_⟩:=run_twin wv wv.heap.size Aa an ca (lst la) (RA.out wv hb).1 (by omega) 22 (RA.out wv hb).2.1;exact tab_app (tab_free rfl) _ _ _ rfl (.slice none 0 0) (.slice Aa an ca) (.slice A1 an c1) rfl (show aa.eval (.tmp 39)=.slice Aa an ca from(hS 1 39 (by kernel_rfl) rfl).here) hr b1 (fun W hW=>⟨A1,c1,rfl,own_keep (ownsRow_lower o1 hb.size) hW⟩) hK) ?_
   refine TabAllK.cons (by decide) (fun aa wv hb ha hS Kk Qq hK=>tab_move (tab_free rfl) _ rfl (up_eq ((ha 2 (by kernel_rfl)).trans rfl)) hK) ?_
   refine TabAllK.consK rfl (fun aa wv hb ha hS Kk Qq hK=>by
    obtain⟨A1,c1,e37,o1⟩:=(hS 2 40 (by kernel_rfl) rfl).here
    obtain⟨A2,c2,w2',hr,o2,bb2,kk2,_⟩:=run_catB_s wv w2.heap.size A1 an c1 (lst la) o1 Ab bn cb (lst lb) (lst (la++lb)) (RB.out wv hb) HCT.out.1 HCT.out.2 (by omega) hb.size
    refine tab_appK (tab_free rfl) _ _ _ rfl (.slice A1 an c1) (.slice Ab bn cb) (.slice A2 (an+bn) c2) e37 (show aa.eval (.tmp 41)=.slice Ab bn cb from(hS 3 41 (by kernel_rfl) rfl).here) hr ?_ ?_ ?_ hK
    ·exact hb.trans bb2
    ·exact(by
    intro j u h1 h2 h3 hu
    rcases j with _|_|_|_|_|_|_|_|_|_|_|_|j
    ·exact fun W hW=>hu.here
    ·exact fun W hW=>hu.here
    ·exact absurd (by decide) h2
    ·exact fun W hW=>hu.here
    ·exact absurd rfl h1
    ·exact absurd (by decide) h3
    ·exact absurd (by decide) h3
    ·exact absurd (by decide) h3
    ·exact absurd (by decide) h3
    ·exact absurd (by decide) h3
    ·exact absurd (by decide) h3
    ·exact fun W hW=>by
      obtain⟨ad,e,bx,hl⟩:=hu.here
      have bx2:BoxC w2' ad Z 32:=(kk2 ad bx.lt (own_typeG o1 bx (by rfl))).trans bx
      exact⟨ad,e,bx2.below hW bx2.lt,hl⟩
    ·exact fun W hW=>trivial)
    ·exact fun W hW=>⟨A2,c2,rfl,((ByR.of_own o2 HBC.out).below hW (Nat.le_refl _)).more hW.size⟩) ?_
   refine TabAllK.cons (by decide) (fun aa wv hb ha hS Kk Qq hK=>by obtain⟨A2,c2,e39,r2⟩:=(hS 4 42 (by kernel_rfl) rfl).here;exact tab_call (tab_free rfl) 7 _ _ rfl (enters_of Try.func7 (by kernel_rfl) rfl) #[.agg X,.slice A2 (an+bn) c2] (by simp[(show aa.eval (.tmp 38)=.agg X from(hS 0 38 (by kernel_rfl) rfl).here),e39]) (HCX.out wv hb A2 c2 r2) (fun ee w' ⟨X1,A4,k4,h1,h2,h3⟩=>⟨_,h1,h3,fun W hW=>⟨X1,A4,k4,rfl,h2.on hW⟩⟩) hK) ?_
   refine TabAllK.cons (by decide) (fun aa wv hb ha hS Kk Qq hK=>tab_move (tab_free rfl) _ rfl (hS 5 43 (by kernel_rfl) rfl) hK) ?_
   refine TabAllK.cons (by decide) (fun aa wv hb ha hS Kk Qq hK=>by obtain⟨X1,A4,k4,h1,h2⟩:=(hS 6 37 (by kernel_rfl) rfl).here;exact tab_extract (tab_free rfl) _ _ rfl _ (.agg X1) h1 (by go_simp) (fun W hW=>⟨X1,A4,k4,rfl,h2.on hW⟩) hK) ?_
   refine TabAllK.cons (by decide) (fun aa wv hb ha hS Kk Qq hK=>by obtain⟨X1,A4,k4,h1,h2⟩:=(hS 6 37 (by kernel_rfl) rfl).here;exact tab_extract (tab_free rfl) _ _ rfl _ (.slice A4 n4 k4) h1 (by go_simp) (fun W hW=>⟨X1,A4,k4,rfl,h2.on hW⟩) hK) ?_
   refine TabAllK.cons (by decide) (fun aa wv hb ha hS Kk Qq hK=>by obtain⟨X1,A4,k4,h1,h2⟩:=(hS 6 37 (by kernel_rfl) rfl).here;exact tab_extract (tab_free rfl) _ _ rfl _ (.int .i64 (K4:Int)) h1 (by go_simp) (up_eq rfl) hK) ?_
   refine TabAllK.cons (by decide) (fun aa wv hb ha hS Kk Qq hK=>by obtain⟨X1,A4,k4,h1,h2⟩:=(hS 6 37 (by kernel_rfl) rfl).here;exact tab_extract (tab_free rfl) _ _ rfl _ (.int .i64 E4) h1 (by go_simp) (up_eq rfl) hK) ?_
   refine TabAllK.cons (by decide) (fun aa wv hb ha hS Kk Qq hK=>by have hzz:=hz;exact tab_make (w':=wv.alloc (.cells Z 32)) (tab_free rfl) (.pointer (some ⟨wv.heap.size,0,none⟩)) (by go_simp) ((Below.refl _ _).alloc (Nat.le_refl _) _) (fun W hW=>⟨_,rfl,(BoxC.new wv Z 32).below hW (by simp),hb.size⟩) hK) ?_
   exact TabAllK.nil
  intro vals w5 hb5 hv
  obtain⟨X4,A4a,k4a,e44,q4⟩:=(hv 7 44 rfl (by decide)).here
  obtain⟨X4b,A4,k4,e45,ro4⟩:=(hv 8 45 rfl (by decide)).here
  have e46:vals 46=.int .i64 (K4:Int):=(hv 9 46 rfl (by decide)).here
  have e47:vals 47=.int .i64 E4:=(hv 10 47 rfl (by decide)).here
  obtain⟨b4,e8,bx4,hl4⟩:=(hv 11 8 rfl (by decide)).here
  have HX4S:Hid (X4.size=45):=Lib.hid q4.size
  have HX4O:Hid (X4.all (·.oneCell')=true):=Lib.hid q4.one
  obtain⟨W4,hW4⟩:∃W,W=w5.setRow b4 X4:=⟨_,rfl⟩
  have bu4:Below w2.heap.size w2 W4:=by rw[hW4];exact below_rowC hb5 hl4 X4
  have HQ4:Hid (FeeR W4 E4 N4 O4 X4 A4a k4a):=Lib.hid (by rw[hW4];exact q4.box bx4 X4)
  have HO4R:Hid (FeeR W4 E4 N4 O4 X4b A4 k4):=Lib.hid (by rw[hW4];exact ro4.box bx4 X4)
  have HVb4:Hid (BoxC W4 b4 X4 32):=Lib.hid (by rw[hW4];exact bx4.row X4)
  have HVb0:=Lib.hid (HVb0.out.below bu4 HVb0.out.lt)
  have HB:=Lib.hid (HB.out.trans (bu4.mono HB.out.size))
  have HBX4:=Lib.hid bx4;have HW4:=Lib.hid hW4
  clear q4 ro4 bx4 hl4 hW4 bu4 hb5 hv
  simp only[List.take_succ_cons,List.take_zero,List.drop_succ_cons,List.drop_zero,List.map_cons,List.map_nil,putL,Act.put,List.setIfInBounds_toArray,List.set_cons_zero,List.set_cons_succ,e44,e45,e46,e47,e8]
  clear e44 e45 e46 e47 e8
  go_wp2_with (first
   |(refine wpList_store_rowTo rfl _ _ _ rfl rfl b4 X4 rfl rfl 32 Z HBX4.out (szSwl _ HX4S.out) (by rw[HZS.out,HX4S.out]) HX4O.out ?_;rw[←HW4.out])
   |(refine wpList_load_row rfl _ _ rfl b0 rfl _ X (0,0) _ HVb0.out Try.underlying32 rfl (szSwl _ HXS.out) ?_)
   |(refine wpList_load_row rfl _ _ rfl b4 rfl _ X4 (0,0) _ HVb4.out Try.underlying32 rfl (szSwl _ HX4S.out) ?_)
   |fail)
  obtain⟨O5,hO5⟩:∃O,O=ansO E5 S la:=⟨_,rfl⟩
  obtain⟨n5,hn5⟩:∃n,n=O5.length:=⟨_,rfl⟩
  obtain⟨K5,hK5⟩:∃k,k=ansU E5 S la:=⟨_,rfl⟩
  obtain⟨N5,hN5⟩:∃k,k=nextM S la (feedM S la):=⟨_,rfl⟩
  have HN5:=Lib.hid hn5;have HO5:=Lib.hid hO5;have HK5:=Lib.hid hK5;have HNN5:=Lib.hid hN5
  have HCY:Hid (∀V,Below w.heap.size w V→Calls Try.prog 7 #[.agg X,.slice Aa an ca] V fun e w'=>∃X1 At ct,e=.returned (.tuple #[.agg X1,.slice At n5 ct,.int .i64 (K5:Int),.int .i64 E5])∧FeeR w' E5 N5 O5 X1 At ct∧Below V.heap.size V w'):=Lib.hid fun V hV=>(HG5.out V hV).mono fun e w' h=>by rw[hn5,hO5,hK5,hN5];exact h.ans
  clear hn5 hO5 hK5 hN5
  refine(HCY.out W4 HB.out).mono ?_
  rintro e w6 hfee
  obtain⟨X5,At6,ct6,rfl,q,hb⟩:=hfee
  have HX5S:Hid (X5.size=45):=Lib.hid q.size
  have HX5O:Hid (X5.all (·.oneCell')=true):=Lib.hid q.one
  obtain⟨b6,hn⟩:∃b,b=w6.heap.size:=⟨_,rfl⟩
  obtain⟨W6,hW⟩:∃W,W=mkV w6 Z X5 32:=⟨_,rfl⟩
  have hm:Below w6.heap.size w6 W6:=by rw[hW];exact mkV_below _ _ _ _
  have hv:BoxC W6 b6 X5 32:=by rw[hW,hn];exact mkV_row _ _ _ _
  have hb2:=hb.trans (hm.mono hb.size)
  have HVb0:=Lib.hid (HVb0.out.below hb2 HVb0.out.lt)
  have HVb4:=Lib.hid (HVb4.out.below hb2 HVb4.out.lt)
  have HB:=Lib.hid (HB.out.trans (hb2.mono HB.out.size))
  have HQ4:=Lib.hid (HQ4.out.on hb2)
  have HO4R:=Lib.hid (HO4R.out.on hb2)
  have HVb6:=Lib.hid hv;have HNb6:=Lib.hid hn;have HEW6:=Lib.hid hW;have HQ5:=Lib.hid (q.on hm)
  clear hb hb2 hm hv hn hW q
  by_cases h0:E5≠0
  ·have e45:=HN1.out h0
   subst e45
   have z5:n5=0:=by rw[HN5.out,HO5.out];unfold ansO;rw[if_neg h0];rfl
   have z4:n4=0:=by rw[HN4.out,HO4.out];unfold ansO;rw[if_neg h0];rfl
   subst z5;subst z4
   have d0:(E4==0)=false:=beq_eq_false_iff_ne.2 h0
   have d1:(E4 !=0)=true:=by simp[bne,d0]
   have d2:(E4==E4)=true:=by simp
   clear h0 h64 hd hd2 hab
   go_wp2_with (first
    |(refine wpList_store_rowTo rfl _ _ _ rfl rfl w6.heap.size X5 rfl rfl 32 Z (heap_alloc_new w6 _) (szSwl _ HX5S.out) (by first|rfl|rw[HZS.out,HX5S.out]) HX5O.out ?_;rw[show(w6.alloc (.cells Z 32)).setRow w6.heap.size X5=mkV w6 Z X5 32 from rfl,←HEW6.out,←HNb6.out])
    |(refine wpList_load_row rfl _ _ rfl b0 rfl _ X (0,0) _ HVb0.out Try.underlying32 rfl (szSwl _ HXS.out) ?_)
    |(refine wpList_load_row rfl _ _ rfl b4 rfl _ X4 (0,0) _ HVb4.out Try.underlying32 rfl (szSwl _ HX4S.out) ?_)
    |(refine wpList_load_row rfl _ _ rfl b6 rfl _ X5 (0,0) _ HVb6.out Try.underlying32 rfl (szSwl _ HX5S.out) ?_)
    |fail)
   go_ret
   exact⟨rfl,HB.out⟩
  have h00:E5=0:=by omega
  obtain⟨gS,he5,hov,hno⟩:=HN2.out h00
  have gN5:GoodSw N5:=by rw[HNN5.out];exact next_good gS HBA.out he5
  obtain⟨_,_,_,ho5⟩:=next_told gS he5
  obtain⟨u5,base5,hX5,so5⟩:=HQ5.out.ok h00
  have hO5':O5=(feedM S la).out:=by rw[HO5.out];unfold ansO;rw[if_pos h00]
  have hK5':K5=usedM S la (feedM S la):=by rw[HK5.out];unfold ansU;rw[if_pos h00]
  have HMD5:Hid (O5.length≤N5.made):=Lib.hid (by rw[hO5',HNN5.out,(next_told gS he5).2.1];omega)
  subst h00
  clear h0
  cases hv5:(feedM S la).over with
  |true=>
   have c44:=swO_over so5 hX5 HVb6.out (by rw[HNN5.out,ho5,hv5]:N5.over=true)
   obtain⟨hE,hq⟩:=hov hv5
   subst hE
   have hNN:N4=N5:=by rw[HNN4.out,HNN5.out,hq];unfold nextM;rw[hv5,if_pos rfl,if_pos rfl]
   have hOO:O4=O5:=by rw[HO4.out,hO5'];unfold ansO;rw[if_pos rfl,hq]
   have hKK:K4=K5:=by rw[HK4.out,hK5'];unfold ansU;rw[if_pos rfl,hq];unfold usedM;rw[hv5,if_pos rfl,if_pos rfl]
   have hnn:n4=n5:=by rw[HN4.out,HN5.out,hOO]
   subst hKK;subst hnn;subst hOO
   obtain⟨u4,base4,hX4,so4⟩:=HQ4.out.ok rfl
   rw[hNN]at so4
   have hsm:=sameO_any so4 so5 gN5
   rw[←hX4,←hX5]at hsm
   have HSM:=Lib.hid hsm
   have t1:∀W,Below W6.heap.size W6 W→(convert 22 9 (.slice A4 n4 k4)).run Try.prog W=.ok (.string (strL O4)) W:=fun W hb=>by have h:=run_str ((HO4R.out.on hb).row).1 k4;rw[HN4.out];exact h
   have t2:∀W,Below W6.heap.size W6 W→(convert 22 9 (.slice At6 n4 ct6)).run Try.prog W=.ok (.string (strL O4)) W:=fun W hb=>by have h:=run_str ((HQ5.out.on hb).row).1 ct6;rw[HN4.out];exact h
   have T1:=Lib.hid t1;have T2:=Lib.hid t2
   have z1:((strL O4).toList==(strL O4).toList)=true:=by simp
   have z2:((K4:Int)==(K4:Int))=true:=by simp
   obtain⟨Z4,hZ4⟩:∃Z,Z=strL O4:=⟨_,rfl⟩
   rw[←hZ4]at z1
   have HZ4:=Lib.hid hZ4
   clear t1 t2 hsm so4 hX4 hNN hq so5 hX5 ho5 gN5 gS hO5' hK5' hov hno he5 hv5 hZ4 h64 hd hd2 hab
   go_wp2_with (first
    |(refine wpList_store_rowTo rfl _ _ _ rfl rfl w6.heap.size X5 rfl rfl 32 Z (heap_alloc_new w6 _) (szSwl _ HX5S.out) (by first|rfl|rw[HZS.out,HX5S.out]) HX5O.out ?_;rw[show(w6.alloc (.cells Z 32)).setRow w6.heap.size X5=mkV w6 Z X5 32 from rfl,←HEW6.out,←HNb6.out])
    |(refine wpList_load_row rfl _ _ rfl b0 rfl _ X (0,0) _ HVb0.out Try.underlying32 rfl (szSwl _ HXS.out) ?_)
    |(refine wpList_load_row rfl _ _ rfl b4 rfl _ X4 (0,0) _ HVb4.out Try.underlying32 rfl (szSwl _ HX4S.out) ?_)
    |(refine wpList_load_row rfl _ _ rfl b6 rfl _ X5 (0,0) _ HVb6.out Try.underlying32 rfl (szSwl _ HX5S.out) ?_)
    |(refine wpList_load_row_on (by rfl) _ _ rfl b0 rfl _ X (0,0) _ HVb0.out Try.underlying32 rfl (szSwl _ HXS.out) ?_)
    |(refine wpList_load_row_on (by rfl) _ _ rfl b4 rfl _ X4 (0,0) _ HVb4.out Try.underlying32 rfl (szSwl _ HX4S.out) ?_)
    |(refine wpList_load_row_on (by rfl) _ _ rfl b6 rfl _ X5 (0,0) _ HVb6.out Try.underlying32 rfl (szSwl _ HX5S.out) ?_)
    |fail)
   refine HSM.out.mono ?_
   rintro e w7 ⟨rfl,hb⟩
   have t1:=T1.out w7 hb;have t2:=T2.out w7 hb
   rw[←HZ4.out]at t1 t2
   have HB:=Lib.hid (HB.out.trans (hb.mono HB.out.size))
   clear hb c44
   go_wp2
   go_ret
   exact⟨rfl,HB.out⟩
  |false=>
   have c44:=swO_over so5 hX5 HVb6.out (by rw[HNN5.out,ho5,hv5]:N5.over=false)
   have hN5o:N5.over=false:=by rw[HNN5.out,ho5,hv5]
   obtain⟨hE,hq⟩:=hno hv5
   rw[←HNN5.out]at hE hq
   have hK5a:K5=an:=by rw[hK5'];unfold usedM;rw[hv5,if_neg (by decide),HAN.out]
   subst hK5a
   obtain⟨O6,hO6⟩:∃O,O=ansO E4 N5 lb:=⟨_,rfl⟩
   obtain⟨n6,hn6⟩:∃n,n=O6.length:=⟨_,rfl⟩
   obtain⟨K6,hK6⟩:∃k,k=ansU E4 N5 lb:=⟨_,rfl⟩
   obtain⟨N6,hN6⟩:∃k,k=nextM N5 lb (feedM N5 lb):=⟨_,rfl⟩
   have f6:Calls Try.prog 7 #[.agg X5,.slice Ab bn cb] W6 fun e w'=>∃X1 At ct,e=.returned (.tuple #[.agg X1,.slice At n6 ct,.int .i64 (K6:Int),.int .i64 E4])∧FeeR w' E4 N6 O6 X1 At ct∧Below W6.heap.size W6 w':=by
    have h:=feedO_any so5 gN5 Ab bn cb lb HBN.out (RB0.out W6 HB.out)
    rw[←hX5]at h
    have e6:fdoE N5 lb=E4:=by rw[fdoE_ok hN5o HLB.out,hE]
    rw[e6]at h
    refine h.mono fun e w' h=>?_
    rw[hn6,hO6,hK6,hN6];exact h.ans
   have HF6:=Lib.hid f6;have HN6:=Lib.hid hn6;have HO6:=Lib.hid hO6;have HK6:=Lib.hid hK6;have HNN6:=Lib.hid hN6;have HGN5:=Lib.hid gN5;have HQQ:=Lib.hid hq;have HO5':=Lib.hid hO5';have HBLB:=Lib.hid HBB.out
   have HE6:=Lib.hid hE
   clear f6 hn6 hO6 hK6 hN6 gN5 hq hE so5 hX5 ho5 hN5o gS hO5' hK5' hov hno he5 hv5 h64 hd hd2
   go_wp2_with (first
    |(refine wpList_store_rowTo rfl _ _ _ rfl rfl w6.heap.size X5 rfl rfl 32 Z (heap_alloc_new w6 _) (szSwl _ HX5S.out) (by first|rfl|rw[HZS.out,HX5S.out]) HX5O.out ?_;rw[show(w6.alloc (.cells Z 32)).setRow w6.heap.size X5=mkV w6 Z X5 32 from rfl,←HEW6.out,←HNb6.out])
    |(refine wpList_load_row rfl _ _ rfl b0 rfl _ X (0,0) _ HVb0.out Try.underlying32 rfl (szSwl _ HXS.out) ?_)
    |(refine wpList_load_row rfl _ _ rfl b4 rfl _ X4 (0,0) _ HVb4.out Try.underlying32 rfl (szSwl _ HX4S.out) ?_)
    |(refine wpList_load_row rfl _ _ rfl b6 rfl _ X5 (0,0) _ HVb6.out Try.underlying32 rfl (szSwl _ HX5S.out) ?_)
    |fail)
   refine(HF6.out).mono ?_
   rintro e w7 hfee
   obtain⟨X6,At7,ct7,rfl,q,hb⟩:=hfee
   have HX6S:Hid (X6.size=45):=Lib.hid q.size
   have HX6O:Hid (X6.all (·.oneCell')=true):=Lib.hid q.one
   obtain⟨b7,hn⟩:∃b,b=w7.heap.size:=⟨_,rfl⟩
   obtain⟨W7,hW⟩:∃W,W=mkV w7 Z X6 32:=⟨_,rfl⟩
   have hm:Below w7.heap.size w7 W7:=by rw[hW];exact mkV_below _ _ _ _
   have hv:BoxC W7 b7 X6 32:=by rw[hW,hn];exact mkV_row _ _ _ _
   have hb2:=hb.trans (hm.mono hb.size)
   have HVb0:=Lib.hid (HVb0.out.below hb2 HVb0.out.lt)
   have HVb4:=Lib.hid (HVb4.out.below hb2 HVb4.out.lt)
   have HVb6:=Lib.hid (HVb6.out.below hb2 HVb6.out.lt)
   have HB:=Lib.hid (HB.out.trans (hb2.mono HB.out.size))
   have HQ4:=Lib.hid (HQ4.out.on hb2)
   have HO4R:=Lib.hid (HO4R.out.on hb2)
   have HQ5:=Lib.hid (HQ5.out.on hb2)
   have HVb7:=Lib.hid hv;have HNb7:=Lib.hid hn;have HEW7:=Lib.hid hW;have HQ6:=Lib.hid (q.on hm)
   clear hb hb2 hm hv hn hW q
   have d1:((K5:Int) !=(K5:Int))=false:=by simp
   have d2:(E4 !=E4)=false:=by simp
   clear c44
   go_upto_region 11 with(first
    |(refine wpList_store_rowTo rfl _ _ _ rfl rfl w7.heap.size X6 rfl rfl 32 Z (heap_alloc_new w7 _) (szSwl _ HX6S.out) (by first|rfl|rw[HZS.out,HX6S.out]) HX6O.out ?_;rw[show(w7.alloc (.cells Z 32)).setRow w7.heap.size X6=mkV w7 Z X6 32 from rfl,←HEW7.out,←HNb7.out])
    |fail)
   by_cases h4:E4≠0
   ·have d3:(E4 !=0)=true:=by simpa using h4
    clear h4 hab
    go_wp2
    go_ret
    exact⟨rfl,HB.out⟩
   ·have h40:E4=0:=by omega
    obtain⟨p1,p2,p3⟩:=HQQ.out h40
    have hNN:N4=N6:=by rw[HNN4.out,HNN6.out];exact p2
    have hOO:O4=O5++O6:=by rw[HO4.out,HO5'.out,HO6.out];unfold ansO;rw[if_pos h40,if_pos h40,p1]
    have hKK:K4=K5+K6:=by rw[HK4.out,HK6.out];unfold ansU;rw[if_pos h40,if_pos h40,p3,HAN.out]
    subst h40
    obtain⟨u4,base4,hX4,so4⟩:=HQ4.out.ok rfl
    obtain⟨u6,base6,hX6,so6⟩:=HQ6.out.ok rfl
    rw[hNN]at so4
    have gN6:GoodSw N6:=by rw[HNN6.out];exact next_good HGN5.out HBB.out (by rw[←HE6.out])
    have hsm:=sameO_any so4 so6 gN6
    rw[←hX4,←hX6]at hsm
    have hck:=fun(W:World) (hb:Below W7.heap.size W7 W)=>checkO_any (so4.on hb) gN6
    rw[←hX4]at hck
    have HSM:=Lib.hid hsm;have HCK:=Lib.hid hck
    obtain⟨S4,hS4⟩:∃S,S=strL O4:=⟨_,rfl⟩
    obtain⟨S5,hS5⟩:∃S,S=strL O5:=⟨_,rfl⟩
    obtain⟨S6,hS6⟩:∃S,S=strL O6:=⟨_,rfl⟩
    have t1:∀W,Below W7.heap.size W7 W→(convert 22 9 (.slice A4 n4 k4)).run Try.prog W=.ok (.string S4) W:=fun W hb=>by have h:=run_str ((HO4R.out.on hb).row).1 k4;rw[HN4.out,hS4];exact h
    have t2:∀W,Below W7.heap.size W7 W→(convert 22 9 (.slice At6 n5 ct6)).run Try.prog W=.ok (.string S5) W:=fun W hb=>by have h:=run_str ((HQ5.out.on hb).row).1 ct6;rw[HN5.out,hS5];exact h
    have t3:∀W,Below W7.heap.size W7 W→(convert 22 9 (.slice At7 n6 ct7)).run Try.prog W=.ok (.string S6) W:=fun W hb=>by have h:=run_str ((HQ6.out.on hb).row).1 ct7;rw[HN6.out,hS6];exact h
    have hlO5:O5.length≤131072:=by have h:=HGN5.out.made;have h2:=HGN5.out.most;have h3:=HMD5.out;omega
    have hlO6:O6.length≤131072:=by have h:=gN6.made;have h2:=gN6.most;have h3:=(next_told HGN5.out (by rw[←HE6.out]:(feedM N5 lb).err=0)).2.1;rw[←HNN6.out]at h3;have h4:O6.length=(feedM N5 lb).out.length:=(by rw[HO6.out];unfold ansO;rw[if_pos rfl]);omega
    have hadd:∀W:World,(Op.stringOp .add S5 S6).run Try.prog W=.ok (.string S4) W:=fun W=>by rw[run_string_add_sum W S5 S6 (by rw[hS5,hS6,strL_size,strL_size];omega),hS5,hS6,hS4,hOO,strL_app]
    have T1:=Lib.hid t1;have T2:=Lib.hid t2;have T3:=Lib.hid t3;have TA:=Lib.hid hadd
    have z1:(S4.toList==S4.toList)=true:=by simp
    have hk4:K4≤300:=by have h:=used_le14 HGN5.out (b:=lb) (by rw[←HE6.out]);have h2:=HSM3.out;have h3:K6=usedM N5 lb (feedM N5 lb):=(by rw[HK6.out];unfold ansU;rw[if_pos rfl]);rw[←HBN.out,←h3]at h;omega
    have z2:((K4:Int)==(K5:Int)+(K6:Int))=true:=by rw[hKK];push_cast;simp
    have z3:((0:Int) !=0)=false:=rfl
    have hk6:K6≤300:=by omega
    clear t1 t2 t3 hadd hsm hck so4 so6 hX4 hX6 hNN gN6 hS4 hS5 hS6 hOO p1 p2 p3 h4
    go_upto_region 13 with fail
    go_wp2_with (first
     |(refine wpList_load_row_on (by rfl) _ (.tmp 8) rfl b4 rfl _ X4 (0,0) _ HVb4.out Try.underlying32 rfl (szSwl _ HX4S.out) ?_)
     |(refine wpList_load_row_on (by rfl) _ (.tmp 16) rfl b7 rfl _ X6 (0,0) _ HVb7.out Try.underlying32 rfl (szSwl _ HX6S.out) ?_)
     |fail)
    refine HSM.out.mono ?_
    rintro e w8 ⟨rfl,hb⟩
    have t1:=T1.out w8 hb;have t2:=T2.out w8 hb;have t3:=T3.out w8 hb;have ta:=TA.out w8;have ck:=HCK.out w8 hb
    have HB:=Lib.hid (HB.out.trans (hb.mono HB.out.size))
    have HCKK:=Lib.hid ck
    have HVb4:=Lib.hid (HVb4.out.below hb HVb4.out.lt)
    clear hb ck
    go_wp2_with (first
     |(refine wpList_load_row_on (by rfl) _ (.tmp 8) rfl b4 rfl _ X4 (0,0) _ HVb4.out Try.underlying32 rfl (szSwl _ HX4S.out) ?_)
     |fail)
    refine HCKK.out.mono ?_
    rintro e w9 ⟨rfl,hb⟩
    have HB:=Lib.hid (HB.out.trans (hb.mono HB.out.size))
    clear hb t1 t2 t3 ta
    go_wp2
    go_ret
    exact⟨rfl,HB.out⟩
theorem parts14_law_lifted(os:Os)(started:os.Started)(H:Type)(enc:TypeId×Value→H):
  ReturnsInHanded {} Try.checked os 4 .any (Rows.swellPartsSpec.pre6 enc Try.prog Try.f4 Rows.swellPartsRow.domain false) (Rows.swellPartsSpec.post enc Try.prog Try.f4 false true false false):=by
 refine returnsInHanded_of_change_sized (C:=Try.checked) own started (by kernel_rfl) Try.func4
  (ChangeSpec.witness6 (enc:=enc) (C:=Try.checked) false ⟨#[],#[.agg (swA swZ),.slice none 0 0,.slice none 0 0],[]⟩ 8 (by kernel_rfl) (by kernel_rfl) (by kernel_rfl) (by kernel_rfl)) ?_
 intro W base args ds gs before hval0 hW _ hsz0 _
 have hsz:(DataW.weightsEach Try.prog (Try.f4.params.toList++Rows.swellPartsSpec.plain.varTypes Try.prog) (ds++gs)).all (·≤reachBytes)=true:=hsz0
 clear hsz0
 have hval:∀(j:Nat) t v,Try.f4.params[j]?=some t→args[j]?=some v→Value.okWide Try.prog W .any base t v:=hval0
 have hW':=hW
 obtain⟨p,q,hA0,hV,rfl,_,_⟩:=hW
 have hA:DataW.TrodAll enc Try.prog W 0 (fun _=>true) true Try.f4.params.toList args.toList ds p:=hA0
 rw[Try.params4]at hA hval hsz
 obtain⟨v0,vs0,d0,ds0,p0,q0,hargs,rfl,rfl,h0,r0⟩:=trodAll_cons hA
 obtain⟨v1,vs1,d1,ds1,p1,q1,rfl,rfl,rfl,h1,r1⟩:=trodAll_cons r0
 obtain⟨v2,vs2,d2,ds2,p2,q2,rfl,rfl,rfl,h2,r2⟩:=trodAll_cons r1
 obtain⟨rfl,rfl,rfl⟩:=trodAll_nil r2
 obtain rfl:args=#[v0,v1,v2]:=by cases args;simp_all
 obtain⟨rfl,rfl⟩:=trodVars_none hV
 have k0:=h0
 have lt0:∀x∈p0,x.block<W.heap.size:=by obtain⟨m,hm⟩:=k0;exact DataW.trod_lt m _ _ _ hm
 obtain⟨Q0,I0,J0,s0,t0,rfl,hs0,hc0,hd0⟩:=open_swl (hval 0 32 v0 rfl rfl) h0
 have k1:=h1
 have lt1:∀x∈p1,x.block<W.heap.size:=by obtain⟨m,hm⟩:=k1;exact DataW.trod_lt m _ _ _ hm
 obtain⟨A1,len1,cap1,rfl⟩:=okWide_slice Try.underlying22 (hval 1 22 v1 rfl rfl)
 obtain⟨f1,hx1⟩:=open_byr h1
 obtain⟨L1,rfl,hr1⟩:=byr_list hx1
 have k2:=h2
 have lt2:∀x∈p2,x.block<W.heap.size:=by obtain⟨m,hm⟩:=k2;exact DataW.trod_lt m _ _ _ hm
 obtain⟨A2,len2,cap2,rfl⟩:=okWide_slice Try.underlying22 (hval 2 22 v2 rfl rfl)
 obtain⟨f2,hx2⟩:=open_byr h2
 have hz2:=byl_weigh h2 (weigh hsz (j:=2) rfl rfl)
 obtain⟨L2,rfl,hr2⟩:=byr_list hx2
 clear hA0 hval0
 refine(parts14_law Q0 I0 J0 s0 t0 A1 cap1 L1 A2 cap2 L2 W hs0 hc0 hd0 hr1 hr2 hz2).mono fun e W' ⟨he,bel⟩=>?_
 subst he
 exact⟨_,rfl,_,_,_,[],_,[],hW',trodAll_mk1 (shut_bool Try.underlying4 _),(trodAll_cons_mk (Below.trod laidOut (by kernel_rfl) (of_decide_eq_true (by kernel_rfl)) k0 bel lt0) (trodAll_cons_mk (Below.trod laidOut (by kernel_rfl) (of_decide_eq_true (by kernel_rfl)) k1 bel lt1) (trodAll_cons_mk (Below.trod laidOut (by kernel_rfl) (of_decide_eq_true (by kernel_rfl)) k2 bel lt2) trodAll_mk0))),rfl,bel.frame _,fun h=>by cases h⟩
theorem parts14_law_holds:Rows.SwellPartsSaid:=
 OpenClaim.holds_of_wide 4 Try.f4 rfl rfl rfl rfl rfl rfl rfl ⟨rfl,rfl,rfl,rfl,rfl⟩ rfl rfl rfl rfl rfl (by kernel_rfl) Try.func4 (by kernel_rfl)
  (of_decide_eq_true (by kernel_rfl)) (by unfold Func.isWrapper;first|(rw[if_pos (by decide+kernel)];kernel_rfl)|(rw[if_neg (by decide+kernel)];exact⟨rfl,rfl⟩))
  (fun os started H enc _=>parts14_law_lifted os started H enc)
#print axioms parts14_law_holds
end Go.Proofs.Ytcmpmighjglnpaa
