/-
  Words and walks.
-/
import Derived.Deep.WholeRow
import Derived.Test.YtcmpmighjglnpaaGreattaab
import Derived.Test.YtcmpmighjglnpaaGreattaal
import Derived.Test.YtcmpmighjglnpaaGreattaar
import Derived.Test.YtcmpmighjglnpaaGreattaau
set_option maxRecDepth 100000
set_option maxHeartbeats 16000000
namespace Go.Proofs.YtcmpmighjglnpaaGreat
open Go.RowKit
theorem winO_0{pw out:List Nat}(h:pw.length≤32768):winO pw out 0=pw:=by
 unfold winO winI lastN
 rw[Nat.sub_zero,List.drop_length,List.append_nil,show pw.length-32768=0 by omega,List.drop_zero]
theorem ByR.rowNew{w:World}{B b n c:Nat}{A:Option Addr}{f:Nat→Nat}{Y:Array Value}(h:ByR w B A n c f)(hz:BoxC w b #[.int .i64 0,.slice none 0 0] 30):ByR (w.setRow b Y) B A n c f:=by
 refine⟨⟨h.1.1,fun h0=>?_⟩,h.2⟩
 obtain⟨b',o,e,hb,hc⟩:=h.1.2 h0
 refine⟨b',o,e,hb,fun j hj=>?_⟩
 have hne:b'≠b:=fun e'=>by
  have h1:=hc 0 h0
  rw[e',hz.cell]at h1
  rcases o with _|_|o
  ·simp at h1
  ·simp at h1
  ·simp at h1
 have h2:=setRow_other w b b' Y hne
 have h1:=hc j hj
 simp only[World.cell?,h2]at h1⊢
 exact h1
structure CpyD (w:World) (h0 p:Nat) (u:UnV) (k:Option Blk13) (g:Nat→Nat) (L:Nat) (PW out:List Nat) (d:Int) (n:Nat) (e:Ending) (w':World):Prop where
 far:(PW.length:Int)<d→e=.returned (.int .i64 60)
 lim:¬(PW.length:Int)<d→u.M<u.D+n→e=.returned (.int .i64 140)
 ok:¬(PW.length:Int)<d→¬u.M<u.D+n→e=.returned (.int .i64 0)∧∃u',UnR w' h0 p u' k g L (winI PW (copL PW d.toNat n)) (out++copL PW d.toNat n)∧u'.M=u.M∧u'.D=u.D+n∧u'.I=u.I∧u'.a=u.a∧u'.ov=u.ov∧u'.bit=u.bit∧u'.wait=0
 bel:Below h0 w w'
theorem ucopied_any(w:World)(h0 p:Nat)(u:UnV)(k:Option Blk13)(g:Nat→Nat)(L:Nat)(pw out:List Nat)(h:UnR w h0 p u k g L pw out)(ho:out.length≤131072)(x:Nat)(d:Int)(nn:Nat)(_hx:x<256)(hd1:1≤d)(hd2:d≤32768)(hn1:3≤nn)(hn2:nn≤258)(hM:u.M≤131072)(hD:0≤u.D)(hDM:u.D≤u.M):
  Calls Tryz.prog 62 #[.pointer (some ⟨p,0,none⟩),.agg #[.int .u8 (x:Int),.int .i64 d,.int .i64 (nn:Int)]] w fun e w'=>CpyD w h0 p u k g L (winO pw out u.wait) out d nn e w':=by
 obtain⟨tb,htb⟩:∃tb,tb=w.heap.size:=⟨_,rfl⟩
 obtain⟨W1,hW1⟩:∃W,W=w.alloc (.cells #[.int .u8 (x:Int),.int .i64 d,.int .i64 (nn:Int)] 82):=⟨_,rfl⟩
 have hbw:Below w.heap.size w W1:=by rw[hW1];exact(Below.refl _ _).alloc (Nat.le_refl _) _
 have h1:UnR W1 h0 p u k g L pw out:=h.on hbw
 have t1:BoxC W1 tb #[.int .u8 (x:Int),.int .i64 d,.int .i64 (nn:Int)] 82:=by rw[hW1,htb];exact BoxC.new w _ _
 have cw:=h1.box.cwait
 have hb0:Below h0 w W1:=hbw.mono h.bel
 obtain⟨PW,hPW⟩:∃P,P=winO pw out u.wait:=⟨_,rfl⟩
 rw[←hPW]
 obtain⟨DIST,hDI⟩:∃D:Prop,D=((PW.length:Int)<d):=⟨_,rfl⟩
 have EDD:Hid (DIST↔(PW.length:Int)<d):=Lib.hid (by rw[hDI])
 obtain⟨E,hE⟩:∃E:Int,E=if(PW.length:Int)<d then 60 else 0:=⟨_,rfl⟩
 have EE:=Lib.hid hE
 obtain⟨rm,hrm⟩:∃rm:Nat,(rm:Int)=u.M-u.D:=⟨(u.M-u.D).toNat,by omega⟩
 obtain⟨nm,hnm⟩:∃nm:Nat,nm=min nn rm:=⟨_,rfl⟩
 have ENM:Hid (min (nn:Int) (rm:Int)=(nm:Int)):=Lib.hid (by omega)
 obtain⟨CP,hCP⟩:∃c,c=copL PW d.toNat nm:=⟨_,rfl⟩
 obtain⟨WN,hWN⟩:∃c,c=winI PW CP:=⟨_,rfl⟩
 have HZ:Hid (∀u:World,(zeroValue 30).run Tryz.prog u=.ok (.agg #[.int .i64 0,.slice none 0 0]) u):=Lib.hid (zero_of_info infoWin14).1
 have key:∀(w2 V:World) (u2:UnV),V=w2.drew→UnR w2 h0 p u2 k g L PW out→BoxC w2 tb #[.int .u8 (x:Int),.int .i64 d,.int .i64 (nn:Int)] 82→u2.M=u.M→u2.D=u.D→∃Aw cw n,UnR V h0 p u2 k g L PW out∧BoxC V tb #[.int .u8 (x:Int),.int .i64 d,.int .i64 (nn:Int)] 82∧n=PW.length∧
   w2.cell? ⟨p,0,none⟩=some (.int .i64 u.M)∧w2.cell? ⟨p,1,none⟩=some (.int .i64 u.D)∧
   (∀X,Below V.heap.size V X→X.rangeAt p 42 [.int .i64 32768,.slice Aw n cw])∧(∀X,Below V.heap.size V X→X.cell? ⟨tb,1,none⟩=some (.int .i64 d))∧(∀X,Below V.heap.size V X→X.cell? ⟨tb,2,none⟩=some (.int .i64 (nn:Int)))∧
   (∀X,Below V.heap.size V X→Calls Tryz.prog 84 #[.agg #[.int .i64 32768,.slice Aw n cw],.int .i64 d,.int .i64 (nm:Int)] X fun e w'=>∃S' A' l' c' B' k' b',e=.returned (.tuple #[.agg #[.int .i64 S',.slice A' l' c'],.slice B' k' b',.int .i64 E])∧(DIST∨(S'=32768∧l'=WN.length∧ByR w' w'.heap.size A' l' c' (lst WN)∧NewBs V.heap.size A'))∧(DIST∨(k'=nm∧ByR w' w'.heap.size B' k' b' (lst CP)∧NewBs V.heap.size B'))∧Below X.heap.size X w'):=by
  intro w2 V u2 hV hu ht eM eD
  have hv:UnR V h0 p u2 k g L PW out:=by rw[hV];exact hu.on (Below.refl _ _).drew
  have tv:BoxC V tb #[.int .u8 (x:Int),.int .i64 d,.int .i64 (nn:Int)] 82:=by rw[hV];exact ht
  obtain⟨Aw,cw,eW,_⟩:=hv.win
  refine⟨Aw,cw,_,hv,tv,rfl,by rw[←eM];exact hu.box.cM,by rw[←eD];exact hu.box.cD,fun X hX=>?_,fun X hX=>(tv.below hX tv.lt).cell.trans rfl,fun X hX=>(tv.below hX tv.lt).cell.trans rfl,fun X hX=>?_⟩
  ·have r:=(hv.on hX).box.rW
   rw[hv.S,eW]at r;exact r
  ·have _hx:=hv.on hX
   have b1:ByR X X.heap.size Aw PW.length cw (lst PW):=by
    obtain⟨Aw',cw',e',hb'⟩:=_hx.win
    rw[eW]at e';injection e' with e1 _ e2;rw[e1,e2];exact hb'.r
   refine(ucopy_any X PW Aw cw b1 _hx.lpw _hx.bpw d nm hd1 hd2 (by omega)).mono ?_
   rintro e w' ⟨S',A',l',c',B',k',b',x1,x2,x3⟩
   rw[←hE]at x1
   rw[←hCP,←hWN,←hDI]at x2
   refine⟨S',A',l',c',B',k',b',x1,x2.imp id fun⟨y1,y2,y3,y4,y5,y6,y7⟩=>⟨y1,y2,y4,y6.mono hX.size⟩,x2.imp id fun⟨y1,y2,y3,y4,y5,y6,y7⟩=>⟨y3,y5,y7.mono hX.size⟩,x3⟩
 have hrm2:(rm:Int)≤131072:=by omega
 by_cases hw:0<u.wait
 ·have hset:=usettle_any W1 h0 p u k g L pw out h1 ho
  have hw':(0:Int)<(u.wait:Int):=by omega
  have HSET:=Lib.hid hset;have HT1:=Lib.hid t1;have HB0:=Lib.hid hb0;have HKEY:=Lib.hid key;have HPW:=Lib.hid hPW;have HW1:=Lib.hid hW1;have HTB:=Lib.hid htb;have HP1:=Lib.hid (h1.lt p (.inl rfl));have HTP:Hid (tb≠p):=Lib.hid (by have:=h.lt p (.inl rfl);omega)
  have HO:=Lib.hid ho;have HRM:=Lib.hid hrm;have HNM:=Lib.hid hnm;have HCP:=Lib.hid hCP;have HWN:=Lib.hid hWN
  clear hset h h1 t1 hb0 key hPW hW1 htb hbw hDI hE hnm hCP hWN ho
  go_enter Tryz.func62,Tryz.ntmps62
  go_wp2_with (first|(rw[←HW1.out,←HTB.out])|fail)
  refine HSET.out.mono ?_
  rintro e w2 ⟨rfl,⟨u2,r1,r2,r3,r4,r5,r6,r7,r8,_⟩,r9,r10⟩
  rw[←HPW.out]at r1
  obtain⟨V,hV⟩:∃V,V=w2.drew:=⟨_,rfl⟩
  obtain⟨Aw,cw,n,k1,k2,k3,q0,q1,k4,k5,k6,k7⟩:=HKEY.out w2 V u2 hV r1 (HT1.out.fr r10 HTP.out) r2 r3
  have HV:=Lib.hid hV;have HV2:=Lib.hid k1;have HTV:=Lib.hid k2;have CW:=Lib.hid k4;have CD:=Lib.hid k5;have CN:=Lib.hid k6;have CU:=Lib.hid k7
  have HB2:Hid (Below h0 w V):=Lib.hid (by rw[hV];exact(HB0.out.trans r9).drew)
  have HR2:=Lib.hid r2;have HR3:=Lib.hid r3;have HR4:=Lib.hid r4;have HR5:=Lib.hid r5;have HR6:=Lib.hid r6;have HR7:=Lib.hid r7;have HR8:=Lib.hid r8
  have erm:IntKind.i64.wrap (u.M-u.D)=(rm:Int):=by have:=HRM.out;rw[IntKind.wrap_i64];omega
  have erm2:wrap64 (u.M-u.D)=(rm:Int):=by have:=HRM.out;unfold wrap64;omega
  clear hV k1 k2 k4 k5 k6 k7 r1 r2 r3 r4 r5 r6 r7 r8 r9 r10 HKEY HSET k3
  go_wp2
  go_region
  rw[←HV.out]
  try rw[show u.M-u.D=(rm:Int)from HRM.out.symm]
  go_wp2
  refine wp_region_tabg 17 [14,15] (tabT [fun v _=>v=.pointer (some ⟨p,0,none⟩),fun v _=>v=.pointer (some ⟨p,0,none⟩),fun v _=>v=.pointer (some ⟨p,0,none⟩),fun v _=>v=.pointer (some ⟨p,42,none⟩),fun v _=>v=.agg #[.int .i64 32768,.slice Aw n cw],fun v _=>v=.pointer (some ⟨tb,1,none⟩),fun v _=>v=.int .i64 d,fun v _=>v=.pointer (some ⟨tb,2,none⟩),fun v _=>v=.int .i64 (nn:Int),fun v _=>v=.int .i64 (rm:Int),fun v _=>v=.int .i64 (nm:Int),fun v W=>∃S' A' l' c' B' k' b',v=.tuple #[.agg #[.int .i64 S',.slice A' l' c'],.slice B' k' b',.int .i64 E]∧(DIST∨(S'=32768∧l'=WN.length∧ByR W W.heap.size A' l' c' (lst WN)∧NewBs V.heap.size A'))∧(DIST∨(k'=nm∧ByR W W.heap.size B' k' b' (lst CP)∧NewBs V.heap.size B')),fun v W=>∃S' A' l' c' B' k' b',v=.tuple #[.agg #[.int .i64 S',.slice A' l' c'],.slice B' k' b',.int .i64 E]∧(DIST∨(S'=32768∧l'=WN.length∧ByR W W.heap.size A' l' c' (lst WN)∧NewBs V.heap.size A'))∧(DIST∨(k'=nm∧ByR W W.heap.size B' k' b' (lst CP)∧NewBs V.heap.size B')),fun v W=>∃S' A' l' c',v=.agg #[.int .i64 S',.slice A' l' c']∧(DIST∨(S'=32768∧l'=WN.length∧ByR W W.heap.size A' l' c' (lst WN)∧NewBs V.heap.size A')),fun v W=>∃B' k' b',v=.slice B' k' b'∧(DIST∨(k'=nm∧ByR W W.heap.size B' k' b' (lst CP)∧NewBs V.heap.size B')),fun v _=>v=.int .i64 E,fun v W=>∃gq,v=.pointer (some ⟨gq,0,none⟩)∧BoxC W gq #[.int .i64 0,.slice none 0 0] 30∧V.heap.size≤gq]) V (Below.refl _ _) (by kernel_rfl) (by kernel_rfl) (List.forall_mem_cons.2 ⟨⟨_,_,rfl,rfl,rfl,(fun _ _ _ _ h=>h),fun aa wv hb ha hS=>by have hs:=hS 12 27 (by kernel_rfl) rfl;obtain⟨S',A',l',c',B',k',b',e1,hA,hB⟩:=hs.here;exact⟨_,float_extract _ _ rfl _ _ e1 (fun w=>by go_simp),fun W hW=>⟨B',k',b',rfl,(hB.imp id fun⟨x1,x3,x4⟩=>⟨x1,(x3.below hW (Nat.le_refl _)).more hW.size,x4⟩)⟩⟩⟩,(List.forall_mem_cons.2 ⟨⟨_,_,rfl,rfl,rfl,(fun _ _ _ _ h=>h),fun aa wv hb ha hS=>by have hs:=hS 12 27 (by kernel_rfl) rfl;obtain⟨S',A',l',c',B',k',b',e1,hA,hB⟩:=hs.here;exact⟨_,float_extract _ _ rfl _ _ e1 (fun w=>by go_simp),up_eq rfl⟩⟩,(fun _ h=>by cases h)⟩)⟩) ?_ ?_
  case refine_1=>
   simp only[List.take_succ_cons,List.take_zero]
   refine TabAll.cons (fun aa wv hb ha hS Kk Qq hK=>tab_move (tab_free rfl) _ rfl (up_eq ((ha 0 (by kernel_rfl)).trans rfl)) hK) ?_
   refine TabAll.cons (fun aa wv hb ha hS Kk Qq hK=>tab_nil14 (tab_free rfl) _ rfl ⟨p,0,none⟩ (show aa.eval (.tmp 28)=.pointer (some ⟨p,0,none⟩)from(hS 0 28 (by kernel_rfl) rfl).here) (up_eq rfl) hK) ?_
   refine TabAll.cons (fun aa wv hb ha hS Kk Qq hK=>tab_field (tab_free rfl) _ _ _ rfl _ (.pointer (some ⟨p,0,none⟩)) (show aa.eval (.tmp 29)=.pointer (some ⟨p,0,none⟩)from(hS 1 29 (by kernel_rfl) rfl).here) (by go_simp) (up_eq rfl) hK) ?_
   refine TabAll.cons (fun aa wv hb ha hS Kk Qq hK=>tab_field (tab_free rfl) _ _ _ rfl _ (.pointer (some ⟨p,42,none⟩)) (show aa.eval (.tmp 30)=.pointer (some ⟨p,0,none⟩)from(hS 2 30 (by kernel_rfl) rfl).here) (by go_simp) (up_eq rfl) hK) ?_
   refine TabAll.cons (fun aa wv hb ha hS Kk Qq hK=>tab_row (tab_free rfl) _ _ rfl p 42 (show aa.eval (.tmp 31)=.pointer (some ⟨p,42,none⟩)from(hS 3 31 (by kernel_rfl) rfl).here) [.int .i64 32768,.slice Aw n cw] _ (CW.out wv hb) Tryz.underlying30 rfl ((zero_of_info infoWin14).2) (up_eq rfl) hK) ?_
   refine TabAll.cons (fun aa wv hb ha hS Kk Qq hK=>tab_field (tab_free rfl) _ _ _ rfl _ (.pointer (some ⟨tb,1,none⟩)) (show aa.eval (.tmp 3)=.pointer (some ⟨tb,0,none⟩)from((ha 3 (by kernel_rfl)).trans rfl)) (by go_simp) (up_eq rfl) hK) ?_
   refine TabAll.cons (fun aa wv hb ha hS Kk Qq hK=>tab_load (tab_free rfl) _ _ rfl _ (.int .i64 d) (show aa.eval (.tmp 33)=.pointer (some ⟨tb,1,none⟩)from(hS 5 33 (by kernel_rfl) rfl).here) (by have hc:=CD.out wv hb;go_simp) (up_eq rfl) hK) ?_
   refine TabAll.cons (fun aa wv hb ha hS Kk Qq hK=>tab_field (tab_free rfl) _ _ _ rfl _ (.pointer (some ⟨tb,2,none⟩)) (show aa.eval (.tmp 3)=.pointer (some ⟨tb,0,none⟩)from((ha 3 (by kernel_rfl)).trans rfl)) (by go_simp) (up_eq rfl) hK) ?_
   refine TabAll.cons (fun aa wv hb ha hS Kk Qq hK=>tab_load (tab_free rfl) _ _ rfl _ (.int .i64 (nn:Int)) (show aa.eval (.tmp 35)=.pointer (some ⟨tb,2,none⟩)from(hS 7 35 (by kernel_rfl) rfl).here) (by have hc:=CN.out wv hb;go_simp) (up_eq rfl) hK) ?_
   refine TabAll.cons (fun aa wv hb ha hS Kk Qq hK=>tab_move (tab_free rfl) _ rfl (up_eq ((ha 5 (by kernel_rfl)).trans rfl)) hK) ?_
   refine TabAll.cons (fun aa wv hb ha hS Kk Qq hK=>tab_min14 (tab_free rfl) _ _ _ _ rfl (nn:Int) (rm:Int) (nm:Int) (show aa.eval (.tmp 36)=.int .i64 (nn:Int)from(hS 8 36 (by kernel_rfl) rfl).here) (show aa.eval (.tmp 37)=.int .i64 (rm:Int)from(hS 9 37 (by kernel_rfl) rfl).here) ENM.out (up_eq rfl) hK) ?_
   refine TabAll.cons (fun aa wv hb ha hS Kk Qq hK=>tab_call (tab_free rfl) 84 _ _ rfl (enters_of Tryz.func84 (by kernel_rfl) rfl) #[.agg #[.int .i64 32768,.slice Aw n cw],.int .i64 d,.int .i64 (nm:Int)] (by simp[(show aa.eval (.tmp 32)=.agg #[.int .i64 32768,.slice Aw n cw]from(hS 4 32 (by kernel_rfl) rfl).here),(show aa.eval (.tmp 34)=.int .i64 d from(hS 6 34 (by kernel_rfl) rfl).here),(show aa.eval (.tmp 38)=.int .i64 (nm:Int)from(hS 10 38 (by kernel_rfl) rfl).here)]) (CU.out wv hb) (fun ee w' ⟨S',A',l',c',B',k',b',h1,h2,h3,h5⟩=>⟨_,h1,h5,fun W hW=>⟨S',A',l',c',B',k',b',rfl,(h2.imp id fun⟨x1,x2,x3,x4⟩=>⟨x1,x2,(x3.below hW (Nat.le_refl _)).more hW.size,x4⟩),(h3.imp id fun⟨x1,x3,x4⟩=>⟨x1,(x3.below hW (Nat.le_refl _)).more hW.size,x4⟩)⟩⟩) hK) ?_
   refine TabAll.cons (fun aa wv hb ha hS Kk Qq hK=>tab_move (tab_free rfl) _ rfl (hS 11 39 (by kernel_rfl) rfl) hK) ?_
   refine TabAll.cons (fun aa wv hb ha hS Kk Qq hK=>by have hs:=hS 12 27 (by kernel_rfl) rfl;obtain⟨S',A',l',c',B',k',b',e1,hA,hB⟩:=hs.here;exact tab_extract (tab_free rfl) _ _ rfl _ _ e1 (by go_simp) (fun W hW=>⟨S',A',l',c',rfl,(hA.imp id fun⟨x1,x2,x3,x4⟩=>⟨x1,x2,(x3.below hW (Nat.le_refl _)).more hW.size,x4⟩)⟩) hK) ?_
   refine TabAll.cons (fun aa wv hb ha hS Kk Qq hK=>by have hs:=hS 12 27 (by kernel_rfl) rfl;obtain⟨S',A',l',c',B',k',b',e1,hA,hB⟩:=hs.here;exact tab_extract (tab_free rfl) _ _ rfl _ _ e1 (by go_simp) (fun W hW=>⟨B',k',b',rfl,(hB.imp id fun⟨x1,x3,x4⟩=>⟨x1,(x3.below hW (Nat.le_refl _)).more hW.size,x4⟩)⟩) hK) ?_
   refine TabAll.cons (fun aa wv hb ha hS Kk Qq hK=>by have hs:=hS 12 27 (by kernel_rfl) rfl;obtain⟨S',A',l',c',B',k',b',e1,hA,hB⟩:=hs.here;exact tab_extract (tab_free rfl) _ _ rfl _ _ e1 (by go_simp) (up_eq rfl) hK) ?_
   refine TabAll.cons (fun aa wv hb ha hS Kk Qq hK=>by have hzz:=HZ.out;exact tab_make (w':=wv.alloc (.cells #[.int .i64 0,.slice none 0 0] 30)) (tab_free rfl) (.pointer (some ⟨wv.heap.size,0,none⟩)) (by go_simp) ((Below.refl _ _).alloc (Nat.le_refl _) _) (fun W hW=>⟨_,rfl,(BoxC.new wv #[.int .i64 0,.slice none 0 0] 30).below hW (by simp),hb.size⟩) hK) ?_
   exact TabAll.nil
  intro vals w5 hb hv
  obtain⟨S',A',l',c',e40,hA⟩:=(hv 13 40 rfl).here
  obtain⟨B',k',b',e41,hB⟩:=(hv 14 41 rfl).here
  obtain⟨gq,e6,hz5,hgq⟩:=(hv 16 6 rfl).here
  have e42:vals 42=.int .i64 E:=(hv 15 42 rfl).here
  have hU5:=HV2.out.on hb
  have ht5:=HTV.out.below hb HTV.out.lt
  obtain⟨Y,hY⟩:∃Y:Array Value,Y=#[.int .i64 S',.slice A' l' c']:=⟨_,rfl⟩
  obtain⟨w6,hw6⟩:∃W,W=w5.setRow gq Y:=⟨_,rfl⟩
  have f56:Fr (At gq) w5 w6:=by rw[hw6];exact Fr.row _ _ _
  have q6:BoxC w6 gq #[.int .i64 S',.slice A' l' c'] 30:=by rw[hw6,←hY];exact hz5.row Y
  have hb6:Below V.heap.size V w6:=hb.trans (f56.below (fun j hj=>by have hj':j=gq:=hj;rw[hj'];exact hgq) hb.size)
  have t6:BoxC w6 tb #[.int .u8 (x:Int),.int .i64 d,.int .i64 (nn:Int)] 82:=HTV.out.below hb6 HTV.out.lt
  have hU6:UnR w6 h0 p u2 k g L PW out:=HV2.out.on hb6
  have HB6:=Lib.hid hb6
  have HBV:Hid (Below h0 w w6):=Lib.hid ((HB2.out.trans (hb.mono HV2.out.bel)).trans (f56.below (fun j hj=>by have e':j=gq:=hj;rw[e'];exact Nat.le_trans HV2.out.bel hgq) hU5.bel))
  have HYB:Hid (Y=#[.int .i64 S',.slice A' l' c']):=Lib.hid hY
  have HZ5:=Lib.hid hz5
  have HW6:=Lib.hid hw6
  have HU6:=Lib.hid hU6
  have HQ6:=Lib.hid q6
  have HT6:=Lib.hid t6
  have n2:=t6.cell (i:=2)
  have n2':w6.cell? ⟨tb,2,none⟩=some (.int .i64 (nn:Int)):=n2.trans rfl
  have q60:w6.cell? ⟨gq,0,none⟩=some (.int .i64 S'):=q6.cell.trans rfl
  have q61:w6.cell? ⟨gq,1,none⟩=some (.slice A' l' c'):=q6.cell.trans rfl
  have HA5:Hid (DIST∨(S'=32768∧l'=WN.length∧ByR w6 w6.heap.size A' l' c' (lst WN)∧NewBs V.heap.size A')):=Lib.hid (hA.imp id fun⟨x1,x2,x3,x4⟩=>⟨x1,x2,by rw[hw6,size_setRow];exact x3.rowNew hz5,x4⟩)
  have HB5:Hid (DIST∨(k'=nm∧ByR w6 w6.heap.size B' k' b' (lst CP)∧NewBs V.heap.size B')):=Lib.hid (hB.imp id fun⟨x1,x3,x4⟩=>⟨x1,by rw[hw6,size_setRow];exact x3.rowNew hz5,x4⟩)
  have HGQ:=Lib.hid hgq
  rw[←hY]at e40
  clear n2 hY hw6 f56 q6 t6 hU6 hA hB hz5 hgq hb hv hU5 ht5 hb6
  simp only[List.take_succ_cons,List.take_zero,List.drop_succ_cons,List.drop_zero,List.map_cons,List.map_nil,putL,Act.put,List.setIfInBounds_toArray,List.set_cons_zero,List.set_cons_succ,e40,e41,e42,e6]
  clear e40 e41 e42 e6
  by_cases hE:DIST
  ·have eE:E=60:=EE.out.trans (if_pos (EDD.out.1 hE))
   subst eE
   go_wp2_with (first
    |(refine wpList_store_rowTo rfl _ _ _ rfl rfl gq Y rfl rfl 30 #[.int .i64 0,.slice none 0 0] HZ5.out (by rw[HYB.out];exact(zero_of_info infoWin14).2) (by rw[HYB.out];rfl) (by rw[HYB.out];simp[Value.oneCell']) ?_;rw[←HW6.out])
    |fail)
   go_ret
   exact⟨fun _=>rfl,fun h=>absurd (EDD.out.1 hE) h,fun h=>absurd (EDD.out.1 hE) h,HBV.out⟩
  ·have eE:E=0:=EE.out.trans (if_neg fun h=>hE (EDD.out.2 h))
   subst eE
   obtain⟨a1,a2,a3,a4⟩:=HA5.out.resolve_left hE
   obtain⟨b1,b2,b3⟩:=HB5.out.resolve_left hE
   have hfar:=fun h=>hE (EDD.out.2 h)
   subst a1
   by_cases hrn:rm<nn
   ·have hrn':(rm:Int)<(nn:Int):=by omega
    have HRN:Hid (u.M<u.D+nn):=Lib.hid (by have:=HRM.out;omega)
    have HFAR:=Lib.hid hfar
    clear a2 a3 a4 b1 b2 b3 hfar hE
    go_wp2_with (first
     |(refine wpList_store_rowTo rfl _ _ _ rfl rfl gq Y rfl rfl 30 #[.int .i64 0,.slice none 0 0] HZ5.out (by rw[HYB.out];exact(zero_of_info infoWin14).2) (by rw[HYB.out];rfl) (by rw[HYB.out];simp[Value.oneCell']) ?_;rw[←HW6.out])
     |fail)
    go_ret
    exact⟨fun h=>absurd h HFAR.out,fun _ _=>rfl,fun _ h=>absurd HRN.out h,HBV.out⟩
   ·have hrn':¬(rm:Int)<(nn:Int):=by omega
    have enm:nm=nn:=by have:=HNM.out;omega
    obtain⟨Ao,ct,et,_⟩:=HU6.out.told
    have hU:=HU6.out.on (w':=w6.drew) (Below.refl _ _).drew
    have ow:=hU.own
    rw[et]at ow
    have hlen:(out++CP).length=out.length+k':=by rw[List.length_append,HCP.out,copL_len,b1]
    have hbc:BytesP CP:=by rw[HCP.out];exact copL_bytes HU6.out.bpw
    have hl6:=HO.out
    obtain⟨A9,c9,w7,y1,y2,y3,y4,y5⟩:=run_catB_s w6.drew h0 Ao out.length ct (lst out) ow B' k' b' (lst CP) (lst (out++CP)) (b2:ByR w6.drew w6.drew.heap.size B' k' b' (lst CP)) (fun j hj=>by rw[lst_app];unfold cat;rw[if_pos hj]) (fun j hj=>by rw[lst_app];unfold cat;rw[if_neg (by omega)];congr 1;omega) (by omega) hU.bel
    have y2':=y2
    have y5':=y5
    rw[←hlen]at y2' y5'
    have hstep:=hU.more et y2' y3 y4 y5' (fun z hz=>(List.mem_append.1 hz).elim (hU.bout z) (hbc z)) (by omega) (by rw[hlen];have:=hU.wait;omega)
    have bx7:=hstep.2
    have hpo:=hU.lo
    have lt7:=y3.size
    have F47:Fr (TS p u2.t) w6.drew w7:=⟨y3.os,y3.tape,y3.output,y3.size,fun j hj hS=>y4 j hj fun e=>hS (.inr (by rw[et];exact e))⟩
    obtain⟨w9,hw9⟩:∃W,W=((w7.setCell ⟨p,42,none⟩ (.int .i64 32768)).setCell ⟨p,43,none⟩ (.slice A' l' c')).setCell ⟨p,47,none⟩ (.slice A9 (out.length+k') c9):=⟨_,rfl⟩
    have bx9:UnB w9 p {u2 with S:=32768,W:=.slice A' l' c',t:=.slice A9 (out.length+k') c9}:=by
     rw[hw9];exact((bx7.sW 32768 (.slice A' l' c')).st _)
    have F79:Fr (At p) w7 w9:=by rw[hw9];exact((Fr.cell w7 p 42 _).trans (Fr.cell _ p 43 _)).trans (Fr.cell _ p 47 _)
    have F49:Fr (TS p u2.t) w6.drew w9:=F47.trans (F79.mono fun j hj=>.inl hj)
    have hnewT:∀j,(Value.slice A9 (out.length+k') c9).ownBlock=some j→u2.t.ownBlock=some j∨w6.drew.heap.size≤j:=fun j hj=>by rw[et];exact y5 j hj
    have ow9:=own_blk y2 (w':=w9) fun j hj=>F79.block j (own_blk_lt y2 j hj).2 fun e=>by
     have e':j=p:=e
     rw[e']at hj
     exact own_type y2 bx7 (by kernel_rfl) hj
    have hWN2:WN=winI PW CP:=HWN.out
    have hwb:BytesP WN:=by rw[hWN2];exact win_bytes hU.bpw hbc
    have hwl:WN.length≤32768:=by rw[hWN2];unfold winI;exact lastN_le _ _
    have hwin:∃Aw' cw',(Value.slice A' l' c')=.slice Aw' WN.length cw'∧ByF (TS p (.slice A9 (out.length+k') c9)) w9 Aw' WN.length cw' (lst WN):=by
     rw[a2]at a3
     refine⟨A',c',by rw[a2],?_⟩
     have q:ByF (TS p u2.t) w6.drew A' WN.length c' (lst WN):=ByF.new a3 a4 (fun j hj=>HV2.out.lt j hj)
     exact q.go F49 fun j hj=>by
      rcases hj with hj|hj
      ·exact .inl (.inl hj)
      ·rcases hnewT j hj with h9|h9
       ·exact .inl (.inr h9)
       ·exact .inr h9
    have h9:UnR w9 h0 p {u2 with S:=32768,W:=.slice A' l' c',t:=.slice A9 (out.length+k') c9} k g L WN (out++CP):=
     hU.any F49 bx9 ⟨A9,c9,by rw[hlen]⟩ (by rw[hlen];exact ow9) hnewT rfl hwin rfl (hU.blk.fr hU.box hU.own F49:BlkT w9 h0 u2 k) (fun z hz=>(List.mem_append.1 hz).elim (hU.bout z) (hbc z)) hwb (by omega) hwl hU.bit (by rw[hlen];have:=hU.wait;show u2.wait≤_;omega)
    have t9:BoxC w9 tb #[.int .u8 (x:Int),.int .i64 d,.int .i64 (nn:Int)] 82:=BoxC.fr (w:=w6.drew) HT6.out F49 fun hj=>by
     rcases hj with hj|hj
     ·exact HTP.out hj
     ·exact own_type (w:=w6.drew) hU.own HT6.out (by kernel_rfl) hj
    have z7:BoxC w7 gq #[.int .i64 32768,.slice A' l' c'] 30:=BoxC.fr (w:=w6.drew) HQ6.out F47 fun hj=>by
     rcases hj with hj|hj
     ·have:=HGQ.out;have:=HV2.out.lt p (.inl rfl);omega
     ·exact own_type (w:=w6.drew) hU.own HQ6.out (by kernel_rfl) hj
    have z70:w7.cell? ⟨gq,0,none⟩=some (.int .i64 32768):=z7.cell.trans rfl
    have z71:w7.cell? ⟨gq,1,none⟩=some (.slice A' l' c'):=z7.cell.trans rfl
    have h10:=h9.setD (u.D+nn)
    have hB9:Below h0 w w9:=(HBV.out.drew.trans y3).trans (F79.below (fun j hj=>by have hj':j=p:=hj;rw[hj'];exact hpo) (Nat.le_trans hU.bel y3.size))
    have hB10:Below h0 w (w9.setCell ⟨p,1,none⟩ (.int .i64 (u.D+nn))):=hB9.setCell hpo _
    have eWN:WN=winI PW (copL PW d.toNat nn):=by rw[hWN2,HCP.out,enm]
    have eCP:CP=copL PW d.toNat nn:=by rw[HCP.out,enm]
    have HFIN:Hid (UnR (w9.setCell ⟨p,1,none⟩ (.int .i64 (u.D+nn))) h0 p {u2 with S:=32768,W:=.slice A' l' c',t:=.slice A9 (out.length+k') c9,D:=u.D+nn} k g L (winI PW (copL PW d.toNat nn)) (out++copL PW d.toNat nn)):=Lib.hid (by rw[←eWN,←eCP];exact h10)
    have HRUN:=Lib.hid y1;have HW9:=Lib.hid hw9;have HB10:=Lib.hid hB10;have HFAR:=Lib.hid hfar
    have HLIM:Hid (¬u.M<u.D+nn):=Lib.hid (by have:=HRM.out;omega)
    have c42:=bx7.cS;have c43:=bx7.cW;have c47:=bx7.ct;have g42:=bx7.free 42;have g43:=bx7.free 43;have g47:=bx7.free 47
    have d47:w6.cell? ⟨p,47,none⟩=some (.slice Ao out.length ct):=by rw[←et];exact HU6.out.box.ct
    have d1:=h9.box.cD
    have d1':w9.cell? ⟨p,1,none⟩=some (.int .i64 u.D):=by rw[←HR3.out];exact d1
    have d2:w9.cell? ⟨tb,2,none⟩=some (.int .i64 (nn:Int)):=t9.cell.trans rfl
    have g1:=bx9.free 1
    have hsum:u.D+(nn:Int)≤131072:=by have:=HLIM.out;omega
    clear z7 hU ow y1 y2 y3 y4 y5 y2' y5' hstep bx7 F47 hw9 bx9 F79 F49 hnewT ow9 hWN2 hwb hwl hwin h9 t9 h10 hB9 hB10 eWN eCP d1 a2 a3 a4 b1 b2 b3 hfar hE hlen hbc hl6 lt7 enm et hpo
    go_wp2_with (first
     |(refine wpList_store_rowTo rfl _ _ _ rfl rfl gq Y rfl rfl 30 #[.int .i64 0,.slice none 0 0] HZ5.out (by rw[HYB.out];exact(zero_of_info infoWin14).2) (by rw[HYB.out];rfl) (by rw[HYB.out];simp[Value.oneCell']) ?_;rw[←HW6.out])
     |fail)
    go_region_law ((refine step_app rfl (.tmp 56) (.tmp 57) 22 22 rfl (.slice Ao out.length ct) (.slice B' k' b') rfl rfl (.slice A9 (out.length+k') c9) w7 HRUN.out ?_))
    all_goals(
     rw[←HW9.out]
     go_wp2
     go_region
     go_wp2
     go_ret
     exact⟨fun h=>absurd h HFAR.out,fun _ h=>absurd h (by have:=HLIM.out;omega),fun _ _=>⟨rfl,_,HFIN.out.on (Below.refl _ _).drew,HR2.out,rfl,HR4.out,HR5.out,HR6.out,HR7.out,HR8.out⟩,HB10.out.drew⟩)
 ·have ew:u.wait=0:=by omega
  have hw':¬(0:Int)<(u.wait:Int):=by omega
  have ePW:PW=pw:=by rw[hPW,ew];exact winO_0 h.lpw
  have hb2:Below h0 w W1:=hb0
  obtain⟨V,hV⟩:∃V,V=W1.drew:=⟨_,rfl⟩
  obtain⟨u2,hu2⟩:∃x,x=u:=⟨_,rfl⟩
  obtain⟨Aw,cw,n,k1,k2,k3,q0,q1,k4,k5,k6,k7⟩:=key W1 V u2 hV (by rw[ePW,hu2];exact h1) t1 (by rw[hu2]) (by rw[hu2])
  have HB2:Hid (Below h0 w V):=Lib.hid (by rw[hV];exact hb0.drew)
  have HPW:=Lib.hid hPW;have HW1:=Lib.hid hW1;have HTB:=Lib.hid htb;have HTP:Hid (tb≠p):=Lib.hid (by have:=h.lt p (.inl rfl);omega)
  have HO:=Lib.hid ho;have HRM:=Lib.hid hrm;have HNM:=Lib.hid hnm;have HCP:=Lib.hid hCP;have HWN:=Lib.hid hWN
  have HV:=Lib.hid hV;have HV2:=Lib.hid k1;have HTV:=Lib.hid k2;have CW:=Lib.hid k4;have CD:=Lib.hid k5;have CN:=Lib.hid k6;have CU:=Lib.hid k7
  have HR2:Hid (u2.M=u.M):=Lib.hid (by rw[hu2]);have HR3:Hid (u2.D=u.D):=Lib.hid (by rw[hu2]);have HR4:Hid (u2.I=u.I):=Lib.hid (by rw[hu2]);have HR5:Hid (u2.a=u.a):=Lib.hid (by rw[hu2]);have HR6:Hid (u2.ov=u.ov):=Lib.hid (by rw[hu2]);have HR7:Hid (u2.bit=u.bit):=Lib.hid (by rw[hu2]);have HR8:Hid (u2.wait=0):=Lib.hid (by rw[hu2];exact ew)
  have erm:IntKind.i64.wrap (u.M-u.D)=(rm:Int):=by have:=HRM.out;rw[IntKind.wrap_i64];omega
  have erm2:wrap64 (u.M-u.D)=(rm:Int):=by have:=HRM.out;unfold wrap64;omega
  clear h h1 t1 hb0 key hPW hW1 htb hbw hDI hE hnm hCP hWN ho hV k1 k2 k3 k4 k5 k6 k7 ePW hb2 ew hu2 hrm
  go_enter Tryz.func62,Tryz.ntmps62
  go_wp2_with (first|(rw[←HW1.out,←HTB.out])|fail)
  go_region
  rw[←HV.out]
  try rw[show u.M-u.D=(rm:Int)from HRM.out.symm]
  go_wp2
  refine wp_region_tabg 17 [14,15] (tabT [fun v _=>v=.pointer (some ⟨p,0,none⟩),fun v _=>v=.pointer (some ⟨p,0,none⟩),fun v _=>v=.pointer (some ⟨p,0,none⟩),fun v _=>v=.pointer (some ⟨p,42,none⟩),fun v _=>v=.agg #[.int .i64 32768,.slice Aw n cw],fun v _=>v=.pointer (some ⟨tb,1,none⟩),fun v _=>v=.int .i64 d,fun v _=>v=.pointer (some ⟨tb,2,none⟩),fun v _=>v=.int .i64 (nn:Int),fun v _=>v=.int .i64 (rm:Int),fun v _=>v=.int .i64 (nm:Int),fun v W=>∃S' A' l' c' B' k' b',v=.tuple #[.agg #[.int .i64 S',.slice A' l' c'],.slice B' k' b',.int .i64 E]∧(DIST∨(S'=32768∧l'=WN.length∧ByR W W.heap.size A' l' c' (lst WN)∧NewBs V.heap.size A'))∧(DIST∨(k'=nm∧ByR W W.heap.size B' k' b' (lst CP)∧NewBs V.heap.size B')),fun v W=>∃S' A' l' c' B' k' b',v=.tuple #[.agg #[.int .i64 S',.slice A' l' c'],.slice B' k' b',.int .i64 E]∧(DIST∨(S'=32768∧l'=WN.length∧ByR W W.heap.size A' l' c' (lst WN)∧NewBs V.heap.size A'))∧(DIST∨(k'=nm∧ByR W W.heap.size B' k' b' (lst CP)∧NewBs V.heap.size B')),fun v W=>∃S' A' l' c',v=.agg #[.int .i64 S',.slice A' l' c']∧(DIST∨(S'=32768∧l'=WN.length∧ByR W W.heap.size A' l' c' (lst WN)∧NewBs V.heap.size A')),fun v W=>∃B' k' b',v=.slice B' k' b'∧(DIST∨(k'=nm∧ByR W W.heap.size B' k' b' (lst CP)∧NewBs V.heap.size B')),fun v _=>v=.int .i64 E,fun v W=>∃gq,v=.pointer (some ⟨gq,0,none⟩)∧BoxC W gq #[.int .i64 0,.slice none 0 0] 30∧V.heap.size≤gq]) V (Below.refl _ _) (by kernel_rfl) (by kernel_rfl) (List.forall_mem_cons.2 ⟨⟨_,_,rfl,rfl,rfl,(fun _ _ _ _ h=>h),fun aa wv hb ha hS=>by have hs:=hS 12 27 (by kernel_rfl) rfl;obtain⟨S',A',l',c',B',k',b',e1,hA,hB⟩:=hs.here;exact⟨_,float_extract _ _ rfl _ _ e1 (fun w=>by go_simp),fun W hW=>⟨B',k',b',rfl,(hB.imp id fun⟨x1,x3,x4⟩=>⟨x1,(x3.below hW (Nat.le_refl _)).more hW.size,x4⟩)⟩⟩⟩,(List.forall_mem_cons.2 ⟨⟨_,_,rfl,rfl,rfl,(fun _ _ _ _ h=>h),fun aa wv hb ha hS=>by have hs:=hS 12 27 (by kernel_rfl) rfl;obtain⟨S',A',l',c',B',k',b',e1,hA,hB⟩:=hs.here;exact⟨_,float_extract _ _ rfl _ _ e1 (fun w=>by go_simp),up_eq rfl⟩⟩,(fun _ h=>by cases h)⟩)⟩) ?_ ?_
  case refine_1=>
   simp only[List.take_succ_cons,List.take_zero]
   refine TabAll.cons (fun aa wv hb ha hS Kk Qq hK=>tab_move (tab_free rfl) _ rfl (up_eq ((ha 0 (by kernel_rfl)).trans rfl)) hK) ?_
   refine TabAll.cons (fun aa wv hb ha hS Kk Qq hK=>tab_nil14 (tab_free rfl) _ rfl ⟨p,0,none⟩ (show aa.eval (.tmp 28)=.pointer (some ⟨p,0,none⟩)from(hS 0 28 (by kernel_rfl) rfl).here) (up_eq rfl) hK) ?_
   refine TabAll.cons (fun aa wv hb ha hS Kk Qq hK=>tab_field (tab_free rfl) _ _ _ rfl _ (.pointer (some ⟨p,0,none⟩)) (show aa.eval (.tmp 29)=.pointer (some ⟨p,0,none⟩)from(hS 1 29 (by kernel_rfl) rfl).here) (by go_simp) (up_eq rfl) hK) ?_
   refine TabAll.cons (fun aa wv hb ha hS Kk Qq hK=>tab_field (tab_free rfl) _ _ _ rfl _ (.pointer (some ⟨p,42,none⟩)) (show aa.eval (.tmp 30)=.pointer (some ⟨p,0,none⟩)from(hS 2 30 (by kernel_rfl) rfl).here) (by go_simp) (up_eq rfl) hK) ?_
   refine TabAll.cons (fun aa wv hb ha hS Kk Qq hK=>tab_row (tab_free rfl) _ _ rfl p 42 (show aa.eval (.tmp 31)=.pointer (some ⟨p,42,none⟩)from(hS 3 31 (by kernel_rfl) rfl).here) [.int .i64 32768,.slice Aw n cw] _ (CW.out wv hb) Tryz.underlying30 rfl ((zero_of_info infoWin14).2) (up_eq rfl) hK) ?_
   refine TabAll.cons (fun aa wv hb ha hS Kk Qq hK=>tab_field (tab_free rfl) _ _ _ rfl _ (.pointer (some ⟨tb,1,none⟩)) (show aa.eval (.tmp 3)=.pointer (some ⟨tb,0,none⟩)from((ha 3 (by kernel_rfl)).trans rfl)) (by go_simp) (up_eq rfl) hK) ?_
   refine TabAll.cons (fun aa wv hb ha hS Kk Qq hK=>tab_load (tab_free rfl) _ _ rfl _ (.int .i64 d) (show aa.eval (.tmp 33)=.pointer (some ⟨tb,1,none⟩)from(hS 5 33 (by kernel_rfl) rfl).here) (by have hc:=CD.out wv hb;go_simp) (up_eq rfl) hK) ?_
   refine TabAll.cons (fun aa wv hb ha hS Kk Qq hK=>tab_field (tab_free rfl) _ _ _ rfl _ (.pointer (some ⟨tb,2,none⟩)) (show aa.eval (.tmp 3)=.pointer (some ⟨tb,0,none⟩)from((ha 3 (by kernel_rfl)).trans rfl)) (by go_simp) (up_eq rfl) hK) ?_
   refine TabAll.cons (fun aa wv hb ha hS Kk Qq hK=>tab_load (tab_free rfl) _ _ rfl _ (.int .i64 (nn:Int)) (show aa.eval (.tmp 35)=.pointer (some ⟨tb,2,none⟩)from(hS 7 35 (by kernel_rfl) rfl).here) (by have hc:=CN.out wv hb;go_simp) (up_eq rfl) hK) ?_
   refine TabAll.cons (fun aa wv hb ha hS Kk Qq hK=>tab_move (tab_free rfl) _ rfl (up_eq ((ha 5 (by kernel_rfl)).trans rfl)) hK) ?_
   refine TabAll.cons (fun aa wv hb ha hS Kk Qq hK=>tab_min14 (tab_free rfl) _ _ _ _ rfl (nn:Int) (rm:Int) (nm:Int) (show aa.eval (.tmp 36)=.int .i64 (nn:Int)from(hS 8 36 (by kernel_rfl) rfl).here) (show aa.eval (.tmp 37)=.int .i64 (rm:Int)from(hS 9 37 (by kernel_rfl) rfl).here) ENM.out (up_eq rfl) hK) ?_
   refine TabAll.cons (fun aa wv hb ha hS Kk Qq hK=>tab_call (tab_free rfl) 84 _ _ rfl (enters_of Tryz.func84 (by kernel_rfl) rfl) #[.agg #[.int .i64 32768,.slice Aw n cw],.int .i64 d,.int .i64 (nm:Int)] (by simp[(show aa.eval (.tmp 32)=.agg #[.int .i64 32768,.slice Aw n cw]from(hS 4 32 (by kernel_rfl) rfl).here),(show aa.eval (.tmp 34)=.int .i64 d from(hS 6 34 (by kernel_rfl) rfl).here),(show aa.eval (.tmp 38)=.int .i64 (nm:Int)from(hS 10 38 (by kernel_rfl) rfl).here)]) (CU.out wv hb) (fun ee w' ⟨S',A',l',c',B',k',b',h1,h2,h3,h5⟩=>⟨_,h1,h5,fun W hW=>⟨S',A',l',c',B',k',b',rfl,(h2.imp id fun⟨x1,x2,x3,x4⟩=>⟨x1,x2,(x3.below hW (Nat.le_refl _)).more hW.size,x4⟩),(h3.imp id fun⟨x1,x3,x4⟩=>⟨x1,(x3.below hW (Nat.le_refl _)).more hW.size,x4⟩)⟩⟩) hK) ?_
   refine TabAll.cons (fun aa wv hb ha hS Kk Qq hK=>tab_move (tab_free rfl) _ rfl (hS 11 39 (by kernel_rfl) rfl) hK) ?_
   refine TabAll.cons (fun aa wv hb ha hS Kk Qq hK=>by have hs:=hS 12 27 (by kernel_rfl) rfl;obtain⟨S',A',l',c',B',k',b',e1,hA,hB⟩:=hs.here;exact tab_extract (tab_free rfl) _ _ rfl _ _ e1 (by go_simp) (fun W hW=>⟨S',A',l',c',rfl,(hA.imp id fun⟨x1,x2,x3,x4⟩=>⟨x1,x2,(x3.below hW (Nat.le_refl _)).more hW.size,x4⟩)⟩) hK) ?_
   refine TabAll.cons (fun aa wv hb ha hS Kk Qq hK=>by have hs:=hS 12 27 (by kernel_rfl) rfl;obtain⟨S',A',l',c',B',k',b',e1,hA,hB⟩:=hs.here;exact tab_extract (tab_free rfl) _ _ rfl _ _ e1 (by go_simp) (fun W hW=>⟨B',k',b',rfl,(hB.imp id fun⟨x1,x3,x4⟩=>⟨x1,(x3.below hW (Nat.le_refl _)).more hW.size,x4⟩)⟩) hK) ?_
   refine TabAll.cons (fun aa wv hb ha hS Kk Qq hK=>by have hs:=hS 12 27 (by kernel_rfl) rfl;obtain⟨S',A',l',c',B',k',b',e1,hA,hB⟩:=hs.here;exact tab_extract (tab_free rfl) _ _ rfl _ _ e1 (by go_simp) (up_eq rfl) hK) ?_
   refine TabAll.cons (fun aa wv hb ha hS Kk Qq hK=>by have hzz:=HZ.out;exact tab_make (w':=wv.alloc (.cells #[.int .i64 0,.slice none 0 0] 30)) (tab_free rfl) (.pointer (some ⟨wv.heap.size,0,none⟩)) (by go_simp) ((Below.refl _ _).alloc (Nat.le_refl _) _) (fun W hW=>⟨_,rfl,(BoxC.new wv #[.int .i64 0,.slice none 0 0] 30).below hW (by simp),hb.size⟩) hK) ?_
   exact TabAll.nil
  intro vals w5 hb hv
  obtain⟨S',A',l',c',e40,hA⟩:=(hv 13 40 rfl).here
  obtain⟨B',k',b',e41,hB⟩:=(hv 14 41 rfl).here
  obtain⟨gq,e6,hz5,hgq⟩:=(hv 16 6 rfl).here
  have e42:vals 42=.int .i64 E:=(hv 15 42 rfl).here
  have hU5:=HV2.out.on hb
  have ht5:=HTV.out.below hb HTV.out.lt
  obtain⟨Y,hY⟩:∃Y:Array Value,Y=#[.int .i64 S',.slice A' l' c']:=⟨_,rfl⟩
  obtain⟨w6,hw6⟩:∃W,W=w5.setRow gq Y:=⟨_,rfl⟩
  have f56:Fr (At gq) w5 w6:=by rw[hw6];exact Fr.row _ _ _
  have q6:BoxC w6 gq #[.int .i64 S',.slice A' l' c'] 30:=by rw[hw6,←hY];exact hz5.row Y
  have hb6:Below V.heap.size V w6:=hb.trans (f56.below (fun j hj=>by have hj':j=gq:=hj;rw[hj'];exact hgq) hb.size)
  have t6:BoxC w6 tb #[.int .u8 (x:Int),.int .i64 d,.int .i64 (nn:Int)] 82:=HTV.out.below hb6 HTV.out.lt
  have hU6:UnR w6 h0 p u2 k g L PW out:=HV2.out.on hb6
  have HB6:=Lib.hid hb6
  have HBV:Hid (Below h0 w w6):=Lib.hid ((HB2.out.trans (hb.mono HV2.out.bel)).trans (f56.below (fun j hj=>by have e':j=gq:=hj;rw[e'];exact Nat.le_trans HV2.out.bel hgq) hU5.bel))
  have HYB:Hid (Y=#[.int .i64 S',.slice A' l' c']):=Lib.hid hY
  have HZ5:=Lib.hid hz5
  have HW6:=Lib.hid hw6
  have HU6:=Lib.hid hU6
  have HQ6:=Lib.hid q6
  have HT6:=Lib.hid t6
  have n2:=t6.cell (i:=2)
  have n2':w6.cell? ⟨tb,2,none⟩=some (.int .i64 (nn:Int)):=n2.trans rfl
  have q60:w6.cell? ⟨gq,0,none⟩=some (.int .i64 S'):=q6.cell.trans rfl
  have q61:w6.cell? ⟨gq,1,none⟩=some (.slice A' l' c'):=q6.cell.trans rfl
  have HA5:Hid (DIST∨(S'=32768∧l'=WN.length∧ByR w6 w6.heap.size A' l' c' (lst WN)∧NewBs V.heap.size A')):=Lib.hid (hA.imp id fun⟨x1,x2,x3,x4⟩=>⟨x1,x2,by rw[hw6,size_setRow];exact x3.rowNew hz5,x4⟩)
  have HB5:Hid (DIST∨(k'=nm∧ByR w6 w6.heap.size B' k' b' (lst CP)∧NewBs V.heap.size B')):=Lib.hid (hB.imp id fun⟨x1,x3,x4⟩=>⟨x1,by rw[hw6,size_setRow];exact x3.rowNew hz5,x4⟩)
  have HGQ:=Lib.hid hgq
  rw[←hY]at e40
  clear n2 hY hw6 f56 q6 t6 hU6 hA hB hz5 hgq hb hv hU5 ht5 hb6
  simp only[List.take_succ_cons,List.take_zero,List.drop_succ_cons,List.drop_zero,List.map_cons,List.map_nil,putL,Act.put,List.setIfInBounds_toArray,List.set_cons_zero,List.set_cons_succ,e40,e41,e42,e6]
  clear e40 e41 e42 e6
  by_cases hE:DIST
  ·have eE:E=60:=EE.out.trans (if_pos (EDD.out.1 hE))
   subst eE
   go_wp2_with (first
    |(refine wpList_store_rowTo rfl _ _ _ rfl rfl gq Y rfl rfl 30 #[.int .i64 0,.slice none 0 0] HZ5.out (by rw[HYB.out];exact(zero_of_info infoWin14).2) (by rw[HYB.out];rfl) (by rw[HYB.out];simp[Value.oneCell']) ?_;rw[←HW6.out])
    |fail)
   go_ret
   exact⟨fun _=>rfl,fun h=>absurd (EDD.out.1 hE) h,fun h=>absurd (EDD.out.1 hE) h,HBV.out⟩
  ·have eE:E=0:=EE.out.trans (if_neg fun h=>hE (EDD.out.2 h))
   subst eE
   obtain⟨a1,a2,a3,a4⟩:=HA5.out.resolve_left hE
   obtain⟨b1,b2,b3⟩:=HB5.out.resolve_left hE
   have hfar:=fun h=>hE (EDD.out.2 h)
   subst a1
   by_cases hrn:rm<nn
   ·have hrn':(rm:Int)<(nn:Int):=by omega
    have HRN:Hid (u.M<u.D+nn):=Lib.hid (by have:=HRM.out;omega)
    have HFAR:=Lib.hid hfar
    clear a2 a3 a4 b1 b2 b3 hfar hE
    go_wp2_with (first
     |(refine wpList_store_rowTo rfl _ _ _ rfl rfl gq Y rfl rfl 30 #[.int .i64 0,.slice none 0 0] HZ5.out (by rw[HYB.out];exact(zero_of_info infoWin14).2) (by rw[HYB.out];rfl) (by rw[HYB.out];simp[Value.oneCell']) ?_;rw[←HW6.out])
     |fail)
    go_ret
    exact⟨fun h=>absurd h HFAR.out,fun _ _=>rfl,fun _ h=>absurd HRN.out h,HBV.out⟩
   ·have hrn':¬(rm:Int)<(nn:Int):=by omega
    have enm:nm=nn:=by have:=HNM.out;omega
    obtain⟨Ao,ct,et,_⟩:=HU6.out.told
    have hU:=HU6.out.on (w':=w6.drew) (Below.refl _ _).drew
    have ow:=hU.own
    rw[et]at ow
    have hlen:(out++CP).length=out.length+k':=by rw[List.length_append,HCP.out,copL_len,b1]
    have hbc:BytesP CP:=by rw[HCP.out];exact copL_bytes HU6.out.bpw
    have hl6:=HO.out
    obtain⟨A9,c9,w7,y1,y2,y3,y4,y5⟩:=run_catB_s w6.drew h0 Ao out.length ct (lst out) ow B' k' b' (lst CP) (lst (out++CP)) (b2:ByR w6.drew w6.drew.heap.size B' k' b' (lst CP)) (fun j hj=>by rw[lst_app];unfold cat;rw[if_pos hj]) (fun j hj=>by rw[lst_app];unfold cat;rw[if_neg (by omega)];congr 1;omega) (by omega) hU.bel
    have y2':=y2
    have y5':=y5
    rw[←hlen]at y2' y5'
    have hstep:=hU.more et y2' y3 y4 y5' (fun z hz=>(List.mem_append.1 hz).elim (hU.bout z) (hbc z)) (by omega) (by rw[hlen];have:=hU.wait;omega)
    have bx7:=hstep.2
    have hpo:=hU.lo
    have lt7:=y3.size
    have F47:Fr (TS p u2.t) w6.drew w7:=⟨y3.os,y3.tape,y3.output,y3.size,fun j hj hS=>y4 j hj fun e=>hS (.inr (by rw[et];exact e))⟩
    obtain⟨w9,hw9⟩:∃W,W=((w7.setCell ⟨p,42,none⟩ (.int .i64 32768)).setCell ⟨p,43,none⟩ (.slice A' l' c')).setCell ⟨p,47,none⟩ (.slice A9 (out.length+k') c9):=⟨_,rfl⟩
    have bx9:UnB w9 p {u2 with S:=32768,W:=.slice A' l' c',t:=.slice A9 (out.length+k') c9}:=by
     rw[hw9];exact((bx7.sW 32768 (.slice A' l' c')).st _)
    have F79:Fr (At p) w7 w9:=by rw[hw9];exact((Fr.cell w7 p 42 _).trans (Fr.cell _ p 43 _)).trans (Fr.cell _ p 47 _)
    have F49:Fr (TS p u2.t) w6.drew w9:=F47.trans (F79.mono fun j hj=>.inl hj)
    have hnewT:∀j,(Value.slice A9 (out.length+k') c9).ownBlock=some j→u2.t.ownBlock=some j∨w6.drew.heap.size≤j:=fun j hj=>by rw[et];exact y5 j hj
    have ow9:=own_blk y2 (w':=w9) fun j hj=>F79.block j (own_blk_lt y2 j hj).2 fun e=>by
     have e':j=p:=e
     rw[e']at hj
     exact own_type y2 bx7 (by kernel_rfl) hj
    have hWN2:WN=winI PW CP:=HWN.out
    have hwb:BytesP WN:=by rw[hWN2];exact win_bytes hU.bpw hbc
    have hwl:WN.length≤32768:=by rw[hWN2];unfold winI;exact lastN_le _ _
    have hwin:∃Aw' cw',(Value.slice A' l' c')=.slice Aw' WN.length cw'∧ByF (TS p (.slice A9 (out.length+k') c9)) w9 Aw' WN.length cw' (lst WN):=by
     rw[a2]at a3
     refine⟨A',c',by rw[a2],?_⟩
     have q:ByF (TS p u2.t) w6.drew A' WN.length c' (lst WN):=ByF.new a3 a4 (fun j hj=>HV2.out.lt j hj)
     exact q.go F49 fun j hj=>by
      rcases hj with hj|hj
      ·exact .inl (.inl hj)
      ·rcases hnewT j hj with h9|h9
       ·exact .inl (.inr h9)
       ·exact .inr h9
    have h9:UnR w9 h0 p {u2 with S:=32768,W:=.slice A' l' c',t:=.slice A9 (out.length+k') c9} k g L WN (out++CP):=
     hU.any F49 bx9 ⟨A9,c9,by rw[hlen]⟩ (by rw[hlen];exact ow9) hnewT rfl hwin rfl (hU.blk.fr hU.box hU.own F49:BlkT w9 h0 u2 k) (fun z hz=>(List.mem_append.1 hz).elim (hU.bout z) (hbc z)) hwb (by omega) hwl hU.bit (by rw[hlen];have:=hU.wait;show u2.wait≤_;omega)
    have t9:BoxC w9 tb #[.int .u8 (x:Int),.int .i64 d,.int .i64 (nn:Int)] 82:=BoxC.fr (w:=w6.drew) HT6.out F49 fun hj=>by
     rcases hj with hj|hj
     ·exact HTP.out hj
     ·exact own_type (w:=w6.drew) hU.own HT6.out (by kernel_rfl) hj
    have z7:BoxC w7 gq #[.int .i64 32768,.slice A' l' c'] 30:=BoxC.fr (w:=w6.drew) HQ6.out F47 fun hj=>by
     rcases hj with hj|hj
     ·have:=HGQ.out;have:=HV2.out.lt p (.inl rfl);omega
     ·exact own_type (w:=w6.drew) hU.own HQ6.out (by kernel_rfl) hj
    have z70:w7.cell? ⟨gq,0,none⟩=some (.int .i64 32768):=z7.cell.trans rfl
    have z71:w7.cell? ⟨gq,1,none⟩=some (.slice A' l' c'):=z7.cell.trans rfl
    have h10:=h9.setD (u.D+nn)
    have hB9:Below h0 w w9:=(HBV.out.drew.trans y3).trans (F79.below (fun j hj=>by have hj':j=p:=hj;rw[hj'];exact hpo) (Nat.le_trans hU.bel y3.size))
    have hB10:Below h0 w (w9.setCell ⟨p,1,none⟩ (.int .i64 (u.D+nn))):=hB9.setCell hpo _
    have eWN:WN=winI PW (copL PW d.toNat nn):=by rw[hWN2,HCP.out,enm]
    have eCP:CP=copL PW d.toNat nn:=by rw[HCP.out,enm]
    have HFIN:Hid (UnR (w9.setCell ⟨p,1,none⟩ (.int .i64 (u.D+nn))) h0 p {u2 with S:=32768,W:=.slice A' l' c',t:=.slice A9 (out.length+k') c9,D:=u.D+nn} k g L (winI PW (copL PW d.toNat nn)) (out++copL PW d.toNat nn)):=Lib.hid (by rw[←eWN,←eCP];exact h10)
    have HRUN:=Lib.hid y1;have HW9:=Lib.hid hw9;have HB10:=Lib.hid hB10;have HFAR:=Lib.hid hfar
    have HLIM:Hid (¬u.M<u.D+nn):=Lib.hid (by have:=HRM.out;omega)
    have c42:=bx7.cS;have c43:=bx7.cW;have c47:=bx7.ct;have g42:=bx7.free 42;have g43:=bx7.free 43;have g47:=bx7.free 47
    have d47:w6.cell? ⟨p,47,none⟩=some (.slice Ao out.length ct):=by rw[←et];exact HU6.out.box.ct
    have d1:=h9.box.cD
    have d1':w9.cell? ⟨p,1,none⟩=some (.int .i64 u.D):=by rw[←HR3.out];exact d1
    have d2:w9.cell? ⟨tb,2,none⟩=some (.int .i64 (nn:Int)):=t9.cell.trans rfl
    have g1:=bx9.free 1
    have hsum:u.D+(nn:Int)≤131072:=by have:=HLIM.out;omega
    clear z7 hU ow y1 y2 y3 y4 y5 y2' y5' hstep bx7 F47 hw9 bx9 F79 F49 hnewT ow9 hWN2 hwb hwl hwin h9 t9 h10 hB9 hB10 eWN eCP d1 a2 a3 a4 b1 b2 b3 hfar hE hlen hbc hl6 lt7 enm et hpo
    go_wp2_with (first
     |(refine wpList_store_rowTo rfl _ _ _ rfl rfl gq Y rfl rfl 30 #[.int .i64 0,.slice none 0 0] HZ5.out (by rw[HYB.out];exact(zero_of_info infoWin14).2) (by rw[HYB.out];rfl) (by rw[HYB.out];simp[Value.oneCell']) ?_;rw[←HW6.out])
     |fail)
    go_region_law ((refine step_app rfl (.tmp 56) (.tmp 57) 22 22 rfl (.slice Ao out.length ct) (.slice B' k' b') rfl rfl (.slice A9 (out.length+k') c9) w7 HRUN.out ?_))
    all_goals(
     rw[←HW9.out]
     go_wp2
     go_region
     go_wp2
     go_ret
     exact⟨fun h=>absurd h HFAR.out,fun _ h=>absurd h (by have:=HLIM.out;omega),fun _ _=>⟨rfl,_,HFIN.out.on (Below.refl _ _).drew,HR2.out,rfl,HR4.out,HR5.out,HR6.out,HR7.out,HR8.out⟩,HB10.out.drew⟩)
end Go.Proofs.YtcmpmighjglnpaaGreat
namespace Go.Proofs.YtcmpmighjglnpaaGreat
open Go.RowKit
theorem MayI.less{kd:Nat}{left:Int}{c1:Nat→Int}{s1:List Int}{c2:Nat→Int}{s2:List Int}(h:MayI kd left c1 s1 c2 s2)(_h0:kd=0)(h1:1≤left):MayI kd (left-1) c1 s1 c2 s2:=by
 rcases h with⟨a,b,c,d,e⟩|⟨a,_⟩
 ·exact .inl ⟨a,by omega,by omega,d,e⟩
 ·omega
theorem BlkT.less{w:World}{h0:Nat}{u:UnV}{k:Blk13}(h:BlkT w h0 u (some k))(h1:u.kd=0)(h2:1≤k.left):BlkT w h0 {u with left:=u.left-1} (some (lessK k)):=by
 obtain⟨a,b,s1,s2,c,d,e⟩:=h
 have hl:(k.left:Int)=u.left:=d.2.2.1
 refine⟨a,b.less,s1,s2,c.less h1 (by omega),⟨d.1,d.2.1,?_,?_,d.2.2.2.2.1,d.2.2.2.2.2.1,d.2.2.2.2.2.2⟩,e⟩
 ·show((k.left-1:Nat):Int)=u.left-1;omega
 ·show k.left-1≤65535;have:=d.2.2.2.1;omega
theorem lessK_0{k:Blk13}(h:k.left=0):lessK k=k:=by
 obtain⟨a,b,c,d,e,f,g⟩:=k
 have h':c=0:=h
 subst h';rfl
structure SglD (w:World) (h0 p:Nat) (u:UnV) (k:Blk13) (g:Nat→Nat) (L:Nat) (pw out:List Nat) (x:Nat) (e:Ending) (w':World):Prop where
 no:u.D=u.M→e=.returned (.int .i64 140)
 yes:u.D≠u.M→e=.returned (.int .i64 0)∧∃u',UnR w' h0 p u' (some (lessK k)) g L pw (out++[x])∧u'.M=u.M∧u'.D=u.D+1∧u'.I=u.I∧u'.a=u.a∧u'.ov=u.ov∧u'.bit=u.bit∧u'.wait=u.wait+1
 bel:Below h0 w w'
theorem usingle_any(w:World)(h0 p:Nat)(u:UnV)(k:Blk13)(g:Nat→Nat)(L:Nat)(pw out:List Nat)(h:UnR w h0 p u (some k) g L pw out)(x:Nat)(hx:x<256)(hk:k.kind=0→1≤k.left)(hM:u.M≤131072)(hD:0≤u.D)(hDM:u.D≤u.M)(ho:out.length≤200000):
  Calls Tryz.prog 63 #[.pointer (some ⟨p,0,none⟩),.int .u8 (x:Int)] w fun e w'=>SglD w h0 p u k g L pw out x e w':=by
 have a0:=h.box.cM
 have a1:=h.box.cD
 by_cases hlim:u.D=u.M
 ·have d0:(u.D==u.M)=true:=by simp[hlim]
  have HB:=Lib.hid (Below.refl h0 w)
  have HL:=Lib.hid hlim
  clear h hlim
  go_enter Tryz.func63,Tryz.ntmps63
  go_wp2
  go_region
  go_wp2
  go_ret
  exact⟨fun _=>rfl,fun h=>absurd HL.out h,HB.out.drew⟩
 ·have d0:(u.D==u.M)=false:=beq_eq_false_iff_ne.2 hlim
  have hkd:k.kind=u.kd:=by obtain⟨_,_,_,_,_,h1,_⟩:=h.blk;exact h1.1
  have hkl:(k.left:Int)=u.left:=by obtain⟨_,_,_,_,_,h1,_⟩:=h.blk;exact h1.2.2.1
  have hk0:k.kind≠0→k.left=0:=by obtain⟨_,g,_⟩:=h.blk;exact fun h=>(g.code h).1
  have hl6:k.left≤65535:=by obtain⟨_,g,_⟩:=h.blk;exact g.left
  obtain⟨V,hV⟩:∃V,V=w.drew:=⟨_,rfl⟩
  have hd:UnR V h0 p u (some k) g L pw out:=by rw[hV];exact h.on (Below.refl _ _).drew
  obtain⟨At,ct,et,_⟩:=h.told
  have a4:=h.box.ck
  have a6:=h.box.ce
  have hb0:Below h0 w V:=by rw[hV];exact(Below.refl _ _).drew
  have HV:=Lib.hid hV
  have a4':=hd.box.ck
  clear hV
  have key:∀U1:World,∀u1:UnV,UnR U1 h0 p u1 (some (lessK k)) g L pw out→Below h0 w U1→u1.t=u.t→∃A' c' w1 u',(Builtin.append_ #[22,22] 22 #[.slice At out.length ct,.slice (some ⟨U1.heap.size,0,none⟩) 1 1]).run Tryz.prog (U1.alloc (.cells #[.int .u8 (x:Int)] 5))=.ok (.slice A' (out.length+1) c') w1∧
    w1.frozen? ⟨p,47,none⟩=false∧(∃v,w1.cell? ⟨p,47,none⟩=some v)∧
    ∃w2,w2=w1.setCell ⟨p,47,none⟩ (.slice A' (out.length+1) c')∧w2.cell? ⟨p,48,none⟩=some (.int .i64 (u1.wait:Int))∧w2.frozen? ⟨p,48,none⟩=false∧
    ∃w3,w3=w2.setCell ⟨p,48,none⟩ (.int .i64 ((u1.wait:Int)+1))∧w3.cell? ⟨p,1,none⟩=some (.int .i64 u1.D)∧w3.frozen? ⟨p,1,none⟩=false∧
    ∃w4,w4=w3.setCell ⟨p,1,none⟩ (.int .i64 (u1.D+1))∧UnR w4 h0 p u' (some (lessK k)) g L pw (out++[x])∧u'.M=u1.M∧u'.D=u1.D+1∧u'.I=u1.I∧u'.a=u1.a∧u'.ov=u1.ov∧u'.bit=u1.bit∧u'.wait=u1.wait+1∧Below h0 w w4:=by
   intro U1 u1 h1 hbu et1
   have ow:=h1.own
   rw[et1,et,(lst_one out x).1]at ow
   obtain⟨A',c',w1,r1,r2,r3,r4,r5⟩:=run_oneB_s U1 h0 At out.length ct (lst (out++[x])) ow x (lst_one out x).2.symm (by omega) h1.bel
   have hlen:(out++[x]).length=out.length+1:=by simp
   rw[←hlen]at r2
   have r5':=r5
   rw[←hlen]at r5'
   obtain⟨q1,q2⟩:=h1.more (et1.trans et) r2 r3 r4 r5' (fun y hy=>by rcases List.mem_append.1 hy with hy|hy;exact h1.bout y hy;rw[List.mem_singleton.1 hy];exact hx) (by rw[hlen];omega) (by rw[hlen];have:=h1.wait;omega)
   have q3:=q1.setWait (u1.wait+1) (by rw[hlen];have:=h1.wait;omega)
   have q4:=q3.setD (u1.D+1)
   have hp:h0≤p:=h1.lo
   rw[hlen]at q1 q3 q4
   exact⟨A',c',w1,_,r1,q2.free 47,⟨_,q2.ct⟩,_,rfl,q1.box.cwait,q1.box.free 48,_,rfl,q3.box.cD,q3.box.free 1,_,rfl,q4,rfl,rfl,rfl,rfl,rfl,rfl,rfl,((((hbu.trans r3).setCell hp _).setCell hp _).setCell hp _)⟩
  have HLIM:=Lib.hid hlim
  have hD1:u.D+1≤131073:=by omega
  have hw1:(u.wait:Int)≤200000:=by have:=h.wait;omega
  have at0:=hd.box.ct
  rw[et]at at0
  by_cases hz:u.kd=0
  ·have hz':k.kind=0:=by omega
   have e0:((u.kd:Int)==0)=true:=by simp[hz]
   have h1l:=hk hz'
   have b6:=hd.blk.less hz h1l
   have hd2:=hd.cells (Fr.cell _ p 6 (.int .i64 (u.left-1))) (hd.box.se (u.left-1)) rfl rfl rfl rfl (b6.cells hd.box hd.own (Fr.cell _ _ _ _)) hd.bit hd.wait
   obtain⟨U1,hU1⟩:∃U1,U1=V.setCell ⟨p,6,none⟩ (.int .i64 (u.left-1)):=⟨_,rfl⟩
   rw[←hU1]at hd2
   obtain⟨A',c',w1,u',r1,r2,⟨vt,r3⟩,w2,hw2,r4,r5,w3,hw3,r6,r7,w4,hw4,r8,r9,r10,r11,r12,r13,r14,r15,r16⟩:=key U1 _ hd2 (by rw[hU1];exact hb0.setCell h.lo _) rfl
   have f6:=hd.box.free 6
   have a6':=hd.box.ce
   have at_:=hd2.box.ct
   rw[show({u with left:=u.left-1}:UnV).t=u.t from rfl,et]at at_
   have hle1:(1:Int)≤u.left:=by omega
   have hle2:u.left≤65535:=by omega
   have HRUN:=Lib.hid r1
   have HR8:=Lib.hid r8;have H9:=Lib.hid r9;have H10:=Lib.hid r10;have H11:=Lib.hid r11;have H12:=Lib.hid r12;have H13:=Lib.hid r13;have H14:=Lib.hid r14;have H15:=Lib.hid r15;have HBB:=Lib.hid r16
   have HU1:=Lib.hid hU1;have HW2:=Lib.hid hw2;have HW3:=Lib.hid hw3;have HW4:=Lib.hid hw4
   have HSZ:Hid (U1.heap.size=U1.heap.size):=Lib.hid rfl
   dsimp only at r4 r6
   clear key hd hd2 b6 h hkd hkl hk0 hl6 hk et hlim r1 r8 r9 r10 r11 r12 r13 r14 r15 r16 hz hz' h1l hU1 hw2 hw3 hw4 ho hx hM hDM hb0
   go_enter Tryz.func63,Tryz.ntmps63
   go_wp2
   go_region
   rw[←HV.out]
   go_wp2_with (first
    |(rw[←HU1.out])
    |(rw[←HW2.out])
    |(rw[←HW3.out])
    |(rw[←HW4.out])
    |(at_builtin;refine wpList_append_run rfl (.tmp 38) (.tmp 40) 22 rfl (.slice At out.length ct) (.slice (some ⟨U1.heap.size,0,none⟩) 1 1) (.slice A' (out.length+1) c') w1 rfl rfl HRUN.out ?_)
    |fail)
   go_ret
   exact⟨fun h=>absurd h HLIM.out,fun _=>⟨rfl,u',HR8.out,H9.out,H10.out,H11.out,H12.out,H13.out,H14.out,H15.out⟩,HBB.out⟩
  ·have hz':k.kind≠0:=by omega
   have e0:((u.kd:Int)==0)=false:=beq_eq_false_iff_ne.2 (by omega)
   have el:=lessK_0 (hk0 hz')
   rw[el]at key
   obtain⟨A',c',w1,u',r1,r2,⟨vt,r3⟩,w2,hw2,r4,r5,w3,hw3,r6,r7,w4,hw4,r8,r9,r10,r11,r12,r13,r14,r15,r16⟩:=key V u hd hb0 rfl
   have HRUN:=Lib.hid r1
   have HR8:=Lib.hid r8;have H9:=Lib.hid r9;have H10:=Lib.hid r10;have H11:=Lib.hid r11;have H12:=Lib.hid r12;have H13:=Lib.hid r13;have H14:=Lib.hid r14;have H15:=Lib.hid r15;have HBB:=Lib.hid r16
   have HW2:=Lib.hid hw2;have HW3:=Lib.hid hw3;have HW4:=Lib.hid hw4;have HEL:=Lib.hid el
   clear key hd h hkd hkl hk0 hl6 hk et hlim r1 r8 r9 r10 r11 r12 r13 r14 r15 r16 hz hz' hw2 hw3 hw4 ho hx hM hDM hb0 el
   go_enter Tryz.func63,Tryz.ntmps63
   go_wp2
   go_region
   rw[←HV.out]
   go_wp2_with (first
    |(rw[←HW2.out])
    |(rw[←HW3.out])
    |(rw[←HW4.out])
    |(at_builtin;refine wpList_append_run rfl (.tmp 38) (.tmp 40) 22 rfl (.slice At out.length ct) (.slice (some ⟨V.heap.size,0,none⟩) 1 1) (.slice A' (out.length+1) c') w1 rfl rfl HRUN.out ?_)
    |fail)
   go_ret
   exact⟨fun h=>absurd h HLIM.out,fun _=>⟨rfl,u',by rw[HEL.out];exact HR8.out,H9.out,H10.out,H11.out,H12.out,H13.out,H14.out,H15.out⟩,HBB.out⟩
end Go.Proofs.YtcmpmighjglnpaaGreat
namespace Go.Proofs.YtcmpmighjglnpaaGreat
open Go.RowKit
theorem head_piece{g:Nat→Nat}{L a:Nat}(ha:a≤8*L):headR (dropG g (a/8)) (min 600 (L-a/8)) ((a%8:Nat):Int)=
  if(begR g L a).2.2≠0 then(blk0,0,(begR g L a).2.2)else((begR g L a).1,(begR g L a).2.1-8*(a/8),0):=by
 have h1:=piece_asked ha
 have h2:=beg_piece (g:=g) ha
 unfold headR
 rw[if_neg (by rw[h1];simp),Int.toNat_natCast,h2,upR_e]
 by_cases h3:(begR (dropG g (a/8)) (min 600 (L-a/8)) (a%8)).2.2≠0
 ·rw[if_pos h3,if_pos h3]
 ·have h4:(begR (dropG g (a/8)) (min 600 (L-a/8)) (a%8)).2.2=0:=by omega
  rw[if_neg h3,if_neg h3,upR_1,upR_p h4,Nat.add_sub_cancel_left]
  generalize begR (dropG g (a/8)) (min 600 (L-a/8)) (a%8)=R at h4⊢
  obtain⟨x,y,z⟩:=R
  have:z=0:=h4
  subst this;rfl
structure HdD (w:World) (h0 p:Nat) (u:UnV) (g:Nat→Nat) (L:Nat) (pw out:List Nat) (e:Ending) (w':World):Prop where
 bad:(begR g L u.bit).2.2≠0→e=.returned (.int .i64 (begR g L u.bit).2.2)∧UnR w' h0 p u none g L pw out
 ok:(begR g L u.bit).2.2=0→e=.returned (.int .i64 0)∧∃u',UnR w' h0 p u' (some (begR g L u.bit).1) g L pw out∧u'.M=u.M∧u'.D=u.D∧u'.I=u.I∧u'.a=u.a∧u'.ov=u.ov∧u'.bit=(begR g L u.bit).2.1∧u'.wait=u.wait
 bel:Below h0 w w'
theorem uhead_any(w:World)(h0 p:Nat)(u:UnV)(g:Nat→Nat)(L:Nat)(pw out:List Nat)(h:UnR w h0 p u none g L pw out):
  Calls Tryz.prog 38 #[.pointer (some ⟨p,0,none⟩)] w fun e w'=>HdD w h0 p u g L pw out e w':=by
 have hp:=upiece_any w h0 p u none g L pw out h
 have hHead:=fun V (A':Option Addr) (c':Nat) (hg:RdB V V.heap.size A' (min 600 (L-u.bit/8)) (dropG g (u.bit/8)))=>phead13_any V A' (min 600 (L-u.bit/8)) c' (dropG g (u.bit/8)) hg ((u.bit%8:Nat):Int) (by omega) (by omega) (by omega)
 rw[head_piece h.bit]at hHead
 obtain⟨R,hR⟩:∃R,R=begR g L u.bit:=⟨_,rfl⟩
 have hfw:=beg_fwd (g:=g) (L:=L) (a:=u.bit)
 have hrd:=head_reads14 (g:=g) (L:=L) (a:=u.bit) h.bit
 have hgk:=beg_goodK (g:=g) (L:=L) (a:=u.bit) h.bit
 rw[←hR]at hHead hfw hrd hgk
 obtain⟨m,hm⟩:∃m,m=min 600 (L-u.bit/8):=⟨_,rfl⟩
 obtain⟨s,hs⟩:∃s,s=u.bit/8:=⟨_,rfl⟩
 obtain⟨r,hr⟩:∃s,s=u.bit%8:=⟨_,rfl⟩
 rw[←hm,←hs,←hr]at hp
 rw[←hm,←hs,←hr]at hHead
 obtain⟨Z,hZ⟩:∃Z,Z=blkT 0 false 0 (fun _=>0) (fun _=>0) (.slice none 0 0) (.slice none 0 0):=⟨_,rfl⟩
 have hzb:∀u:World,(zeroValue 28).run Tryz.prog u=.ok (.agg Z) u:=by rw[hZ];exact(zero_of_info infoBlkT).1
 have HZS:Hid (Z.size=37):=Lib.hid (by rw[hZ];exact blkT_size ..)
 have HP:=Lib.hid hp;have HH:=Lib.hid h;have HHead:=Lib.hid hHead;have HR:=Lib.hid hR;have HFW:=Lib.hid hfw;have HRD:=Lib.hid hrd;have HGK:=Lib.hid hgk
 have HS:=Lib.hid hs;have HRR:=Lib.hid hr;have HBIT:=Lib.hid h.bit;have HLL:=Lib.hid h.lL
 have hmL:m≤600:=by omega
 by_cases he:R.2.2≠0
 ·rw[if_pos he]at HHead
  have d0:(R.2.2==0)=false:=beq_eq_false_iff_ne.2 he
  have d1:(R.2.2 !=0)=true:=by simp[bne,d0]
  obtain⟨er,her⟩:∃x,x=R.2.2:=⟨_,rfl⟩
  rw[←her]at HHead d0 d1
  have HE:=Lib.hid he;have HER:=Lib.hid her
  clear hp hHead hfw hrd hgk h hR hm hs hr he her hZ
  go_enter Tryz.func38,Tryz.ntmps38
  go_wp2_with fail
  refine HP.out.mono ?_
  rintro e w2 ⟨A',c',rfl,r1,hb2⟩
  have HC:=Lib.hid (HHead.out w2 A' c' r1)
  have HB2:=Lib.hid hb2
  clear r1 hb2
  go_wp2_with fail
  refine HC.out.mono ?_
  rintro e w3 ⟨⟨v,rfl,⟨v1,v2,rfl,o1,o2⟩,_⟩,hb3⟩
  obtain⟨Y,hY⟩:∃Y,Y=blkT blk0.kind blk0.last blk0.left (tcO blk0.kind blk0.F blk0.n) (tcO blk0.kind blk0.G blk0.m) v1 v2:=⟨_,rfl⟩
  have HYS:Hid (Y.size=37):=Lib.hid (by rw[hY];exact blkT_size ..)
  have HYO:Hid (Y.all (·.oneCell')=true):=Lib.hid (by rw[hY];exact blkT_one _ _ _ _ _ _ _ o1.one o2.one)
  obtain⟨w4,hw4⟩:∃W,W=mkV w3 Z Y 28:=⟨_,rfl⟩
  have hb4:Below w.heap.size w w4:=(HB2.out.trans (hb3.mono HB2.out.size)).trans ((by rw[hw4];exact mkV_below _ _ _ _:Below w3.heap.size w3 w4).mono (Nat.le_trans HB2.out.size hb3.size))
  have HB4:=Lib.hid hb4;have HW4:=Lib.hid hw4
  dsimp only
  rw[←hY]
  clear hb3 hw4 hb4 hY o1 o2
  go_wp2_with (first
   |(refine wpList_store_rowTo rfl _ _ _ rfl rfl w3.heap.size Y rfl rfl 28 Z (heap_alloc_new w3 _) (szBlkT _ HYS.out) (by rw[HZS.out,HYS.out]) HYO.out ?_;change wpList _ _ _ _ _ (mkV w3 Z Y 28);rw[←HW4.out])
   |fail)
  go_ret
  refine⟨fun _=>⟨by rw[←HR.out,←HER.out];rfl,HH.out.on HB4.out⟩,fun h=>absurd h (by rw[←HR.out];exact HE.out),HB4.out.mono HH.out.bel⟩
 ·rw[if_neg he]at HHead
  have he0:R.2.2=0:=by omega
  obtain⟨pl,hpl⟩:∃x,x=R.2.1:=⟨_,rfl⟩
  obtain⟨q,hq⟩:∃x,x=R.2.1-8*s:=⟨_,rfl⟩
  obtain⟨K,hK⟩:∃x,x=R.1:=⟨_,rfl⟩
  obtain⟨f1,f2⟩:=hfw he0
  have HSUM:Hid ((u.bit:Int)+((q:Int)-(r:Int))=(pl:Int)):=Lib.hid (by omega)
  rw[←hq,←hK]at HHead
  have HPL:=Lib.hid hpl;have HK:=Lib.hid hK;have HE:=Lib.hid he0
  have c46:=h.box.cbit
  obtain⟨bt,hbt⟩:∃b,b=u.bit:=⟨_,rfl⟩
  have l1:(bt:Int)≤8000000:=by have:=h.bit;have:=h.lL;omega
  have l2:(q:Int)≤8000000:=by have:=h.bit;have:=h.lL;omega
  have l3:(r:Int)≤7:=by omega
  have HPB:Hid (pl≤8*L):=Lib.hid (by omega)
  rw[←hbt]at HSUM
  have HBT:=Lib.hid hbt
  clear hp hHead hfw hrd hgk hR hm hs hr he hZ hq hK hpl f1 f2 he0 c46 h hbt
  go_enter Tryz.func38,Tryz.ntmps38
  go_wp2_with fail
  refine HP.out.mono ?_
  rintro e w2 ⟨A',c',rfl,r1,hb2⟩
  have HC:=Lib.hid (HHead.out w2 A' c' r1)
  have HB2:=Lib.hid hb2
  clear r1 hb2
  go_wp2_with fail
  refine HC.out.mono ?_
  rintro e w3 ⟨⟨v,rfl,⟨v1,v2,rfl,o1,o2⟩,_⟩,hb3⟩
  dsimp only at o1 o2⊢
  obtain⟨Y,hY⟩:∃Y,Y=blkT K.kind K.last K.left (tcO K.kind K.F K.n) (tcO K.kind K.G K.m) v1 v2:=⟨_,rfl⟩
  have hYS:Y.size=37:=by rw[hY];exact blkT_size ..
  have HYO:Hid (Y.all (·.oneCell')=true):=Lib.hid (by rw[hY];exact blkT_one _ _ _ _ _ _ _ o1.one o2.one)
  obtain⟨w4,hw4⟩:∃W,W=mkV w3 Z Y 28:=⟨_,rfl⟩
  have hb34:Below w3.heap.size w3 w4:=by rw[hw4];exact mkV_below _ _ _ _
  have hb3':Below w.heap.size w w3:=HB2.out.trans (hb3.mono HB2.out.size)
  have hb4:Below w.heap.size w w4:=hb3'.trans (hb34.mono hb3'.size)
  have h4:=HH.out.on hb4
  have k4:BoxC w4 w3.heap.size Y 28:=by rw[hw4];exact mkV_row _ _ _ _
  have hb0:=HH.out.bel
  have q1:OwnS w4 h0 v1 (syO K.kind K.F K.n):=(o1.lower (by have:=HB2.out.size;omega)).on hb34
  have q2:OwnS w4 h0 v2 (syO K.kind K.G K.m):=(o2.lower (by have:=HB2.out.size;omega)).on hb34
  obtain⟨w5,hw5⟩:∃W,W=w4.setCells p 4 Y.toList:=⟨_,rfl⟩
  have b5:=h4.box.sB K.kind K.last (K.left:Int) (tcO K.kind K.F K.n) (tcO K.kind K.G K.m) v1 v2
  have e5:w4.setCells p 4 (blkL K.kind K.last (K.left:Int) (tcO K.kind K.F K.n) (tcO K.kind K.G K.m) v1 v2)=w5:=by rw[hw5,hY];rfl
  rw[e5]at b5
  have f5:Fr (At p) w4 w5:=by rw[hw5];exact Fr.setCells _ _ _ _ rfl
  obtain⟨w6,hw6⟩:∃W,W=w5.setCell ⟨p,41,none⟩ (.bool true):=⟨_,rfl⟩
  have b6:=b5.sop true
  rw[←hw6]at b6
  have f6:Fr (At p) w4 w6:=f5.trans (by rw[hw6];exact Fr.cell _ _ _ _)
  obtain⟨w7,hw7⟩:∃W,W=w6.setCell ⟨p,46,none⟩ (.int .i64 (pl:Int)):=⟨_,rfl⟩
  have b7:=b6.sbit pl
  rw[←hw7]at b7
  have f7:Fr (At p) w4 w7:=f6.trans (by rw[hw7];exact Fr.cell _ _ _ _)
  have hRD:=HRD.out HE.out rfl
  have hGK:=HGK.out HE.out
  rw[←HK.out]at hRD hGK
  have hown:∀{v:Value} {sy:List Int},OwnS w4 h0 v sy→OwnS w7 h0 v sy:=fun o=>o.frA f7 fun j hj=>by
   have hj':j=p:=hj
   rw[hj']
   exact own_type o h4.box (by kernel_rfl)
  have h7:=h4.cells f7 b7 rfl rfl rfl rfl (k':=some K) ⟨rfl,hGK,_,_,hRD.1,hRD.2.1,hown q1,hown q2,by have:=hRD.2.2.1;omega,by have:=hRD.2.2.2;omega⟩ HPB.out h4.wait
  have HFIN:=Lib.hid h7
  have HB7:Hid (Below h0 w w7):=Lib.hid ((hb4.mono hb0).trans (f7.below (fun j hj=>by have hj':j=p:=hj;rw[hj'];exact h4.lo) h4.bel))
  have HTH:Hid (w4.there p 4 Y.size):=Lib.hid (by rw[hYS];exact h4.box.th 4 37 (by omega))
  have HYS:=Lib.hid hYS;have HW4:=Lib.hid hw4;have HW5:=Lib.hid hw5;have HW6:=Lib.hid hw6;have HW7:=Lib.hid hw7;have HK4:=Lib.hid k4
  have c41:=b5.cop
  have g41:=b5.free 41
  have c46:=b6.cbit
  have c46':w6.cell? ⟨p,46,none⟩=some (.int .i64 (bt:Int)):=by rw[HBT.out];exact c46
  have g46:=b6.free 46
  have esum:=HSUM.out
  rw[←hY]
  clear hb3 hw4 hb4 hY o1 o2 hb34 hb3' h4 k4 hb0 q1 q2 hw5 b5 e5 f5 hw6 b6 f6 hw7 b7 f7 hRD hGK hown h7 hYS c46
  go_wp2_with (first
   |(rw[←HW6.out])
   |(refine wpList_store_rowTo rfl _ _ _ rfl rfl w3.heap.size Y rfl rfl 28 Z (heap_alloc_new w3 _) (szBlkT _ HYS.out) (by rw[HZS.out,HYS.out]) HYO.out ?_;change wpList _ _ _ _ _ (mkV w3 Z Y 28);rw[←HW4.out])
   |(refine wpList_load_row rfl _ _ rfl w3.heap.size rfl _ Y (0,0) _ HK4.out Tryz.underlying28 rfl (szBlkT _ HYS.out) ?_)
   |(refine wpList_store_mid rfl _ _ _ rfl p 4 Y rfl rfl HTH.out (szBlkT _ HYS.out) HYO.out ?_;rw[←HW5.out])
   |(rw[←HW7.out])
   |fail)
  go_ret
  refine⟨fun h=>absurd (by rw[←HR.out];exact HE.out) h,fun _=>⟨rfl,{u with kd:=K.kind,last:=K.last,left:=(K.left:Int),c1:=tcO K.kind K.F K.n,c2:=tcO K.kind K.G K.m,v1:=v1,v2:=v2,op:=true,bit:=pl},by rw[←HR.out,←HK.out];exact HFIN.out,rfl,rfl,rfl,rfl,rfl,by rw[←HR.out,←HPL.out],rfl⟩,HB7.out⟩
end Go.Proofs.YtcmpmighjglnpaaGreat
