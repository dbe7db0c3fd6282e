/-
  Words and walks.
-/
import Derived.Great.BuildSlice
import Derived.Test.YtokpcpjnihinfaaGreatpnab
import Derived.Test.YtokpcpjnihinfaaGreatpnaq
import Derived.Test.YtokpcpjnihinfaaGreatpnat
set_option maxRecDepth 100000
set_option maxHeartbeats 16000000
namespace Go.Proofs.YtokpcpjnihinfaaGreat
open Go.RowKit Go.ChangeShapes Go.WideShapes Go.ChangeAt Go.Joins
theorem geq_yes(P:Program)(t:TypeId)(x y:Int)(h:y≤x)(w:World):(binOp .geq t (.int .i64 x) (.int .i64 y)).run P w=.ok (.bool true) w:=by
 simp[binOp,Op.intCmp,go_sem];omega
theorem geq_not(P:Program)(t:TypeId)(x y:Int)(h:¬y≤x)(w:World):(binOp .geq t (.int .i64 x) (.int .i64 y)).run P w=.ok (.bool false) w:=by
 simp[binOp,Op.intCmp,go_sem];omega
def lenS:Value→Nat
 | .slice _ n _=>n
 |_=>0
theorem pwrite_any(w:World)(B g:Nat)(p:Prs)(out:List Nat)(Ah:Option Addr)(hc:Nat)(Aw:Option Addr)(wc:Nat)(Ap:Option Addr)(pc:Nat)(Ao:Option Addr)(oc:Nat)(U:Und w B g p out Ah hc Aw wc Ap pc Ao oc)(gd:GoodW p)(hb:p.wait.length≤1000000)(hol:out.length+10*p.wait.length≤80000000):
  Calls Tryz.prog 29 #[.pointer (some ⟨g,0,none⟩)] w fun e w'=>e=.returned (.tuple #[])∧(∃Ah' hc' Aw' wc' Ap' pc' Ao' oc',Und w' B g (wrtP p.wait.length p p.wait).1 (out++(wrtP p.wait.length p p.wait).2) Ah' hc' Aw' wc' Ap' pc' Ao' oc')∧GoodP (wrtP p.wait.length p p.wait).1∧Below B w w':=by
 have hs:=mayS_rng gd.sty
 obtain⟨M,hM⟩:∃M:Nat,p.m=(M:Int):=⟨p.m.toNat,by omega⟩
 obtain⟨N,hN⟩:∃N,N=p.wait.length:=⟨_,rfl⟩
 obtain⟨F,hF⟩:∃F,F=wrtP N p p.wait:=⟨_,rfl⟩
 have hGF:GoodP F.1:=by
  have h1:=(wrt_good N {p with wait:=[]} p.wait (by omega) gd.empty gd.bw).1
  rw[wrt_wait]at h1
  rw[hF];exact h1
 rw[←hN,←hF]
 have HU:=Lib.hid U;have HGD:=Lib.hid gd;have HFE:=Lib.hid hF;have HM:=Lib.hid hM;have HN:=Lib.hid hN;have HGF:=Lib.hid hGF;have HOL:=Lib.hid hol;have HWB:=Lib.hid hb
 have hNb:N≤1000000:=by omega
 have hM1:1≤M:=by omega
 have hM2:M≤65535:=by omega
 clear U gd hF hM hN hGF hol hb hs
 go_enter Tryz.func29,Tryz.ntmps29
 go_wp2_with fail
 go_loopw [] (fun wr=>∃(q:Prs) (o:List Nat) (Ah:Option Addr) (hc:Nat) (Aw:Option Addr) (wc:Nat) (Ap:Option Addr) (pc:Nat) (Ao:Option Addr) (oc:Nat),Hid (Und wr B g q o Ah hc Aw wc Ap pc Ao oc)∧Hid (GoodW q)∧Hid (q.m=(M:Int))∧Hid (q.wait.length≤N)∧Hid (o.length+10*q.wait.length≤80000000)∧Hid ((wrtP N q q.wait).1=F.1∧o++(wrtP N q q.wait).2=out++F.2)∧Hid (Below B w wr)) (fun wr=>lenS ((wr.cell? ⟨g,5,none⟩).getD (.int .i64 0)))
 case atStart=>exact⟨p,out,Ah,hc,Aw,wc,Ap,pc,Ao,oc,HU,HGD,HM,Lib.hid (by have:=HN.out;omega),HOL,Lib.hid (by rw[HFE.out];exact⟨rfl,rfl⟩),Lib.hid (Below.refl _ _)⟩
 case round=>
  clear HU HGD HFE HM HOL HWB HN
  obtain⟨q,o,Ah,hc,Aw,wc,Ap,pc,Ao,oc,HU,HGD,HM,HWN,HOL,HEQ,HB⟩:=hrel
  obtain⟨hn,hhn⟩:∃x,x=q.hist.length:=⟨_,rfl⟩
  obtain⟨wn,hwn⟩:∃x,x=q.wait.length:=⟨_,rfl⟩
  obtain⟨pn,hpnn⟩:∃x,x=q.pen.length:=⟨_,rfl⟩
  obtain⟨on,hon⟩:∃x,x=o.length:=⟨_,rfl⟩
  have hx:=HU.out.box
  have eX:pgA q Ah hc Aw wc Ap pc Ao o.length oc=#[.int .i64 q.s,.int .i64 q.h,.int .i64 (M:Int),.bool q.z,.slice Ah hn hc,.slice Aw wn wc,.slice Ap pn pc,.int .i64 q.k,.bool q.over,(.slice Ao on oc)]:=by
   unfold pgA;rw[←hhn,←hwn,←hpnn,HM.out,←hon]
  rw[eX]at hx
  have HX:=Lib.hid hx
  have HLE:=Lib.hid HU.out.le
  have hc5:lenS ((wr.cell? ⟨g,5,none⟩).getD (.int .i64 0))=wn:=by rw[show wr.cell? ⟨g,5,none⟩=some (.slice Aw wn wc)from hx.cell.trans rfl];rfl
  have HC5:=Lib.hid hc5
  clear hx eX hc5
  by_cases hge:M≤wn
  ·have GE:Hid (∀V:World,(binOp .geq 3 (.int .i64 (wn:Int)) (.int .i64 (M:Int))).run Tryz.prog V=.ok (.bool true) V):=Lib.hid fun V=>geq_yes _ _ _ _ (by omega) V
   have hmt:q.m.toNat=M:=by rw[HM.out];exact Int.toNat_natCast _
   have hst:=wrtP_step (p:=q) (N:=N) HGD.out.sty HWN.out (by rw[hmt,←hwn];exact hge)
   rw[hmt]at hst
   obtain⟨r,hr⟩:∃r,r=sendP q (bstP q (q.wait.take M)) M (tkP q (q.wait.take M)) false:=⟨_,rfl⟩
   have hgr:GoodW r.1:=by rw[hr];exact sendP_good HGD.out _ _ _ _
   have hml:r.2.length≤6+M:=by
    have:=send_most HGD.out (raw:=q.wait.take M) (n:=M) rfl
    rw[←hr,List.length_take]at this
    omega
   have hrw:r.1.wait=q.wait.drop M:=by rw[hr];rfl
   have hrm:r.1.m=q.m:=by rw[hr];rfl
   rw[←hr,←hrw]at hst
   have hrl:r.1.wait.length=wn-M:=by rw[hrw,List.length_drop,←hwn]
   have hbest:=fun V (hV:Below wr.heap.size wr V)=>pbest_any V B g q o Ah hc Aw wc Ap pc Ao oc (HU.out.below hV) HGD.out M (by rw[←hwn];exact hge) hM2 (by have:=HWN.out;omega) (by have:=HOL.out;omega) false
   rw[←hr]at hbest
   have HBS:=Lib.hid hbest;have HST:=Lib.hid hst;have HGR:=Lib.hid hgr;have HML:=Lib.hid hml;have HRL:=Lib.hid hrl;have HRM:=Lib.hid hrm
   have HGE:=Lib.hid hge;have HHN:=Lib.hid hhn;have HWNN:=Lib.hid hwn;have HON:=Lib.hid hon
   clear hbest hst hgr hml hrl hrm hrw hr hmt hge hhn hwn hpnn hon
   go_wp2_with fail
   refine wp_region_tab (tabT [fun v _=>v=.pointer (some ⟨g,0,none⟩),fun v _=>v=.pointer (some ⟨g,0,none⟩),fun v _=>v=.pointer (some ⟨g,0,none⟩),fun v _=>v=.pointer (some ⟨g,5,none⟩),fun v _=>v=.slice Aw wn wc,fun v _=>v=.int .i64 (wn:Int),fun v _=>v=.pointer (some ⟨g,0,none⟩),fun v _=>v=.pointer (some ⟨g,0,none⟩),fun v _=>v=.pointer (some ⟨g,0,none⟩),fun v _=>v=.pointer (some ⟨g,0,none⟩),fun v _=>v=.pointer (some ⟨g,2,none⟩),fun v _=>v=.int .i64 (M:Int),fun v _=>v=.bool true]) wr (Below.refl _ _) (by kernel_rfl) (by kernel_rfl) ?_ ?_
   case refine_1=>
    refine TabAll.cons (fun aa wv hb ha hS Kk Qq hK=>tab_move (tab_free rfl) _ rfl (up_eq ((ha 0 (by kernel_rfl)).trans rfl)) hK) ?_
    refine TabAll.cons (fun aa wv hb ha hS Kk Qq hK=>tab_nil (tab_free rfl) _ rfl _ (show aa.eval (.tmp 2)=.pointer (some ⟨g,0,none⟩)from(hS 0 2 (by kernel_rfl) rfl).here) (up_eq rfl) hK) ?_
    refine TabAll.cons (fun aa wv hb ha hS Kk Qq hK=>tab_field (tab_free rfl) _ _ _ rfl _ (.pointer (some ⟨g,0,none⟩)) (show aa.eval (.tmp 3)=.pointer (some ⟨g,0,none⟩)from(hS 1 3 (by kernel_rfl) rfl).here) (by go_simp) (up_eq rfl) hK) ?_
    refine TabAll.cons (fun aa wv hb ha hS Kk Qq hK=>tab_field (tab_free rfl) _ _ _ rfl _ (.pointer (some ⟨g,5,none⟩)) (show aa.eval (.tmp 4)=.pointer (some ⟨g,0,none⟩)from(hS 2 4 (by kernel_rfl) rfl).here) (by go_simp) (up_eq rfl) hK) ?_
    refine TabAll.cons (fun aa wv hb ha hS Kk Qq hK=>tab_load (tab_free rfl) _ _ rfl _ (.slice Aw wn wc) (show aa.eval (.tmp 5)=.pointer (some ⟨g,5,none⟩)from(hS 3 5 (by kernel_rfl) rfl).here) (by have hc:wv.cell? ⟨g,5,none⟩=some (.slice Aw wn wc):=(HX.out.below hb HX.out.lt).cell.trans rfl;go_simp) (up_eq rfl) hK) ?_
    refine TabAll.cons (fun aa wv hb ha hS Kk Qq hK=>tab_len (tab_free rfl) _ _ rfl Aw wn wc (show aa.eval (.tmp 6)=.slice Aw wn wc from(hS 4 6 (by kernel_rfl) rfl).here) Tryz.underlying22 (up_eq rfl) hK) ?_
    refine TabAll.cons (fun aa wv hb ha hS Kk Qq hK=>tab_move (tab_free rfl) _ rfl (up_eq ((ha 0 (by kernel_rfl)).trans rfl)) hK) ?_
    refine TabAll.cons (fun aa wv hb ha hS Kk Qq hK=>tab_nil (tab_free rfl) _ rfl _ (show aa.eval (.tmp 8)=.pointer (some ⟨g,0,none⟩)from(hS 6 8 (by kernel_rfl) rfl).here) (up_eq rfl) hK) ?_
    refine TabAll.cons (fun aa wv hb ha hS Kk Qq hK=>tab_field (tab_free rfl) _ _ _ rfl _ (.pointer (some ⟨g,0,none⟩)) (show aa.eval (.tmp 9)=.pointer (some ⟨g,0,none⟩)from(hS 7 9 (by kernel_rfl) rfl).here) (by go_simp) (up_eq rfl) hK) ?_
    refine TabAll.cons (fun aa wv hb ha hS Kk Qq hK=>tab_field (tab_free rfl) _ _ _ rfl _ (.pointer (some ⟨g,0,none⟩)) (show aa.eval (.tmp 10)=.pointer (some ⟨g,0,none⟩)from(hS 8 10 (by kernel_rfl) rfl).here) (by go_simp) (up_eq rfl) hK) ?_
    refine TabAll.cons (fun aa wv hb ha hS Kk Qq hK=>tab_field (tab_free rfl) _ _ _ rfl _ (.pointer (some ⟨g,2,none⟩)) (show aa.eval (.tmp 11)=.pointer (some ⟨g,0,none⟩)from(hS 9 11 (by kernel_rfl) rfl).here) (by go_simp) (up_eq rfl) hK) ?_
    refine TabAll.cons (fun aa wv hb ha hS Kk Qq hK=>tab_load (tab_free rfl) _ _ rfl _ (.int .i64 (M:Int)) (show aa.eval (.tmp 12)=.pointer (some ⟨g,2,none⟩)from(hS 10 12 (by kernel_rfl) rfl).here) (by have hc:wv.cell? ⟨g,2,none⟩=some (.int .i64 (M:Int)):=(HX.out.below hb HX.out.lt).cell.trans rfl;go_simp) (up_eq rfl) hK) ?_
    refine TabAll.cons (fun aa wv hb ha hS Kk Qq hK=>tab_bin (tab_free rfl) _ _ _ _ _ rfl _ _ (.bool true) (show aa.eval (.tmp 7)=.int .i64 (wn:Int)from(hS 5 7 (by kernel_rfl) rfl).here) (show aa.eval (.tmp 13)=.int .i64 (M:Int)from(hS 11 13 (by kernel_rfl) rfl).here) (eqg_no _ _ _ _ _ _ _ (by decide) (by decide) _) (GE.out wv) (up_eq rfl) hK) ?_
    exact TabAll.nil
   intro vals w5 hb hv
   have e14:vals 14=.bool true:=(hv 12 14 rfl).here
   have x5:=HX.out.below hb HX.out.lt
   have s2:w5.cell? ⟨g,2,none⟩=some (.int .i64 (M:Int)):=x5.cell.trans rfl
   have HB5:=Lib.hid (HB.out.trans (hb.mono (by have:=HLE.out;have:=HU.out.lt;omega)))
   have HS5:=Lib.hid (HBS.out w5 hb)
   clear x5 hb hv
   simp only[List.map_cons,List.map_nil,putL,Act.put,List.setIfInBounds_toArray,List.set_cons_zero,List.set_cons_succ,e14]
   clear e14
   go_wp2_with fail
   refine HS5.out.mono ?_
   rintro e w6 ⟨rfl,⟨A1,k1,A2,k2,A3,k3,A4,k4,U6⟩,hb6⟩
   have hc6:lenS ((w6.cell? ⟨g,5,none⟩).getD (.int .i64 0))=r.1.wait.length:=by rw[show w6.cell? ⟨g,5,none⟩=some (.slice A2 r.1.wait.length k2)from U6.box.cell.trans rfl];rfl
   have HC6:=Lib.hid hc6
   have HU6:=Lib.hid U6;have HB6:=Lib.hid (HB5.out.trans hb6)
   clear U6 hb6 hc6 s2
   go_wp2
   go_roundw
   case rel=>
    have h1:=HST.out;have h2:=HEQ.out;have h3:=HRL.out;have h4:=HML.out;have h5:=HOL.out;have h6:=HWN.out;have h7:=HWNN.out;have h8:=HGE.out
    refine⟨r.1,o++r.2,A1,k1,A2,k2,A3,k3,A4,k4,HU6,HGR,Lib.hid (HRM.out.trans HM.out),Lib.hid (by omega),Lib.hid (by rw[List.length_append];omega),Lib.hid ?_,HB6⟩
    rw[h1]at h2
    exact⟨h2.1,by rw[List.append_assoc];exact h2.2⟩
   case measure=>
    have h8:=HGE.out;rw[HC6.out,HC5.out,HRL.out];omega
  ·have GE:Hid (∀V:World,(binOp .geq 3 (.int .i64 (wn:Int)) (.int .i64 (M:Int))).run Tryz.prog V=.ok (.bool false) V):=Lib.hid fun V=>geq_not _ _ _ _ (by omega) V
   have hmt:q.m.toNat=M:=by rw[HM.out];exact Int.toNat_natCast _
   have hst:=wrtP_end (p:=q) (N:=N) (by rw[hmt,←hwn];exact hge)
   have HST:=Lib.hid hst
   clear hst hmt hge hhn hwn hpnn hon
   go_wp2_with fail
   refine wp_region_tab (tabT [fun v _=>v=.pointer (some ⟨g,0,none⟩),fun v _=>v=.pointer (some ⟨g,0,none⟩),fun v _=>v=.pointer (some ⟨g,0,none⟩),fun v _=>v=.pointer (some ⟨g,5,none⟩),fun v _=>v=.slice Aw wn wc,fun v _=>v=.int .i64 (wn:Int),fun v _=>v=.pointer (some ⟨g,0,none⟩),fun v _=>v=.pointer (some ⟨g,0,none⟩),fun v _=>v=.pointer (some ⟨g,0,none⟩),fun v _=>v=.pointer (some ⟨g,0,none⟩),fun v _=>v=.pointer (some ⟨g,2,none⟩),fun v _=>v=.int .i64 (M:Int),fun v _=>v=.bool false]) wr (Below.refl _ _) (by kernel_rfl) (by kernel_rfl) ?_ ?_
   case refine_1=>
    refine TabAll.cons (fun aa wv hb ha hS Kk Qq hK=>tab_move (tab_free rfl) _ rfl (up_eq ((ha 0 (by kernel_rfl)).trans rfl)) hK) ?_
    refine TabAll.cons (fun aa wv hb ha hS Kk Qq hK=>tab_nil (tab_free rfl) _ rfl _ (show aa.eval (.tmp 2)=.pointer (some ⟨g,0,none⟩)from(hS 0 2 (by kernel_rfl) rfl).here) (up_eq rfl) hK) ?_
    refine TabAll.cons (fun aa wv hb ha hS Kk Qq hK=>tab_field (tab_free rfl) _ _ _ rfl _ (.pointer (some ⟨g,0,none⟩)) (show aa.eval (.tmp 3)=.pointer (some ⟨g,0,none⟩)from(hS 1 3 (by kernel_rfl) rfl).here) (by go_simp) (up_eq rfl) hK) ?_
    refine TabAll.cons (fun aa wv hb ha hS Kk Qq hK=>tab_field (tab_free rfl) _ _ _ rfl _ (.pointer (some ⟨g,5,none⟩)) (show aa.eval (.tmp 4)=.pointer (some ⟨g,0,none⟩)from(hS 2 4 (by kernel_rfl) rfl).here) (by go_simp) (up_eq rfl) hK) ?_
    refine TabAll.cons (fun aa wv hb ha hS Kk Qq hK=>tab_load (tab_free rfl) _ _ rfl _ (.slice Aw wn wc) (show aa.eval (.tmp 5)=.pointer (some ⟨g,5,none⟩)from(hS 3 5 (by kernel_rfl) rfl).here) (by have hc:wv.cell? ⟨g,5,none⟩=some (.slice Aw wn wc):=(HX.out.below hb HX.out.lt).cell.trans rfl;go_simp) (up_eq rfl) hK) ?_
    refine TabAll.cons (fun aa wv hb ha hS Kk Qq hK=>tab_len (tab_free rfl) _ _ rfl Aw wn wc (show aa.eval (.tmp 6)=.slice Aw wn wc from(hS 4 6 (by kernel_rfl) rfl).here) Tryz.underlying22 (up_eq rfl) hK) ?_
    refine TabAll.cons (fun aa wv hb ha hS Kk Qq hK=>tab_move (tab_free rfl) _ rfl (up_eq ((ha 0 (by kernel_rfl)).trans rfl)) hK) ?_
    refine TabAll.cons (fun aa wv hb ha hS Kk Qq hK=>tab_nil (tab_free rfl) _ rfl _ (show aa.eval (.tmp 8)=.pointer (some ⟨g,0,none⟩)from(hS 6 8 (by kernel_rfl) rfl).here) (up_eq rfl) hK) ?_
    refine TabAll.cons (fun aa wv hb ha hS Kk Qq hK=>tab_field (tab_free rfl) _ _ _ rfl _ (.pointer (some ⟨g,0,none⟩)) (show aa.eval (.tmp 9)=.pointer (some ⟨g,0,none⟩)from(hS 7 9 (by kernel_rfl) rfl).here) (by go_simp) (up_eq rfl) hK) ?_
    refine TabAll.cons (fun aa wv hb ha hS Kk Qq hK=>tab_field (tab_free rfl) _ _ _ rfl _ (.pointer (some ⟨g,0,none⟩)) (show aa.eval (.tmp 10)=.pointer (some ⟨g,0,none⟩)from(hS 8 10 (by kernel_rfl) rfl).here) (by go_simp) (up_eq rfl) hK) ?_
    refine TabAll.cons (fun aa wv hb ha hS Kk Qq hK=>tab_field (tab_free rfl) _ _ _ rfl _ (.pointer (some ⟨g,2,none⟩)) (show aa.eval (.tmp 11)=.pointer (some ⟨g,0,none⟩)from(hS 9 11 (by kernel_rfl) rfl).here) (by go_simp) (up_eq rfl) hK) ?_
    refine TabAll.cons (fun aa wv hb ha hS Kk Qq hK=>tab_load (tab_free rfl) _ _ rfl _ (.int .i64 (M:Int)) (show aa.eval (.tmp 12)=.pointer (some ⟨g,2,none⟩)from(hS 10 12 (by kernel_rfl) rfl).here) (by have hc:wv.cell? ⟨g,2,none⟩=some (.int .i64 (M:Int)):=(HX.out.below hb HX.out.lt).cell.trans rfl;go_simp) (up_eq rfl) hK) ?_
    refine TabAll.cons (fun aa wv hb ha hS Kk Qq hK=>tab_bin (tab_free rfl) _ _ _ _ _ rfl _ _ (.bool false) (show aa.eval (.tmp 7)=.int .i64 (wn:Int)from(hS 5 7 (by kernel_rfl) rfl).here) (show aa.eval (.tmp 13)=.int .i64 (M:Int)from(hS 11 13 (by kernel_rfl) rfl).here) (eqg_no _ _ _ _ _ _ _ (by decide) (by decide) _) (GE.out wv) (up_eq rfl) hK) ?_
    exact TabAll.nil
   intro vals w5 hb hv
   have e14:vals 14=.bool false:=(hv 12 14 rfl).here
   have U5:=HU.out.below hb
   have HB5:=Lib.hid (HB.out.trans (hb.mono (by have:=HLE.out;have:=HU.out.lt;omega)))
   have HU5:=Lib.hid U5
   clear hb hv U5
   simp only[List.map_cons,List.map_nil,putL,Act.put,List.setIfInBounds_toArray,List.set_cons_zero,List.set_cons_succ,e14]
   clear e14
   go_wp2
   go_end0
   have h2:=HEQ.out
   rw[HST.out]at h2
   refine⟨rfl,⟨Ah,hc,Aw,wc,Ap,pc,Ao,oc,?_⟩,HGF.out,HB5.out⟩
   rw[←h2.1,←h2.2,List.append_nil]
   exact HU5.out
end Go.Proofs.YtokpcpjnihinfaaGreat
namespace Go.Proofs.YtokpcpjnihinfaaGreat
open Go.RowKit Go.ChangeShapes Go.WideShapes Go.ChangeAt Go.Joins
theorem pfinish_any(w:World)(B g:Nat)(p:Prs)(out:List Nat)(Ah:Option Addr)(hc:Nat)(Aw:Option Addr)(wc:Nat)(Ap:Option Addr)(pc:Nat)(Ao:Option Addr)(oc:Nat)(U:Und w B g p out Ah hc Aw wc Ap pc Ao oc)(gd:GoodW p)(hb:p.wait.length≤65535)(hol:out.length≤80000000):
  Calls Tryz.prog 30 #[.pointer (some ⟨g,0,none⟩)] w fun e w'=>e=.returned (.tuple #[])∧(∃Ah' hc' Aw' wc' Ap' pc' Ao' oc',Und w' B g (finP p).1 (out++(finP p).2) Ah' hc' Aw' wc' Ap' pc' Ao' oc')∧Below B w w':=by
 have hbest:=pbest_any w B g p out Ah hc Aw wc Ap pc Ao oc U gd p.wait.length (Nat.le_refl _) hb (by omega) (by omega) true
 rw[List.take_length]at hbest
 obtain⟨q,hq⟩:∃q,q=sendP p (bstP p p.wait) p.wait.length (tkP p p.wait) true:=⟨_,rfl⟩
 have hfin:=fin_is q hq
 have hgq:GoodW q.1:=by rw[hq];exact sendP_good gd _ _ _ _
 have hql:q.2.length≤4000000:=by
  have t:=tkP_ok gd.sty gd.bh gd.bw
  have hle:=putP_le (k:=p.k.toNat) (kind:=bstP p p.wait) (raw:=p.wait) (l:=tkP p p.wait) (last:=true) (bstP_le _ _) (by have:=gd.k7;omega) hb gd.bw (by omega) t.2
  have e:q.2=(putP p.pen p.k.toNat (bstP p p.wait) p.wait (tkP p p.wait) true).1.take ((putP p.pen p.k.toNat (bstP p p.wait) p.wait (tkP p p.wait) true).2/8):=by
   rw[hq];unfold sendP;rw[List.take_length];rfl
  rw[e,List.length_take]
  have hle2:(putP p.pen p.k.toNat (bstP p p.wait) p.wait (tkP p p.wait) true).2≤4320007:=hle
  omega
 rw[←hq]at hbest
 rw[hfin]
 obtain⟨wn,hwn⟩:∃x,x=p.wait.length:=⟨_,rfl⟩
 have c5:w.cell? ⟨g,5,none⟩=some (.slice Aw wn wc):=by rw[hwn];exact U.box.cell.trans rfl
 rw[←hwn]at hbest
 have HBS:=Lib.hid hbest;have HGQ:=Lib.hid hgq;have HOL:=Lib.hid hol;have HQL:=Lib.hid hql;have HLE:=Lib.hid U.le
 clear U gd hb hol hbest hq hfin hgq hql hwn
 go_enter Tryz.func30,Tryz.ntmps30
 go_wp2_with fail
 refine HBS.out.mono ?_
 rintro e w2 ⟨rfl,⟨A1,k1,A2,k2,A3,k3,A4,k4,U2⟩,hb2⟩
 obtain⟨pn,hpn⟩:∃x,x=q.1.pen.length:=⟨_,rfl⟩
 obtain⟨K,hk⟩:∃K:Nat,q.1.k=(K:Int):=⟨q.1.k.toNat,by have:=HGQ.out.k0;omega⟩
 have hpv:=U2.pen
 have hpe:=penB_good HGQ.out
 have hz:=zext_lst q.1.pen
 have hpl:pn=(K+7)/8:=by rw[hpn,HGQ.out.len,hk,Int.toNat_natCast]
 have hK7:K≤7:=by have:=HGQ.out.k7;omega
 have hpl1:pn≤1:=by omega
 rw[←hpn,hk]at hpe
 rw[←hpn]at hpv hz
 have hal:=align_ok w2 A3 pn k3 (lst q.1.pen) K hpv.1 (by unfold penE;rw[if_pos hpe])
 rw[hz]at hal
 have hx2:=U2.box
 have HRG:Hid (w2.rangeAt g 6 [.slice A3 pn k3,.int .i64 (K:Int)]):=Lib.hid (rangeMid hx2 6 _ (fun i hi=>by
  rcases i with _|_|i
  ·rw[hpn];rfl
  ·rw[←hk];rfl
  ·simp at hi;omega))
 have HAL:=Lib.hid hal;have HU2:=Lib.hid U2;have HB2:=Lib.hid hb2;have HPN:=Lib.hid hpn;have HK:=Lib.hid hk;have HPB:=Lib.hid (bytes_of U2.pen)
 clear hal U2 hb2 hpv hpe hz hpl hpn hk hx2 c5
 go_wp2_with (first
  |(refine wpList_load_mid rfl _ _ rfl g 6 rfl [.slice A3 pn k3,.int .i64 (K:Int)] _ HRG.out Tryz.underlying30 rfl (szPen11L _ _) ?_)
  |fail)
 refine HAL.out.mono ?_
 rintro e w3 ⟨gn,rfl,hgn,hb3,hrow⟩
 have U3:=HU2.out.below hb3
 have hx3:=U3.box
 have s6:w3.cell? ⟨g,6,none⟩=some (.slice A3 pn k3):=by rw[HPN.out];exact hx3.cell.trans rfl
 have s7:w3.cell? ⟨g,7,none⟩=some (.int .i64 (K:Int)):=by rw[←HK.out];exact hx3.cell.trans rfl
 have f6:w3.frozen? ⟨g,6,none⟩=false:=hx3.free
 have f7:w3.frozen? ⟨g,7,none⟩=false:=hx3.free
 obtain⟨W4,hW4⟩:∃W,W=(w3.setCell ⟨g,6,none⟩ (.slice (some ⟨gn,0,none⟩) pn pn)).setCell ⟨g,7,none⟩ (.int .i64 ((8*pn:Nat):Int)):=⟨_,rfl⟩
 have hrr:ByR w3 w3.heap.size (some ⟨gn,0,none⟩) pn pn (lst q.1.pen):=⟨Row.rd hrow (lst_lt HPB.out),(fun h=>by cases h),Nat.le_refl _,by unfold maxLen;omega⟩
 have nn:NoIn (some ⟨gn,0,none⟩) pn (.slice A4 (out++q.2).length k4):=fun b o h0 e hx=>by
  injection e with e
  injection e with e1 _ _
  have h2:=(own_blk_lt HU2.out.own b hx).2
  omega
 have U4:Und W4 B g {q.1 with k:=((8*pn:Nat):Int)} (out++q.2) A1 k1 A2 k2 (some ⟨gn,0,none⟩) pn A4 k4:=by
  rw[hW4]
  refine U3.set2 (p':={q.1 with k:=((8*pn:Nat):Int)}) 6 7 _ _ (by unfold pgA;simp only[←HPN.out];rfl) U3.row U3.wait ?_ U3.nr U3.nw ?_
  ·show ByR w3 _ _ q.1.pen.length pn _;rw[←HPN.out];exact hrr
  ·show NoIn _ q.1.pen.length _;rw[←HPN.out];exact nn
 have hga:=gather_any W4 B g {q.1 with k:=((8*pn:Nat):Int)} (out++q.2) A1 k1 A2 k2 (some ⟨gn,0,none⟩) pn A4 k4 U4 (8*pn) rfl (by have:=HPN.out;have:=HGQ.out.len;have:=HGQ.out.k7;omega) (by show 8*pn/8≤q.1.pen.length;have:=HPN.out;omega) (by have:=HOL.out;have:=HQL.out;rw[List.length_append];omega)
 rw[show 8*pn/8=pn by omega,show 8*pn%8=0 by omega]at hga
 rw[show((8*pn:Nat):Int)=8*(pn:Int) by omega]at hW4
 have HG:=Lib.hid hga;have HW4:=Lib.hid hW4
 have HB4:Hid (Below B w W4):=Lib.hid (by rw[HW4.out];exact below_cell (below_cell (HB2.out.trans (hb3.mono (by have:=HLE.out;have:=HU2.out.lt;omega))) HLE.out _ _) HLE.out _ _)
 clear hga hW4 U4 nn hrr hx3 U3 hb3 hrow hgn HRG
 go_wp2_with (first|(rw[←HW4.out])|fail)
 refine HG.out.mono ?_
 rintro e w5 ⟨rfl,⟨A5,k5,A6,k6,U5⟩,hb5⟩
 have ed:({q.1 with k:=((8*pn:Nat):Int)}:Prs).pen.drop pn=[]:=by show q.1.pen.drop pn=[];rw[HPN.out,List.drop_length]
 have et:({q.1 with k:=((8*pn:Nat):Int)}:Prs).pen.take pn=q.1.pen:=by show q.1.pen.take pn=_;rw[HPN.out,List.take_length]
 rw[ed,et]at U5
 have hx5:=U5.box
 have t8:w5.cell? ⟨g,8,none⟩=some (.bool q.1.over):=hx5.cell.trans rfl
 have f8:w5.frozen? ⟨g,8,none⟩=false:=hx5.free
 obtain⟨W6,hW6⟩:∃W,W=w5.setCell ⟨g,8,none⟩ (.bool true):=⟨_,rfl⟩
 have U6:Und W6 B g {q.1 with pen:=[],k:=0,over:=true} ((out++q.2)++q.1.pen) A1 k1 A2 k2 A5 k5 A6 k6:=by
  rw[hW6]
  exact U5.set1 (p':={q.1 with pen:=[],k:=0,over:=true}) 8 _ (by unfold pgA;rfl) U5.row U5.wait U5.pen U5.nr U5.nw U5.np
 rw[List.append_assoc]at U6
 have HU6:=Lib.hid U6;have HW6:=Lib.hid hW6
 have HB6:Hid (Below B w W6):=Lib.hid (by rw[hW6];exact below_cell (HB4.out.trans hb5) HLE.out _ _)
 clear U6 U5 hW6 hb5 ed et hx5 s6 s7 f6 f7
 go_wp2_with (rw[←HW6.out])
 go_end0
 exact⟨rfl,⟨_,_,_,_,_,_,_,_,HU6.out⟩,HB6.out⟩
end Go.Proofs.YtokpcpjnihinfaaGreat
namespace Go.Proofs.YtokpcpjnihinfaaGreat
open Go.RowKit Go.ChangeShapes Go.WideShapes Go.ChangeAt Go.Joins
def tryA(k n:Nat):Array Value:=#[.int .u8 (k:Int),.int .i64 (n:Int)]
theorem szTry(k n:Nat):(Tryz.prog.info? 102).map (·.size)=some (tryA k n).size:=by unfold tryA;kernel_rfl
theorem szTryL(k n:Nat):(Tryz.prog.info? 102).map (·.size)=some ([.int .u8 (k:Int),.int .i64 (n:Int)]:List Value).length:=by kernel_rfl
theorem try_one(k n:Nat):(tryA k n).all (·.oneCell')=true:=by simp[tryA,Value.oneCell']
theorem built_try(k n:Nat):Tryz.prog.built 102 [(0,.int .u8 (k:Int)),(1,.int .i64 (n:Int))]=some (tryA k n):=by unfold tryA;kernel_rfl
theorem zero_try:(Tryz.prog.info? 102).map (fun i=>(i.zero,i.size))=some (some (.agg (tryA 0 0)),2):=by kernel_rfl
theorem results_try{fn:Func}{p:Tmp}(h:fn.results=#[.cell p 102])(tmps:Array Value)(w:World)(g:Nat)(k n:Nat)(hp:tmps.getD p undef=.pointer (some ⟨g,0,none⟩))(ht:BoxC w g (tryA k n) 102):
  (results fn tmps).run Tryz.prog w=.ok (.agg (tryA k n)) w:=by
 have hp':tmps[p]?.getD undef=.pointer (some ⟨g,0,none⟩):=by simpa using hp
 have hl:=run_loadVar_row (P:=Tryz.prog) w g 102 102 (tryA k n) (0,0) _ ht Tryz.underlying102 rfl (szTry _ _)
 simp[results,h,hp',asAddr,hl]
theorem with_any(w:World)(B g:Nat)(p:Prs)(out:List Nat)(Ah:Option Addr)(hc:Nat)(Aw:Option Addr)(wc:Nat)(Ap:Option Addr)(pc:Nat)(Ao:Option Addr)(oc:Nat)(U:Und w B g p out Ah hc Aw wc Ap pc Ao oc)(gd:GoodW p)(hb:p.wait.length≤65535)(kind:Nat)(hk2:kind≤2)(A2:Option Addr)(t c2:Nat)(l:List Tok)(ht:TkR w w.heap.size A2 t c2 l)(hl:l.length≤65535)(hok:∀t∈l,mayT t=true∧t.x<256):
  Calls Tryz.prog 68 #[.pointer (some ⟨g,0,none⟩),.int .u8 (kind:Int),.slice A2 t c2] w fun e w'=>e=.returned (.agg (tryA kind (withP p l kind)))∧Below w.heap.size w w':=by
 obtain⟨h,hh⟩:∃h,h=w.heap.size:=⟨_,rfl⟩
 obtain⟨K,hk⟩:∃K:Nat,p.k=(K:Int):=⟨p.k.toNat,by have:=gd.k0;omega⟩
 have hkt:p.k.toNat=K:=by omega
 have hK7:K≤7:=by have:=gd.k7;omega
 obtain⟨LB,hLB⟩:∃x,x=bitsT (blkP K kind p.wait.length (lst p.wait) l false):=⟨_,rfl⟩
 have hLB2:LB≤4320000:=by rw[hLB];exact blkP_bits hk2 hb (lst_lt gd.bw) hl hok
 have eW:withP p l kind=K+LB:=by unfold withP;rw[hkt,←hLB]
 have tin:∀t∈l,TokIn t:=fun t ht=>tokIn_may (hok t ht).1 (hok t ht).2
 obtain⟨W1,hW1⟩:∃W,W=w.alloc (.cells (tryA 0 0) 102):=⟨_,rfl⟩
 have b1:Below h w W1:=by rw[hW1,hh];exact(Below.refl _ _).alloc (Nat.le_refl _) _
 have z1:BoxC W1 h (tryA 0 0) 102:=by rw[hW1,hh];exact BoxC.new w _ _
 have U1:=U.below (hh▸b1)
 have LO:Hid (∀V,Below W1.heap.size W1 V→Calls Tryz.prog 91 #[.int .i64 (K:Int),.int .u8 (kind:Int),.slice Aw p.wait.length wc,.slice A2 t c2] V fun e w'=>e=.returned (.tuple #[.int .i64 (LB:Int),.int .i64 0])∧Below V.heap.size V w'):=Lib.hid fun V hV=>by
  have hb0:Below w.heap.size w V:=(hh▸b1).trans (hV.mono (by have:=(hh▸b1:Below w.heap.size w W1).size;omega))
  have h1:=long_con V (K:Int) kind Aw p.wait.length wc (lst p.wait) A2 t c2 l (by omega) (by omega) (by omega) (U1.below hV).wait (by omega) ((ht.below hb0 (Nat.le_refl _)).more hb0.size) (by have:=ht.1;omega) tin
  have hE:=long_ok (a:=K) hK7 hk2 hb hl hok
  have hV2:lngV (K:Int) kind p.wait.length (lst p.wait) l=LB:=by unfold lngV;rw[hE,if_pos rfl,hLB,Int.toNat_natCast]
  rw[hE,hV2]at h1
  exact h1
 obtain⟨hn,hhn⟩:∃x,x=p.hist.length:=⟨_,rfl⟩
 obtain⟨wn,hwn⟩:∃x,x=p.wait.length:=⟨_,rfl⟩
 obtain⟨pn,hpnn⟩:∃x,x=p.pen.length:=⟨_,rfl⟩
 obtain⟨on,hon⟩:∃x,x=out.length:=⟨_,rfl⟩
 have eX:pgA p Ah hc Aw wc Ap pc Ao out.length oc=#[.int .i64 p.s,.int .i64 p.h,.int .i64 p.m,.bool p.z,.slice Ah hn hc,.slice Aw wn wc,.slice Ap pn pc,.int .i64 (K:Int),.bool p.over,(.slice Ao on oc)]:=by
  unfold pgA;rw[←hhn,←hwn,←hpnn,hk,←hon]
 have hx:=U1.box
 rw[eX]at hx
 rw[←hwn]at LO
 rw[eW]
 have hz:=(zero_of_info zero_try).1
 have HX:=Lib.hid hx;have HW1:=Lib.hid hW1;have HH:=Lib.hid hh;have HB1:=Lib.hid b1;have HZ1:=Lib.hid z1;have HLT:Hid (h<W1.heap.size):=Lib.hid z1.lt
 clear U gd hb hk2 ht hl hok hkt hk hLB eW tin hW1 b1 z1 U1 hhn hwn hpnn hon eX hx hh
 go_enter Tryz.func68,Tryz.ntmps68
 go_wp2_with (first|(rw[←HW1.out,←HH.out])|fail)
 refine wp_region_tab (tabT [fun v _=>v=.pointer (some ⟨g,0,none⟩),fun v _=>v=.pointer (some ⟨g,0,none⟩),fun v _=>v=.pointer (some ⟨g,0,none⟩),fun v _=>v=.pointer (some ⟨g,6,none⟩),fun v _=>v=.pointer (some ⟨g,7,none⟩),fun v _=>v=.int .i64 (K:Int),fun v _=>v=.int .u8 (kind:Int),fun v _=>v=.pointer (some ⟨g,0,none⟩),fun v _=>v=.pointer (some ⟨g,0,none⟩),fun v _=>v=.pointer (some ⟨g,0,none⟩),fun v _=>v=.pointer (some ⟨g,5,none⟩),fun v _=>v=.slice Aw wn wc,fun v _=>v=.slice A2 t c2,fun v _=>v=.tuple #[.int .i64 (LB:Int),.int .i64 0],fun v _=>v=.tuple #[.int .i64 (LB:Int),.int .i64 0],fun v _=>v=.int .i64 (LB:Int),fun v _=>v=.int .i64 0,fun v _=>v=.int .i64 (LB:Int),fun v _=>v=.int .i64 0]) W1 (Below.refl _ _) (by kernel_rfl) (by kernel_rfl) ?_ ?_
 case refine_1=>
  refine TabAll.cons (fun aa wv hb ha hS Kk Qq hK=>tab_move (tab_free rfl) _ rfl (up_eq ((ha 0 (by kernel_rfl)).trans rfl)) hK) ?_
  refine TabAll.cons (fun aa wv hb ha hS Kk Qq hK=>tab_nil (tab_free rfl) _ rfl _ (show aa.eval (.tmp 10)=.pointer (some ⟨g,0,none⟩)from(hS 0 10 (by kernel_rfl) rfl).here) (up_eq rfl) hK) ?_
  refine TabAll.cons (fun aa wv hb ha hS Kk Qq hK=>tab_field (tab_free rfl) _ _ _ rfl _ (.pointer (some ⟨g,0,none⟩)) (show aa.eval (.tmp 11)=.pointer (some ⟨g,0,none⟩)from(hS 1 11 (by kernel_rfl) rfl).here) (by go_simp) (up_eq rfl) hK) ?_
  refine TabAll.cons (fun aa wv hb ha hS Kk Qq hK=>tab_field (tab_free rfl) _ _ _ rfl _ (.pointer (some ⟨g,6,none⟩)) (show aa.eval (.tmp 12)=.pointer (some ⟨g,0,none⟩)from(hS 2 12 (by kernel_rfl) rfl).here) (by go_simp) (up_eq rfl) hK) ?_
  refine TabAll.cons (fun aa wv hb ha hS Kk Qq hK=>tab_field (tab_free rfl) _ _ _ rfl _ (.pointer (some ⟨g,7,none⟩)) (show aa.eval (.tmp 13)=.pointer (some ⟨g,6,none⟩)from(hS 3 13 (by kernel_rfl) rfl).here) (by go_simp) (up_eq rfl) hK) ?_
  refine TabAll.cons (fun aa wv hb ha hS Kk Qq hK=>tab_load (tab_free rfl) _ _ rfl _ (.int .i64 (K:Int)) (show aa.eval (.tmp 14)=.pointer (some ⟨g,7,none⟩)from(hS 4 14 (by kernel_rfl) rfl).here) (by have hc:wv.cell? ⟨g,7,none⟩=some (.int .i64 (K:Int)):=(HX.out.below hb HX.out.lt).cell.trans rfl;go_simp) (up_eq rfl) hK) ?_
  refine TabAll.cons (fun aa wv hb ha hS Kk Qq hK=>tab_move (tab_free rfl) _ rfl (up_eq ((ha 1 (by kernel_rfl)).trans rfl)) hK) ?_
  refine TabAll.cons (fun aa wv hb ha hS Kk Qq hK=>tab_move (tab_free rfl) _ rfl (up_eq ((ha 0 (by kernel_rfl)).trans rfl)) hK) ?_
  refine TabAll.cons (fun aa wv hb ha hS Kk Qq hK=>tab_nil (tab_free rfl) _ rfl _ (show aa.eval (.tmp 17)=.pointer (some ⟨g,0,none⟩)from(hS 7 17 (by kernel_rfl) rfl).here) (up_eq rfl) hK) ?_
  refine TabAll.cons (fun aa wv hb ha hS Kk Qq hK=>tab_field (tab_free rfl) _ _ _ rfl _ (.pointer (some ⟨g,0,none⟩)) (show aa.eval (.tmp 18)=.pointer (some ⟨g,0,none⟩)from(hS 8 18 (by kernel_rfl) rfl).here) (by go_simp) (up_eq rfl) hK) ?_
  refine TabAll.cons (fun aa wv hb ha hS Kk Qq hK=>tab_field (tab_free rfl) _ _ _ rfl _ (.pointer (some ⟨g,5,none⟩)) (show aa.eval (.tmp 19)=.pointer (some ⟨g,0,none⟩)from(hS 9 19 (by kernel_rfl) rfl).here) (by go_simp) (up_eq rfl) hK) ?_
  refine TabAll.cons (fun aa wv hb ha hS Kk Qq hK=>tab_load (tab_free rfl) _ _ rfl _ (.slice Aw wn wc) (show aa.eval (.tmp 20)=.pointer (some ⟨g,5,none⟩)from(hS 10 20 (by kernel_rfl) rfl).here) (by have hc:wv.cell? ⟨g,5,none⟩=some (.slice Aw wn wc):=(HX.out.below hb HX.out.lt).cell.trans rfl;go_simp) (up_eq rfl) hK) ?_
  refine TabAll.cons (fun aa wv hb ha hS Kk Qq hK=>tab_move (tab_free rfl) _ rfl (up_eq ((ha 2 (by kernel_rfl)).trans rfl)) hK) ?_
  refine TabAll.cons (fun aa wv hb ha hS Kk Qq hK=>tab_call (tab_free rfl) 91 _ _ rfl (enters_of Tryz.func91 (by kernel_rfl) rfl) #[.int .i64 (K:Int),.int .u8 (kind:Int),.slice Aw wn wc,.slice A2 t c2] (by simp[(show aa.eval (.tmp 15)=.int .i64 (K:Int)from(hS 5 15 (by kernel_rfl) rfl).here),(show aa.eval (.tmp 16)=.int .u8 (kind:Int)from(hS 6 16 (by kernel_rfl) rfl).here),(show aa.eval (.tmp 21)=.slice Aw wn wc from(hS 11 21 (by kernel_rfl) rfl).here),(show aa.eval (.tmp 22)=.slice A2 t c2 from(hS 12 22 (by kernel_rfl) rfl).here)]) (LO.out wv hb) (fun ee w' ⟨h1,h2⟩=>⟨_,h1,h2,up_eq rfl⟩) hK) ?_
  refine TabAll.cons (fun aa wv hb ha hS Kk Qq hK=>tab_move (tab_free rfl) _ rfl (hS 13 23 (by kernel_rfl) rfl) hK) ?_
  refine TabAll.cons (fun aa wv hb ha hS Kk Qq hK=>tab_extract (tab_free rfl) _ _ rfl _ (.int .i64 (LB:Int)) (show aa.eval (.tmp 9)=.tuple #[.int .i64 (LB:Int),.int .i64 0]from(hS 14 9 (by kernel_rfl) rfl).here) (by go_simp) (up_eq rfl) hK) ?_
  refine TabAll.cons (fun aa wv hb ha hS Kk Qq hK=>tab_extract (tab_free rfl) _ _ rfl _ (.int .i64 0) (show aa.eval (.tmp 9)=.tuple #[.int .i64 (LB:Int),.int .i64 0]from(hS 14 9 (by kernel_rfl) rfl).here) (by go_simp) (up_eq rfl) hK) ?_
  refine TabAll.cons (fun aa wv hb ha hS Kk Qq hK=>tab_assign (tab_free rfl) _ rfl (hS 15 24 (by kernel_rfl) rfl) hK) ?_
  refine TabAll.cons (fun aa wv hb ha hS Kk Qq hK=>tab_assign (tab_free rfl) _ rfl (hS 16 25 (by kernel_rfl) rfl) hK) ?_
  exact TabAll.nil
 intro vals w5 hb hv
 have e7:vals 7=.int .i64 (LB:Int):=(hv 17 7 rfl).here
 have x5:=HX.out.below hb HX.out.lt
 have s7:w5.cell? ⟨g,7,none⟩=some (.int .i64 (K:Int)):=x5.cell.trans rfl
 have z5:=HZ1.out.below hb HLT.out
 obtain⟨W6,hW6⟩:∃W,W=w5.setRow h (tryA kind (K+LB)):=⟨_,rfl⟩
 have HZ6:Hid (BoxC W6 h (tryA kind (K+LB)) 102):=Lib.hid (by rw[hW6];exact z5.row _)
 have HB6:Hid (Below h w W6):=Lib.hid (by rw[hW6];exact below_rowC (HB1.out.trans (hb.mono (by have:=HLT.out;omega))) (Nat.le_refl _) _)
 have hbu:=built_try kind (K+LB)
 rw[show((K+LB:Nat):Int)=(K:Int)+(LB:Int) by omega]at hbu
 have HZ5:=Lib.hid z5;have HW6:=Lib.hid hW6;have HBU:=Lib.hid hbu
 clear x5 hb hv hW6 z5 hbu
 simp only[List.map_cons,List.map_nil,putL,Act.put,List.setIfInBounds_toArray,List.set_cons_zero,List.set_cons_succ,e7]
 clear e7
 go_wp2_with (first
  |(refine wpList_buildTo rfl 102 #[(0,.tmp 26),(1,.tmp 34)] rfl (some 35) rfl (tryA kind (K+LB)) ?_ ?_;focus(simpa[Act.eval,Act.put]using HBU.out))
  |(refine wpList_store_rowTo rfl _ _ _ rfl rfl h (tryA kind (K+LB)) rfl rfl 102 (tryA 0 0) HZ5.out (szTry _ _) rfl (try_one _ _) ?_;rw[←HW6.out]))
 refine bodyPost_ret (results_try rfl _ _ h kind (K+LB) rfl HZ6.out) rfl ?_
 exact⟨rfl,by rw[←HH.out];exact HB6.out⟩
end Go.Proofs.YtokpcpjnihinfaaGreat
namespace Go.Proofs.YtokpcpjnihinfaaGreat
open Go.RowKit Go.ChangeShapes Go.WideShapes Go.ChangeAt Go.Joins
theorem long_pad(a:Nat):bitsT (blkP a 0 0 (lst []) [] false)≤50:=by
 rw[sto_bits];unfold padN;omega
theorem longPad_any(V:World)(a:Nat)(ha:a≤7):Calls Tryz.prog 91 #[.int .i64 (a:Int),.int .u8 0,.slice none 0 0,.slice none 0 0] V fun e w'=>e=.returned (.tuple #[.int .i64 ((bitsT (blkP a 0 0 (lst []) [] false):Nat):Int),.int .i64 0])∧Below V.heap.size V w':=by
 have h1:=long_con V (a:Int) 0 none 0 0 (lst []) none 0 0 [] (by omega) (by omega) (by omega) (ByR.nil _ _ _ (fun j=>lst_lt (L:=[]) (fun x hx=>by cases hx) j)) (by omega) (TkR.nil _ _) (by omega) (fun t ht=>by cases ht)
 have hE:=long_ok (a:=a) (kind:=0) (n:=0) (l:=[]) ha (by omega) (by omega) (by show 0≤65535;omega) (fun t ht=>by cases ht)
 have hV2:lngV (a:Int) 0 0 (lst []) []=bitsT (blkP a 0 0 (lst []) [] false):=by unfold lngV;rw[hE,if_pos rfl,Int.toNat_natCast]
 rw[hE,hV2]at h1
 exact h1
theorem whole_any(w:World)(k n:Nat)(hn:n≤10000000):
  Calls Tryz.prog 69 #[.agg (tryA k n)] w fun e w'=>e=.returned (.agg (tryA k (wholeN n)))∧Below w.heap.size w w':=by
 obtain⟨h,hh⟩:∃h,h=w.heap.size:=⟨_,rfl⟩
 obtain⟨a,ha⟩:∃a,a=n%8:=⟨_,rfl⟩
 obtain⟨LB,hLB⟩:∃x,x=bitsT (blkP a 0 0 (lst []) [] false):=⟨_,rfl⟩
 have ha7:a≤7:=by omega
 have hLB2:LB≤50:=by rw[hLB];exact long_pad a
 have eW:wholeN n=if a=0 then n else n+LB:=by unfold wholeN;rw[←ha,←hLB]
 have hz:=(zero_of_info zero_try).1
 have LO:=fun V=>longPad_any V a ha7
 rw[←hLB]at LO
 rw[eW]
 obtain⟨W1,hW1⟩:∃W,W=(w.alloc (.cells (tryA k n) 102)).alloc (.cells (tryA 0 0) 102):=⟨_,rfl⟩
 have b1:Below h w W1:=by rw[hW1,hh];exact((Below.refl _ _).alloc (Nat.le_refl _) _).alloc (by simp) _
 have x1:BoxC W1 h (tryA k n) 102:=by rw[hW1,hh];exact(BoxC.new w _ _).old _
 have y1:BoxC W1 (h+1) (tryA 0 0) 102:=by
  rw[hW1,hh];have:=BoxC.new (w.alloc (.cells (tryA k n) 102)) (tryA 0 0) 102
  rwa[World.size_alloc]at this
 have c1:W1.cell? ⟨h,1,none⟩=some (.int .i64 (n:Int)):=x1.cell.trans rfl
 have e8:(n:Int)%8=(a:Int):=by omega
 have e64:wrap64 (a:Int)=(a:Int):=by unfold wrap64;omega
 have HLO:=Lib.hid LO;have HW1:=Lib.hid hW1;have HH:=Lib.hid hh;have HB1:=Lib.hid b1;have HX1:=Lib.hid x1;have HY1:=Lib.hid y1;have HLT:Hid (h+1<W1.heap.size):=Lib.hid y1.lt
 by_cases h0:a=0
 ·have d0:decide ((0:Int)<(a:Int))=false:=decide_eq_false (by omega)
  have d1:decide (0<a)=false:=decide_eq_false (by omega)
  have d2:¬0<a:=by omega
  rw[if_pos h0]
  have z2:=y1.row (tryA k n)
  obtain⟨W2,hW2⟩:∃W,W=W1.setRow (h+1) (tryA k n):=⟨_,rfl⟩
  have HZ2:Hid (BoxC W2 (h+1) (tryA k n) 102):=Lib.hid (by rw[hW2];exact z2)
  have HB2:Hid (Below h w W2):=Lib.hid (by rw[hW2];exact below_rowC b1 (by omega) _)
  have HW2:=Lib.hid hW2
  clear ha hLB eW LO hW1 b1 x1 y1 hh h0 z2 hW2 hn ha7 hLB2
  go_enter Tryz.func69,Tryz.ntmps69
  go_wp2_with (first
   |(rw[←HW1.out,←HH.out])
   |(refine wpList_load_row rfl _ _ rfl h rfl _ (tryA k n) (0,0) _ HX1.out Tryz.underlying102 rfl (szTry _ _) ?_)
   |(refine wpList_store_rowTo rfl _ _ _ rfl rfl (h+1) (tryA k n) rfl rfl 102 (tryA 0 0) HY1.out (szTry _ _) rfl (try_one _ _) ?_;rw[←HW2.out]))
  refine bodyPost_ret (results_try rfl _ _ (h+1) k n rfl HZ2.out) rfl ?_
  exact⟨rfl,by rw[←HH.out];exact HB2.out⟩
 ·have d0:decide ((0:Int)<(a:Int))=true:=decide_eq_true (by omega)
  have d1:decide (0<a)=true:=decide_eq_true (by omega)
  have d2:0<a:=by omega
  rw[if_neg h0]
  clear ha hLB eW LO hW1 b1 x1 y1 hh h0 ha7
  go_enter Tryz.func69,Tryz.ntmps69
  go_wp2_with (first
   |(rw[←HW1.out,←HH.out])
   |fail)
  refine(HLO.out _).mono ?_
  rintro e w2 ⟨rfl,hb2⟩
  have x2:=HX1.out.below hb2 HX1.out.lt
  have y2:=HY1.out.below hb2 HY1.out.lt
  have k1:w2.cell? ⟨h,1,none⟩=some (.int .i64 (n:Int)):=x2.cell.trans rfl
  have f1:w2.frozen? ⟨h,1,none⟩=false:=x2.free
  obtain⟨W3,hW3⟩:∃W,W=w2.setCell ⟨h,1,none⟩ (.int .i64 ((n:Int)+(LB:Int))):=⟨_,rfl⟩
  have x3:BoxC W3 h (tryA k (n+LB)) 102:=by
   have:=x2.set 1 (.int .i64 ((n:Int)+(LB:Int)))
   rw[hW3]
   unfold tryA at this⊢
   rw[show((n+LB:Nat):Int)=(n:Int)+(LB:Int) by omega]
   exact this
  have y3:BoxC W3 (h+1) (tryA 0 0) 102:=by rw[hW3];exact y2.other (by show h+1≠h;omega) _
  have b3:Below h w W3:=by rw[hW3];exact below_cell (HB1.out.trans (hb2.mono (by have:=HLT.out;omega))) (Nat.le_refl _) _ _
  obtain⟨W4,hW4⟩:∃W,W=W3.setRow (h+1) (tryA k (n+LB)):=⟨_,rfl⟩
  have HZ4:Hid (BoxC W4 (h+1) (tryA k (n+LB)) 102):=Lib.hid (by rw[hW4];exact y3.row _)
  have HB4:Hid (Below h w W4):=Lib.hid (by rw[hW4];exact below_rowC b3 (by omega) _)
  have HX3:=Lib.hid x3;have HY3:=Lib.hid y3;have HW3:=Lib.hid hW3;have HW4:=Lib.hid hW4
  clear hb2 x2 y2 x3 y3 b3 hW3 hW4
  go_wp2_with (first
   |(rw[←HW3.out])
   |(refine wpList_load_row rfl _ _ rfl h rfl _ (tryA k (n+LB)) (0,0) _ HX3.out Tryz.underlying102 rfl (szTry _ _) ?_)
   |(refine wpList_store_rowTo rfl _ _ _ rfl rfl (h+1) (tryA k (n+LB)) rfl rfl 102 (tryA 0 0) HY3.out (szTry _ _) rfl (try_one _ _) ?_;rw[←HW4.out]))
  refine bodyPost_ret (results_try rfl _ _ (h+1) k (n+LB) rfl HZ4.out) rfl ?_
  exact⟨rfl,by rw[←HH.out];exact HB4.out⟩
theorem closM_any(w:World)(k n k' n':Nat)(hn:n≤20000000)(hn':n'≤20000000):
  Calls Tryz.prog 90 #[.agg (tryA k n),.agg (tryA k' n')] w fun e w'=>e=.returned (.int .i64 ((n:Int)-(n':Int)))∧Below w.heap.size w w':=by
 obtain⟨h,hh⟩:∃h,h=w.heap.size:=⟨_,rfl⟩
 obtain⟨W1,hW1⟩:∃W,W=(w.alloc (.cells (tryA k n) 102)).alloc (.cells (tryA k' n') 102):=⟨_,rfl⟩
 have b1:Below h w W1:=by rw[hW1,hh];exact((Below.refl _ _).alloc (Nat.le_refl _) _).alloc (by simp) _
 have x1:BoxC W1 h (tryA k n) 102:=by rw[hW1,hh];exact(BoxC.new w _ _).old _
 have y1:BoxC W1 (h+1) (tryA k' n') 102:=by
  rw[hW1,hh];have:=BoxC.new (w.alloc (.cells (tryA k n) 102)) (tryA k' n') 102
  rwa[World.size_alloc]at this
 have c1:W1.cell? ⟨h,1,none⟩=some (.int .i64 (n:Int)):=x1.cell.trans rfl
 have c2:W1.cell? ⟨h+1,1,none⟩=some (.int .i64 (n':Int)):=y1.cell.trans rfl
 have HW1:=Lib.hid hW1;have HH:=Lib.hid hh;have HB1:=Lib.hid b1
 clear hW1 b1 x1 y1 hh
 go_enter Tryz.func90,Tryz.ntmps90
 go_wp2_with (first|(rw[←HW1.out,←HH.out]))
 go_ret
 exact⟨rfl,by rw[←HH.out];exact HB1.out⟩
end Go.Proofs.YtokpcpjnihinfaaGreat
namespace Go.Proofs.YtokpcpjnihinfaaGreat
open Go.RowKit Go.ChangeShapes Go.WideShapes Go.ChangeAt Go.Joins
theorem idx_try(b o:Nat)(w:World):(Instr.indexAt 142 (.slice (some ⟨b,o,none⟩) 2 2) (.int .i64 1)).run Tryz.prog w=.ok (.pointer (some ⟨b,o+2,none⟩)) w:=by
 have h2:Tryz.prog.cellsOf 102=2:=by kernel_rfl
 go_simp
theorem tab_callv{l:List Oper}{o:Oper}{a:Act}{w:World}{T:Value→World→Prop}{K:Act→World→Prop}{Q:Exit→Act→World→Prop}{E:Prop}(hw:Region.wanted o (yielded l.toArray a.tmps)=true)(f:FuncId)(x:Operand)(xs:Array Operand)(ts:Array TypeId)
  (ho:o.op=.call {callee:=.value x,args:=xs,argTypes:=ts}) (hv:a.eval x=.func (.func f) #[] #[]) (eg:∀args w,(callFunc f args).run Tryz.prog w=.ok (.enter f args) w) (args:Array Value) (hx:xs.map a.eval=args) {R:Ending→World→Prop} (hc:Calls Tryz.prog f args w R)
  (h:∀e w',R e w'→∃v,e=.returned v∧Below w.heap.size w w'∧Up T v w') (hK:∀v w',Below w.heap.size w w'→Up T v w'→K (a.put o.dst v) w'):
  if Region.wanted o (yielded l.toArray a.tmps)=true then Oper.wp Tryz.prog o a w K Q else E:=by
 rw[if_pos hw]
 unfold Oper.wp
 have hall:∀ρ:Operand→Value,ρ x=.func (.func f) #[] #[]→xs.map ρ=args→(execOp ρ o).run Tryz.prog w=.ok (.enter f args) w:=by
  intro ρ h1 h2
  simp[execOp,ho,resolve,invoke,h1,h2,go_sem,eg,Deferred.ofValue]
 rw[hall _ hv hx]
 refine hc.mono fun e w' hr=>?_
 obtain⟨v,rfl,hb,hu⟩:=h e w' hr
 exact hK v w' hb hu
theorem lss_yes(P:Program)(t:TypeId)(x y:Int)(h:x<y)(w:World):(binOp .lss t (.int .i64 x) (.int .i64 y)).run P w=.ok (.bool true) w:=by
 simp[binOp,Op.intCmp,go_sem];omega
theorem lss_not(P:Program)(t:TypeId)(x y:Int)(h:¬x<y)(w:World):(binOp .lss t (.int .i64 x) (.int .i64 y)).run P w=.ok (.bool false) w:=by
 simp[binOp,Op.intCmp,go_sem];omega
def minA(k0 n0 k1 n1:Nat):Nat×Nat:=if n1<n0 then(k1,n1)else(k0,n0)
theorem minF_any(w:World)(b k0 n0 k1 n1:Nat)(hb:b<w.heap.size)(hn0:n0≤10000000)(hn1:n1≤10000000)(r0:w.rangeAt b 0 [.int .u8 (k0:Int),.int .i64 (n0:Int)])(r1:w.rangeAt b 2 [.int .u8 (k1:Int),.int .i64 (n1:Int)]):
  Calls Tryz.prog 89 #[.slice (some ⟨b,0,none⟩) 2 2,.func (.func 90) #[] #[]] w fun e w'=>e=.returned (.agg (tryA (minA k0 n0 k1 n1).1 (minA k0 n0 k1 n1).2))∧Below w.heap.size w w':=by
 obtain⟨h,hh⟩:∃h,h=w.heap.size:=⟨_,rfl⟩
 obtain⟨M,hM⟩:∃M,M=minA k0 n0 k1 n1:=⟨_,rfl⟩
 rw[←hM]
 have hz:=(zero_of_info zero_try).1
 obtain⟨W1,hW1⟩:∃W,W=w.alloc (.cells (tryA 0 0) 102):=⟨_,rfl⟩
 have s1:W1.heap.size=h+1:=by rw[hW1,World.size_alloc,hh]
 have b1:Below h w W1:=by rw[hW1,hh];exact(Below.refl _ _).alloc (Nat.le_refl _) _
 have x1:BoxC W1 h (tryA 0 0) 102:=by rw[hW1,hh];exact BoxC.new w _ _
 obtain⟨W2,hW2⟩:∃W,W=mkV W1 (tryA 0 0) (tryA k0 n0) 102:=⟨_,rfl⟩
 have b2:Below h w W2:=by rw[hW2];exact b1.trans ((mkV_below _ _ _ _).mono (by omega))
 have x2:BoxC W2 h (tryA 0 0) 102:=by rw[hW2];exact x1.below (mkV_below _ _ _ _) x1.lt
 have y2:BoxC W2 (h+1) (tryA k0 n0) 102:=by rw[hW2,←s1];exact mkV_row W1 _ _ _
 have rg:∀{V:World} {o:Nat} {L:List Value},Below h w V→w.rangeAt b o L→V.rangeAt b o L:=fun{V o L} hV r i v hv=>by rw[hV.cell (p:=⟨b,o+i,none⟩) (by show b<h;omega)];exact r i v hv
 have R0:Hid (W1.rangeAt b 0 [.int .u8 (k0:Int),.int .i64 (n0:Int)]):=Lib.hid (rg b1 r0)
 have RR:Hid (∀V,Below h w V→V.rangeAt b 2 [.int .u8 (k1:Int),.int .i64 (n1:Int)]):=Lib.hid fun V hV=>rg hV r1
 have R0d:=Lib.hid (rg (b1.alloc (by rw[s1];omega) (.cells (tryA 0 0) 102)) r0)
 have h2:Tryz.prog.cellsOf 102=2:=by kernel_rfl
 have HW1:=Lib.hid hW1;have HW2:=Lib.hid hW2;have HH:=Lib.hid hh;have HM:=Lib.hid hM;have HB2:=Lib.hid b2;have HX2:=Lib.hid x2;have HY2:=Lib.hid y2;have HS1:=Lib.hid s1
 clear hb r0 r1 rg hW1 hW2 s1 b1 x1 b2 x2 y2 hh hM
 go_enter Tryz.func89,Tryz.ntmps89
 go_wp2_with (first
  |(rw[←HW1.out,←HH.out])
  |(refine wpList_load_mid rfl _ _ rfl b 0 rfl [.int .u8 (k0:Int),.int .i64 (n0:Int)] _ R0.out Tryz.underlying102 rfl (szTryL _ _) ?_)
  |(refine wpList_store_rowTo rfl _ _ _ rfl rfl W1.heap.size (tryA k0 n0) rfl rfl 102 (tryA 0 0) (heap_alloc_new W1 _) (szTry _ _) rfl (try_one _ _) ?_;rw[show(W1.alloc (.cells (tryA 0 0) 102)).setRow W1.heap.size (tryA k0 n0)=mkV W1 (tryA 0 0) (tryA k0 n0) 102 from rfl,←HW2.out,HS1.out])
  |fail)
 go_loopw [6] (fun iv wr=>∃j:Nat,((j=1∧Hid (BoxC wr (h+1) (tryA k0 n0) 102))∨(j=2∧Hid (BoxC wr (h+1) (tryA M.1 M.2) 102)))∧iv=.int .i64 (j:Int)∧Hid (BoxC wr h (tryA 0 0) 102)∧Hid (Below h w wr)) (fun iv _=>2-(intOf iv).toNat)
 case atStart=>exact⟨1,.inl ⟨rfl,HY2⟩,rfl,HX2,HB2⟩
 case round=>
  have HMM:=HM
  clear HM HX2 HY2 HB2 HW1 HW2 R0 R0d HS1
  obtain⟨j,hj,rfl,HX,HB⟩:=hrel
  rcases hj with⟨rfl,HM⟩|⟨rfl,HM⟩
  ·have RG:Hid (∀V,Below wr.heap.size wr V→V.rangeAt b 2 [.int .u8 (k1:Int),.int .i64 (n1:Int)]):=Lib.hid fun V hV=>RR.out V (HB.out.trans (hV.mono (by have:=HX.out.lt;omega)))
   by_cases hlt:n1<n0
   ·skip
    have LS:Hid (∀V:World,(binOp .lss 3 (.int .i64 ((n1:Int)-(n0:Int))) (.int .i64 0)).run Tryz.prog V=.ok (.bool true) V):=Lib.hid fun V=>lss_yes _ _ _ _ (by omega) V
    have hmm:M=(k1,n1):=by rw[HMM.out];unfold minA;rw[if_pos hlt]
    clear hlt
    go_wp2_with fail
    refine wp_region_tab (tabT [fun v _=>v=.func (.func 90) #[] #[],fun v _=>v=.slice (some ⟨b,0,none⟩) 2 2,fun v _=>v=.int .i64 1,fun v _=>v=.pointer (some ⟨b,2,none⟩),fun v _=>v=.agg (tryA k1 n1),fun v _=>v=.agg (tryA k0 n0),fun v _=>v=.int .i64 ((n1:Int)-(n0:Int)),fun v _=>v=.bool true]) wr (Below.refl _ _) (by kernel_rfl) (by kernel_rfl) ?_ ?_
    case refine_1=>
     refine TabAll.cons (fun aa wv hb ha hS Kk Qq hK=>tab_move (tab_free rfl) _ rfl (up_eq ((ha 1 (by kernel_rfl)).trans rfl)) hK) ?_
     refine TabAll.cons (fun aa wv hb ha hS Kk Qq hK=>tab_move (tab_free rfl) _ rfl (up_eq ((ha 0 (by kernel_rfl)).trans rfl)) hK) ?_
     refine TabAll.cons (fun aa wv hb ha hS Kk Qq hK=>tab_move (tab_free rfl) _ rfl (up_eq ((ha 6 (by kernel_rfl)).trans rfl)) hK) ?_
     refine TabAll.cons (fun aa wv hb ha hS Kk Qq hK=>tab_val (tab_free rfl) (.pointer (some ⟨b,2,none⟩)) (by have e21:=(show aa.eval (.tmp 21)=.slice (some ⟨b,0,none⟩) 2 2 from(hS 1 21 (by kernel_rfl) rfl).here);have e22:=(show aa.eval (.tmp 22)=.int .i64 1 from(hS 2 22 (by kernel_rfl) rfl).here);have hi:=idx_try b 0 wv;unfold execOp;simp only[e21,e22,Sem.run_bind,hi,Result.andThen_ok];rfl) (up_eq rfl) hK) ?_
     refine TabAll.cons (fun aa wv hb ha hS Kk Qq hK=>tab_row (tab_free rfl) _ _ rfl b 2 (show aa.eval (.tmp 23)=.pointer (some ⟨b,2,none⟩)from(hS 3 23 (by kernel_rfl) rfl).here) [.int .u8 (k1:Int),.int .i64 (n1:Int)] _ (RG.out wv hb) Tryz.underlying102 rfl (szTryL _ _) (up_eq rfl) hK) ?_
     refine TabAll.cons (fun aa wv hb ha hS Kk Qq hK=>tab_row (tab_free rfl) _ _ rfl (h+1) 0 ((ha 5 (by kernel_rfl)).trans rfl) [.int .u8 (k0:Int),.int .i64 (n0:Int)] _ (rangeBox (HM.out.below hb HM.out.lt)) Tryz.underlying102 rfl (szTryL _ _) (up_eq rfl) hK) ?_
     refine TabAll.cons (fun aa wv hb ha hS Kk Qq hK=>tab_callv (tab_free rfl) 90 _ _ _ rfl (show aa.eval (.tmp 20)=.func (.func 90) #[] #[]from(hS 0 20 (by kernel_rfl) rfl).here) (enters_of Tryz.func90 (by kernel_rfl) rfl) #[.agg (tryA k1 n1),.agg (tryA k0 n0)] (by simp[(show aa.eval (.tmp 24)=.agg (tryA k1 n1)from(hS 4 24 (by kernel_rfl) rfl).here),(show aa.eval (.tmp 25)=.agg (tryA k0 n0)from(hS 5 25 (by kernel_rfl) rfl).here)]) (closM_any wv k1 n1 k0 n0 (by omega) (by omega)) (fun ee w' ⟨h1,h2⟩=>⟨_,h1,h2,up_eq rfl⟩) hK) ?_
     refine TabAll.cons (fun aa wv hb ha hS Kk Qq hK=>tab_bin (tab_free rfl) _ _ _ _ _ rfl _ _ (.bool true) (show aa.eval (.tmp 26)=.int .i64 ((n1:Int)-(n0:Int))from(hS 6 26 (by kernel_rfl) rfl).here) rfl (eqg_no _ _ _ _ _ _ _ (by decide) (by decide) _) (LS.out wv) (up_eq rfl) hK) ?_
     exact TabAll.nil
    intro vals w5 hb hv
    have e27:vals 27=.bool true:=(hv 7 27 rfl).here
    have HX5:=Lib.hid (HX.out.below hb HX.out.lt)
    have HM5:=Lib.hid (HM.out.below hb HM.out.lt)
    have HB5:=Lib.hid (HB.out.trans (hb.mono (by have:=HX.out.lt;omega)))
    have HR5:=Lib.hid (RR.out w5 HB5.out)
    clear hb hv
    simp only[List.map_cons,List.map_nil,putL,Act.put,List.setIfInBounds_toArray,List.set_cons_zero,List.set_cons_succ,e27]
    clear e27
    obtain⟨W6,hW6⟩:∃W,W=w5.setRow (h+1) (tryA k1 n1):=⟨_,rfl⟩
    have HM6:Hid (BoxC W6 (h+1) (tryA k1 n1) 102):=Lib.hid (by rw[hW6];exact HM5.out.row _)
    have HX6:Hid (BoxC W6 h (tryA 0 0) 102):=Lib.hid (by rw[hW6];exact HX5.out.rowO (by omega) _)
    have HB6:Hid (Below h w W6):=Lib.hid (by rw[hW6];exact below_rowC HB5.out (by omega) _)
    have HW6:=Lib.hid hW6
    clear hW6
    have hidx:=idx_try b 0 w5
    go_wp2_with (first
     |(refine wpList_load_mid rfl _ _ rfl b 2 rfl [.int .u8 (k1:Int),.int .i64 (n1:Int)] _ HR5.out Tryz.underlying102 rfl (szTryL _ _) ?_)
     |(refine wpList_store_rowTo rfl _ _ _ rfl rfl (h+1) (tryA k1 n1) rfl rfl 102 (tryA k0 n0) HM5.out (szTry _ _) rfl (try_one _ _) ?_;rw[←HW6.out]))
    go_roundw
    case rel=>exact⟨2,.inr ⟨rfl,Lib.hid (by rw[hmm];exact HM6.out)⟩,by go_num,HX6,HB6⟩
    case measure=>simp[intOf]
   ·skip
    have LS:Hid (∀V:World,(binOp .lss 3 (.int .i64 ((n1:Int)-(n0:Int))) (.int .i64 0)).run Tryz.prog V=.ok (.bool false) V):=Lib.hid fun V=>lss_not _ _ _ _ (by omega) V
    have hmm:M=(k0,n0):=by rw[HMM.out];unfold minA;rw[if_neg hlt]
    clear hlt
    go_wp2_with fail
    refine wp_region_tab (tabT [fun v _=>v=.func (.func 90) #[] #[],fun v _=>v=.slice (some ⟨b,0,none⟩) 2 2,fun v _=>v=.int .i64 1,fun v _=>v=.pointer (some ⟨b,2,none⟩),fun v _=>v=.agg (tryA k1 n1),fun v _=>v=.agg (tryA k0 n0),fun v _=>v=.int .i64 ((n1:Int)-(n0:Int)),fun v _=>v=.bool false]) wr (Below.refl _ _) (by kernel_rfl) (by kernel_rfl) ?_ ?_
    case refine_1=>
     refine TabAll.cons (fun aa wv hb ha hS Kk Qq hK=>tab_move (tab_free rfl) _ rfl (up_eq ((ha 1 (by kernel_rfl)).trans rfl)) hK) ?_
     refine TabAll.cons (fun aa wv hb ha hS Kk Qq hK=>tab_move (tab_free rfl) _ rfl (up_eq ((ha 0 (by kernel_rfl)).trans rfl)) hK) ?_
     refine TabAll.cons (fun aa wv hb ha hS Kk Qq hK=>tab_move (tab_free rfl) _ rfl (up_eq ((ha 6 (by kernel_rfl)).trans rfl)) hK) ?_
     refine TabAll.cons (fun aa wv hb ha hS Kk Qq hK=>tab_val (tab_free rfl) (.pointer (some ⟨b,2,none⟩)) (by have e21:=(show aa.eval (.tmp 21)=.slice (some ⟨b,0,none⟩) 2 2 from(hS 1 21 (by kernel_rfl) rfl).here);have e22:=(show aa.eval (.tmp 22)=.int .i64 1 from(hS 2 22 (by kernel_rfl) rfl).here);have hi:=idx_try b 0 wv;unfold execOp;simp only[e21,e22,Sem.run_bind,hi,Result.andThen_ok];rfl) (up_eq rfl) hK) ?_
     refine TabAll.cons (fun aa wv hb ha hS Kk Qq hK=>tab_row (tab_free rfl) _ _ rfl b 2 (show aa.eval (.tmp 23)=.pointer (some ⟨b,2,none⟩)from(hS 3 23 (by kernel_rfl) rfl).here) [.int .u8 (k1:Int),.int .i64 (n1:Int)] _ (RG.out wv hb) Tryz.underlying102 rfl (szTryL _ _) (up_eq rfl) hK) ?_
     refine TabAll.cons (fun aa wv hb ha hS Kk Qq hK=>tab_row (tab_free rfl) _ _ rfl (h+1) 0 ((ha 5 (by kernel_rfl)).trans rfl) [.int .u8 (k0:Int),.int .i64 (n0:Int)] _ (rangeBox (HM.out.below hb HM.out.lt)) Tryz.underlying102 rfl (szTryL _ _) (up_eq rfl) hK) ?_
     refine TabAll.cons (fun aa wv hb ha hS Kk Qq hK=>tab_callv (tab_free rfl) 90 _ _ _ rfl (show aa.eval (.tmp 20)=.func (.func 90) #[] #[]from(hS 0 20 (by kernel_rfl) rfl).here) (enters_of Tryz.func90 (by kernel_rfl) rfl) #[.agg (tryA k1 n1),.agg (tryA k0 n0)] (by simp[(show aa.eval (.tmp 24)=.agg (tryA k1 n1)from(hS 4 24 (by kernel_rfl) rfl).here),(show aa.eval (.tmp 25)=.agg (tryA k0 n0)from(hS 5 25 (by kernel_rfl) rfl).here)]) (closM_any wv k1 n1 k0 n0 (by omega) (by omega)) (fun ee w' ⟨h1,h2⟩=>⟨_,h1,h2,up_eq rfl⟩) hK) ?_
     refine TabAll.cons (fun aa wv hb ha hS Kk Qq hK=>tab_bin (tab_free rfl) _ _ _ _ _ rfl _ _ (.bool false) (show aa.eval (.tmp 26)=.int .i64 ((n1:Int)-(n0:Int))from(hS 6 26 (by kernel_rfl) rfl).here) rfl (eqg_no _ _ _ _ _ _ _ (by decide) (by decide) _) (LS.out wv) (up_eq rfl) hK) ?_
     exact TabAll.nil
    intro vals w5 hb hv
    have e27:vals 27=.bool false:=(hv 7 27 rfl).here
    have HX5:=Lib.hid (HX.out.below hb HX.out.lt)
    have HM5:=Lib.hid (HM.out.below hb HM.out.lt)
    have HB5:=Lib.hid (HB.out.trans (hb.mono (by have:=HX.out.lt;omega)))
    have HR5:=Lib.hid (RR.out w5 HB5.out)
    clear hb hv
    simp only[List.map_cons,List.map_nil,putL,Act.put,List.setIfInBounds_toArray,List.set_cons_zero,List.set_cons_succ,e27]
    clear e27
    go_wp2
    go_roundw
    case rel=>exact⟨2,.inr ⟨rfl,Lib.hid (by rw[hmm];exact HM5.out)⟩,by go_num,HX5,HB5⟩
    case measure=>simp[intOf]
  ·obtain⟨W6,hW6⟩:∃W,W=wr.setRow h (tryA M.1 M.2):=⟨_,rfl⟩
   have HX6:Hid (BoxC W6 h (tryA M.1 M.2) 102):=Lib.hid (by rw[hW6];exact HX.out.row _)
   have HB6:Hid (Below h w W6):=Lib.hid (by rw[hW6];exact below_rowC HB.out (Nat.le_refl _) _)
   have HW6:=Lib.hid hW6
   clear hW6
   go_wp2_with (first
    |(refine wpList_load_row rfl _ _ rfl (h+1) rfl _ (tryA M.1 M.2) (0,0) _ HM.out Tryz.underlying102 rfl (szTry _ _) ?_)
    |(refine wpList_store_rowTo rfl _ _ _ rfl rfl h (tryA M.1 M.2) rfl rfl 102 (tryA 0 0) HX.out (szTry _ _) rfl (try_one _ _) ?_;rw[←HW6.out]))
   refine bodyPost_ret (results_try rfl _ _ h M.1 M.2 rfl HX6.out) rfl ?_
   exact⟨rfl,by rw[←HH.out];exact HB6.out⟩
end Go.Proofs.YtokpcpjnihinfaaGreat
namespace Go.Proofs.YtokpcpjnihinfaaGreat
open Go.RowKit Go.ChangeShapes Go.WideShapes Go.ChangeAt Go.Joins
theorem pshort_any(w:World)(b k0 n0 k1 n1:Nat)(hb:b<w.heap.size)(hn0:n0≤10000000)(hn1:n1≤10000000)(r0:w.rangeAt b 0 [.int .u8 (k0:Int),.int .i64 (n0:Int)])(r1:w.rangeAt b 2 [.int .u8 (k1:Int),.int .i64 (n1:Int)]):
  Calls Tryz.prog 67 #[.slice (some ⟨b,0,none⟩) 2 2] w fun e w'=>e=.returned (.agg (tryA (minA k0 n0 k1 n1).1 (minA k0 n0 k1 n1).2))∧Below w.heap.size w w':=by
 obtain⟨h,hh⟩:∃h,h=w.heap.size:=⟨_,rfl⟩
 have hz:=(zero_of_info zero_try).1
 obtain⟨W1,hW1⟩:∃W,W=w.alloc (.cells (tryA 0 0) 102):=⟨_,rfl⟩
 have b1:Below h w W1:=by rw[hW1,hh];exact(Below.refl _ _).alloc (Nat.le_refl _) _
 have x1:BoxC W1 h (tryA 0 0) 102:=by rw[hW1,hh];exact BoxC.new w _ _
 have rg:∀{V:World} {o:Nat} {L:List Value},Below h w V→w.rangeAt b o L→V.rangeAt b o L:=fun{V o L} hV r i v hv=>by rw[hV.cell (p:=⟨b,o+i,none⟩) (by show b<h;omega)];exact r i v hv
 have hm:=minF_any W1 b k0 n0 k1 n1 (by have:=x1.lt;omega) hn0 hn1 (rg b1 r0) (rg b1 r1)
 obtain⟨M,hM⟩:∃M,M=minA k0 n0 k1 n1:=⟨_,rfl⟩
 rw[←hM]at hm⊢
 have HMI:=Lib.hid hm;have HW1:=Lib.hid hW1;have HH:=Lib.hid hh;have HB1:=Lib.hid b1;have HX1:=Lib.hid x1
 clear hb hn0 hn1 r0 r1 rg hm hM hW1 b1 x1 hh
 go_enter Tryz.func67,Tryz.ntmps67
 go_wp2_with (first|(rw[←HW1.out,←HH.out])|fail)
 refine HMI.out.mono ?_
 rintro e w2 ⟨rfl,hb2⟩
 have x2:=HX1.out.below hb2 HX1.out.lt
 obtain⟨W3,hW3⟩:∃W,W=w2.setRow h (tryA M.1 M.2):=⟨_,rfl⟩
 have HX3:Hid (BoxC W3 h (tryA M.1 M.2) 102):=Lib.hid (by rw[hW3];exact x2.row _)
 have HB3:Hid (Below h w W3):=Lib.hid (by rw[hW3];exact below_rowC (HB1.out.trans (hb2.mono (by have:=HX1.out.lt;omega))) (Nat.le_refl _) _)
 have HX2:=Lib.hid x2;have HW3:=Lib.hid hW3
 clear hW3 x2 hb2
 go_wp2_with (refine wpList_store_rowTo rfl _ _ _ rfl rfl h (tryA M.1 M.2) rfl rfl 102 (tryA 0 0) HX2.out (szTry _ _) rfl (try_one _ _) ?_;rw[←HW3.out])
 refine bodyPost_ret (results_try rfl _ _ h M.1 M.2 rfl HX3.out) rfl ?_
 exact⟨rfl,by rw[←HH.out];exact HB3.out⟩
theorem run_two(w:World)(a b c d:Int):(Instr.buildSlice 142 2 #[(0,.agg #[.int .u8 a,.int .i64 b]),(1,.agg #[.int .u8 c,.int .i64 d])]).run Tryz.prog w=.ok (.slice (some ⟨w.heap.size,0,none⟩) 2 2) (w.alloc (.cells #[.int .u8 a,.int .i64 b,.int .u8 c,.int .i64 d] 102)):=by
 kernel_rfl
theorem run_try0(k n:Nat)(w:World):(Instr.field 102 (.agg (tryA k n)) 0).run Tryz.prog w=.ok (.int .u8 (k:Int)) w:=by unfold tryA;kernel_rfl
theorem way_any(w:World)(B g:Nat)(p:Prs)(out:List Nat)(Ah:Option Addr)(hc:Nat)(Aw:Option Addr)(wc:Nat)(Ap:Option Addr)(pc:Nat)(Ao:Option Addr)(oc:Nat)(U:Und w B g p out Ah hc Aw wc Ap pc Ao oc)(gd:GoodW p)(hb:p.wait.length≤65535)(A2:Option Addr)(t c2:Nat)(l:List Tok)(ht:TkR w w.heap.size A2 t c2 l)(hl:l.length≤65535)(hok:∀t∈l,mayT t=true∧t.x<256):
  Calls Tryz.prog 52 #[.pointer (some ⟨g,0,none⟩),.slice A2 t c2] w fun e w'=>e=.returned (.int .u8 ((wayP p l:Nat):Int))∧Below w.heap.size w w':=by
 have hz:=(zero_of_info zero_try).1
 have HWI:Hid (∀V,Below w.heap.size w V→∀(kind:Nat) (v:Int) (n:Nat),kind≤2→v=(kind:Int)→n=withP p l kind→Calls Tryz.prog 68 #[.pointer (some ⟨g,0,none⟩),.int .u8 v,.slice A2 t c2] V fun e w'=>e=.returned (.agg #[.int .u8 v,.int .i64 (n:Int)])∧Below V.heap.size V w'):=Lib.hid fun V hV kind v n hk hv hn=>by
  subst hv;subst hn
  exact with_any V B g p out Ah hc Aw wc Ap pc Ao oc (U.below hV) gd hb kind hk A2 t c2 l ((ht.below hV (Nat.le_refl _)).more hV.size) hl hok
 have hwb:∀kind,kind≤2→withP p l kind≤5000000:=fun kind hk=>by
  unfold withP
  have:=blkP_bits (a:=p.k.toNat) (last:=false) hk hb (lst_lt gd.bw) hl hok
  have:=gd.k7;omega
 obtain⟨n0,hn0⟩:∃x,x=withP p l 0:=⟨_,rfl⟩
 obtain⟨n1,hn1⟩:∃x,x=withP p l 1:=⟨_,rfl⟩
 obtain⟨n2,hn2⟩:∃x,x=withP p l 2:=⟨_,rfl⟩
 have q0:=hwb 0 (by omega);have q1:=hwb 1 (by omega);have q2:=hwb 2 (by omega)
 rw[←hn0]at q0;rw[←hn1]at q1;rw[←hn2]at q2
 have HZERO:Hid (∀V,Below w.heap.size w V→Calls Tryz.prog 68 #[.pointer (some ⟨g,0,none⟩),.int .u8 0,.slice A2 t c2] V fun e w'=>e=.returned (.agg #[.int .u8 0,.int .i64 (n0:Int)])∧Below V.heap.size V w'):=Lib.hid fun V hV=>HWI.out V hV 0 0 n0 (by omega) rfl hn0
 have HONE:Hid (∀V,Below w.heap.size w V→Calls Tryz.prog 68 #[.pointer (some ⟨g,0,none⟩),.int .u8 1,.slice A2 t c2] V fun e w'=>e=.returned (.agg #[.int .u8 1,.int .i64 (n1:Int)])∧Below V.heap.size V w'):=Lib.hid fun V hV=>HWI.out V hV 1 1 n1 (by omega) rfl hn1
 have HTWO:Hid (∀V,Below w.heap.size w V→Calls Tryz.prog 68 #[.pointer (some ⟨g,0,none⟩),.int .u8 2,.slice A2 t c2] V fun e w'=>e=.returned (.agg #[.int .u8 2,.int .i64 (n2:Int)])∧Below V.heap.size V w'):=Lib.hid fun V hV=>HWI.out V hV 2 2 n2 (by omega) rfl hn2
 obtain⟨M,hM⟩:∃M,M=minA 1 n1 2 n2:=⟨_,rfl⟩
 obtain⟨NW,hNW⟩:∃x,x=wholeN M.2:=⟨_,rfl⟩
 have eW:wayP p l=(minA 0 n0 M.1 NW).1:=by
  have e:codedP p l=M.1∧withP p l (codedP p l)=M.2:=by
   unfold codedP
   rw[hM,←hn1,←hn2];unfold minA
   by_cases h:n2<n1
   ·rw[if_pos h,if_pos h];exact⟨rfl,hn2.symm⟩
   ·rw[if_neg h,if_neg h];exact⟨rfl,hn1.symm⟩
  unfold wayP minA
  rw[e.2,e.1,←hNW,←hn0]
  by_cases h:NW<n0
  ·rw[if_pos h,if_pos h]
  ·rw[if_neg h,if_neg h]
 have hM2:M.2≤5000000:=by rw[hM];unfold minA;split<;>omega
 have hNW2:NW≤5000050:=by
  rw[hNW];unfold wholeN;split
  ·omega
  ·have:=long_pad (M.2%8);omega
 obtain⟨R,hR⟩:∃R,R=minA 0 n0 M.1 NW:=⟨_,rfl⟩
 rw[eW,←hR]
 have WHO:Hid (∀V:World,Calls Tryz.prog 69 #[.agg (tryA M.1 M.2)] V fun e w'=>e=.returned (.agg #[.int .u8 (M.1:Int),.int .i64 (NW:Int)])∧Below V.heap.size V w'):=Lib.hid fun V=>by
  rw[hNW];exact whole_any V M.1 M.2 (by omega)
 have SHO:Hid (∀(V:World) (gb:Nat),BoxC V gb #[.int .u8 0,.int .i64 (n0:Int),.int .u8 (M.1:Int),.int .i64 (NW:Int)] 102→Calls Tryz.prog 67 #[.slice (some ⟨gb,0,none⟩) 2 2] V fun e w'=>e=.returned (.agg (tryA R.1 R.2))∧Below V.heap.size V w'):=Lib.hid fun V gb x=>by
  rw[hR];exact pshort_any V gb 0 n0 M.1 NW x.lt (by omega) (by omega) (rangeMid x 0 _ (fun i hi=>by rcases i with _|_|i<;>first|rfl|(simp at hi;omega))) (rangeMid x 2 _ (fun i hi=>by rcases i with _|_|i<;>first|rfl|(simp at hi;omega)))
 have HR:=Lib.hid hR;have HM:=Lib.hid hM;have HNW:=Lib.hid hNW;have HQ:=Lib.hid (And.intro q0 (And.intro q1 (And.intro q2 (And.intro hM2 hNW2))))
 clear hR U gd hb ht hl hok hwb HWI hn0 hn1 hn2 hM hNW eW q0 q1 q2 hM2 hNW2
 go_enter Tryz.func52,Tryz.ntmps52
 go_wp2_with fail
 refine(HONE.out w (Below.refl _ _)).mono ?_
 rintro e w1 ⟨rfl,hb1⟩
 have HB1:=Lib.hid hb1
 clear hb1
 go_wp2_with fail
 refine(HTWO.out w1 HB1.out).mono ?_
 rintro e w2 ⟨rfl,hb2⟩
 have HB2:=Lib.hid (HB1.out.trans (hb2.mono HB1.out.size))
 clear hb2
 have x3:BoxC (w2.alloc (.cells #[.int .u8 1,.int .i64 (n1:Int),.int .u8 2,.int .i64 (n2:Int)] 102)) w2.heap.size #[.int .u8 1,.int .i64 (n1:Int),.int .u8 2,.int .i64 (n2:Int)] 102:=BoxC.new w2 _ _
 have hsh:=pshort_any _ w2.heap.size 1 n1 2 n2 x3.lt (by have:=HQ.out;omega) (by have:=HQ.out;omega) (rangeMid x3 0 _ (fun i hi=>by rcases i with _|_|i<;>first|rfl|(simp at hi;omega))) (rangeMid x3 2 _ (fun i hi=>by rcases i with _|_|i<;>first|rfl|(simp at hi;omega)))
 rw[←HM.out]at hsh
 have HSH:=Lib.hid hsh
 have HB3:Hid (Below w.heap.size w (w2.alloc (.cells #[.int .u8 1,.int .i64 (n1:Int),.int .u8 2,.int .i64 (n2:Int)] 102))):=Lib.hid (HB2.out.alloc HB2.out.size _)
 clear x3 hsh
 go_wp2_with fail
 refine HSH.out.mono ?_
 rintro e w3 ⟨rfl,hb3⟩
 have hb03:=HB3.out.trans (hb3.mono HB3.out.size)
 obtain⟨W4,hW4⟩:∃W,W=mkV w3 (tryA 0 0) (tryA M.1 M.2) 102:=⟨_,rfl⟩
 obtain⟨h5,hh5⟩:∃x,x=w3.heap.size:=⟨_,rfl⟩
 have HX4:Hid (BoxC W4 h5 (tryA M.1 M.2) 102):=Lib.hid (by rw[hW4,hh5];exact mkV_row w3 _ _ _)
 have HB4:Hid (Below w.heap.size w W4):=Lib.hid (by rw[hW4];exact hb03.trans ((mkV_below _ _ _ _).mono hb03.size))
 have HV4:=Lib.hid hW4;have HH5:=Lib.hid hh5
 clear hb3 hb03 hW4 hh5 HSH HB3 HB2
 go_wp2_with (first
  |(refine wpList_store_rowTo rfl _ _ _ rfl rfl w3.heap.size (tryA M.1 M.2) rfl rfl 102 (tryA 0 0) (heap_alloc_new w3 _) (szTry _ _) rfl (try_one _ _) ?_;rw[show(w3.alloc (.cells (tryA 0 0) 102)).setRow w3.heap.size (tryA M.1 M.2)=mkV w3 (tryA 0 0) (tryA M.1 M.2) 102 from rfl,←HV4.out,←HH5.out])
  |fail)
 refine wp_region_tab (tabT [fun v _=>v=.pointer (some ⟨g,0,none⟩),fun v _=>v=.slice A2 t c2,fun v _=>v=.agg #[.int .u8 0,.int .i64 (n0:Int)],fun v _=>v=.agg (tryA M.1 M.2),fun v _=>v=.agg #[.int .u8 (M.1:Int),.int .i64 (NW:Int)],fun v W=>∃gb,v=.slice (some ⟨gb,0,none⟩) 2 2∧BoxC W gb #[.int .u8 0,.int .i64 (n0:Int),.int .u8 (M.1:Int),.int .i64 (NW:Int)] 102,fun v _=>v=.agg (tryA R.1 R.2),fun v _=>v=.int .u8 (R.1:Int),fun v _=>v=.int .u8 (R.1:Int)]) W4 (Below.refl _ _) (by kernel_rfl) (by kernel_rfl) ?_ ?_
 case refine_1=>
  refine TabAll.cons (fun aa wv hb ha hS Kk Qq hK=>tab_move (tab_free rfl) _ rfl (up_eq ((ha 0 (by kernel_rfl)).trans rfl)) hK) ?_
  refine TabAll.cons (fun aa wv hb ha hS Kk Qq hK=>tab_move (tab_free rfl) _ rfl (up_eq ((ha 1 (by kernel_rfl)).trans rfl)) hK) ?_
  refine TabAll.cons (fun aa wv hb ha hS Kk Qq hK=>tab_call (tab_free rfl) 68 _ _ rfl (enters_of Tryz.func68 (by kernel_rfl) rfl) #[.pointer (some ⟨g,0,none⟩),.int .u8 0,.slice A2 t c2] (by have e14:=(show aa.eval (.tmp 14)=.pointer (some ⟨g,0,none⟩)from(hS 0 14 (by kernel_rfl) rfl).here);have e15:=(show aa.eval (.tmp 15)=.slice A2 t c2 from(hS 1 15 (by kernel_rfl) rfl).here);have ec:aa.eval (.const (.int .u8 0))=.int .u8 0:=rfl;simp[e14,e15,ec]) (HZERO.out wv (HB4.out.trans (hb.mono HB4.out.size))) (fun ee w' ⟨h1,h2⟩=>⟨_,h1,h2,up_eq rfl⟩) hK) ?_
  refine TabAll.cons (fun aa wv hb ha hS Kk Qq hK=>tab_row (tab_free rfl) _ _ rfl h5 0 ((ha 5 (by kernel_rfl)).trans rfl) [.int .u8 (M.1:Int),.int .i64 (M.2:Int)] _ (rangeBox (HX4.out.below hb HX4.out.lt)) Tryz.underlying102 rfl (szTryL _ _) (up_eq rfl) hK) ?_
  refine TabAll.cons (fun aa wv hb ha hS Kk Qq hK=>tab_call (tab_free rfl) 69 _ _ rfl (enters_of Tryz.func69 (by kernel_rfl) rfl) #[.agg (tryA M.1 M.2)] (by simp[(show aa.eval (.tmp 17)=.agg (tryA M.1 M.2)from(hS 3 17 (by kernel_rfl) rfl).here)]) (WHO.out wv) (fun ee w' ⟨h1,h2⟩=>⟨_,h1,h2,up_eq rfl⟩) hK) ?_
  refine TabAll.cons (fun aa wv hb ha hS Kk Qq hK=>by have e16:=(show aa.eval (.tmp 16)=.agg #[.int .u8 0,.int .i64 (n0:Int)]from(hS 2 16 (by kernel_rfl) rfl).here);have e18:=(show aa.eval (.tmp 18)=.agg #[.int .u8 (M.1:Int),.int .i64 (NW:Int)]from(hS 4 18 (by kernel_rfl) rfl).here);exact tab_make (w':=wv.alloc (.cells #[.int .u8 0,.int .i64 (n0:Int),.int .u8 (M.1:Int),.int .i64 (NW:Int)] 102)) (tab_free rfl) (.slice (some ⟨wv.heap.size,0,none⟩) 2 2) (by unfold execOp;simp only[List.map_toArray,List.map_cons,List.map_nil,e16,e18,Sem.run_bind,run_two,Result.andThen_ok];rfl) ((Below.refl _ _).alloc (Nat.le_refl _) _) (fun W hW=>⟨_,rfl,(BoxC.new wv _ _).below hW (by simp)⟩) hK) ?_
  refine TabAll.cons (fun aa wv hb ha hS Kk Qq hK=>by obtain⟨gb,e19,x19⟩:=(hS 5 19 (by kernel_rfl) rfl).here;exact tab_call (tab_free rfl) 67 _ _ rfl (enters_of Tryz.func67 (by kernel_rfl) rfl) #[.slice (some ⟨gb,0,none⟩) 2 2] (by simp[e19]) (SHO.out wv gb x19) (fun ee w' ⟨h1,h2⟩=>⟨_,h1,h2,up_eq rfl⟩) hK) ?_
  refine TabAll.cons (fun aa wv hb ha hS Kk Qq hK=>by have e20:=(show aa.eval (.tmp 20)=.agg (tryA R.1 R.2)from(hS 6 20 (by kernel_rfl) rfl).here);exact tab_val (tab_free rfl) (.int .u8 (R.1:Int)) (by unfold execOp;simp only[e20,run_try0,Sem.run_bind,Result.andThen_ok];rfl) (up_eq rfl) hK) ?_
  refine TabAll.cons (fun aa wv hb ha hS Kk Qq hK=>tab_assign (tab_free rfl) _ rfl (hS 7 21 (by kernel_rfl) rfl) hK) ?_
  exact TabAll.nil
 intro vals w5 hb hv
 have e4:vals 4=.int .u8 (R.1:Int):=(hv 8 4 rfl).here
 have HB5:=Lib.hid (HB4.out.trans (hb.mono HB4.out.size))
 clear hb hv
 simp only[List.map_cons,List.map_nil,putL,Act.put,List.setIfInBounds_toArray,List.set_cons_zero,List.set_cons_succ,e4]
 clear e4
 go_wp2
 go_ret
 exact⟨rfl,HB5.out⟩
end Go.Proofs.YtokpcpjnihinfaaGreat
namespace Go.Proofs.YtokpcpjnihinfaaGreat
open Go.RowKit Go.ChangeShapes Go.WideShapes Go.ChangeAt Go.Joins
theorem send_lit(w:World)(B g:Nat)(p:Prs)(out:List Nat)(Ah:Option Addr)(hc:Nat)(Aw:Option Addr)(wc:Nat)(Ap:Option Addr)(pc:Nat)(Ao:Option Addr)(oc:Nat)(U:Und w B g p out Ah hc Aw wc Ap pc Ao oc)(gd:GoodW p)(hw:p.wait=[])(hol:out.length≤90000000):
  Calls Tryz.prog 51 #[.pointer (some ⟨g,0,none⟩),.int .u8 0,.int .i64 0,.slice none 0 0,.bool false] w fun e w'=>e=.returned (.tuple #[])∧(∃Ah' hc' Aw' wc' Ap' pc' Ao' oc',Und w' B g (sendP p 0 0 [] false).1 (out++(sendP p 0 0 [] false).2) Ah' hc' Aw' wc' Ap' pc' Ao' oc')∧Below B w w':=by
 have key:∀(u v:Int),u=((0:Nat):Int)→v=((0:Nat):Int)→Calls Tryz.prog 51 #[.pointer (some ⟨g,0,none⟩),.int .u8 u,.int .i64 v,.slice none 0 0,.bool false] w fun e w'=>e=.returned (.tuple #[])∧(∃Ah' hc' Aw' wc' Ap' pc' Ao' oc',Und w' B g (sendP p 0 0 [] false).1 (out++(sendP p 0 0 [] false).2) Ah' hc' Aw' wc' Ap' pc' Ao' oc')∧Below B w w':=by
  intro u v hu hv
  subst hu;subst hv
  exact send_any w B g p out Ah hc Aw wc Ap pc Ao oc U gd 0 (by omega) 0 (Nat.zero_le _) (by omega) (by rw[hw];show 0≤_;omega) hol none 0 0 [] (TkR.nil _ _) (by show 0≤65535;omega) (fun t ht=>by cases ht) false
 exact key 0 0 rfl rfl
theorem send_len{p:Prs}(gd:GoodW p)(kind n:Nat)(l:List Tok)(last:Bool)(hk:kind≤2)(hn:n≤65535)(hl:l.length≤65535)(hok:∀t∈l,mayT t=true∧t.x<256):(sendP p kind n l last).2.length≤4000000:=by
 have hle:=putP_le (k:=p.k.toNat) (kind:=kind) (raw:=p.wait.take n) (l:=l) (last:=last) hk (by have:=gd.k7;omega) (by rw[List.length_take];omega) (take_mem gd.bw n) hl hok
 have hle2:(putP p.pen p.k.toNat kind (p.wait.take n) l last).2≤4320007:=hle
 show((putP p.pen p.k.toNat kind (p.wait.take n) l last).1.take _).length≤_
 rw[List.length_take]
 omega
theorem pflush_any(w:World)(B g:Nat)(p:Prs)(out:List Nat)(Ah:Option Addr)(hc:Nat)(Aw:Option Addr)(wc:Nat)(Ap:Option Addr)(pc:Nat)(Ao:Option Addr)(oc:Nat)(U:Und w B g p out Ah hc Aw wc Ap pc Ao oc)(gd:GoodP p)(hol:out.length≤70000000):
  Calls Tryz.prog 33 #[.pointer (some ⟨g,0,none⟩)] w fun e w'=>e=.returned (.tuple #[])∧(∃Ah' hc' Aw' wc' Ap' pc' Ao' oc',Und w' B g (flushedP p).1 (out++(flushedP p).2) Ah' hc' Aw' wc' Ap' pc' Ao' oc')∧Below B w w':=by
 have hs:=mayS_rng gd.sty
 have hwb:p.wait.length≤65535:=by have:=gd.wait;omega
 obtain⟨wn,hwn⟩:∃x,x=p.wait.length:=⟨_,rfl⟩
 have c5:w.cell? ⟨g,5,none⟩=some (.slice Aw wn wc):=by rw[hwn];exact U.box.cell.trans rfl
 have HLE:=Lib.hid U.le
 by_cases h0:wn=0
 ·have hw:p.wait=[]:=List.length_eq_zero_iff.1 (by omega)
  have hfl:=pad_none gd hw
  obtain⟨kk,hkk⟩:∃kk:Nat,p.k=(kk:Int):=⟨p.k.toNat,by have:=gd.k0;omega⟩
  have e0:decide ((0:Int)<(wn:Int))=false:=decide_eq_false (by omega)
  have e1:decide (0<wn)=false:=decide_eq_false (by omega)
  have e2:¬0<wn:=by omega
  have HFL:=Lib.hid hfl;have HKK:=Lib.hid hkk;have HUV:=Lib.hid U;have HGR:=Lib.hid gd.w;have HRW:=Lib.hid hw;have HBV:Hid (Below B w w):=Lib.hid (Below.refl _ _);have HOV:Hid (out.length≤90000000):=Lib.hid (by omega)
  by_cases hk0:0<kk
  ·have hpd:padP (p,[])=((sendP p 0 0 [] false).1,[]++(sendP p 0 0 [] false).2):=by unfold padP;rw[if_pos (by show 0<p.k;omega)]
   rw[List.nil_append]at hpd
   have z1:decide ((0:Int)<(kk:Int))=true:=decide_eq_true (by omega)
   have z2:decide (0<kk)=true:=decide_eq_true (by omega)
   have z3:0<kk:=by omega
   have HPD:=Lib.hid hpd
   clear U gd hs hwb hwn h0 hw hfl hkk hol hpd hk0
   go_enter Tryz.func33,Tryz.ntmps33
   have s7:w.cell? ⟨g,7,none⟩=some (.int .i64 (kk:Int)):=by rw[←HKK.out];exact HUV.out.box.cell.trans rfl
   have HS0:=Lib.hid (send_lit w B g _ _ _ _ _ _ _ _ _ _ HUV.out HGR.out HRW.out HOV.out)
   go_wp2_with fail
   refine HS0.out.mono ?_
   rintro e wz ⟨rfl,⟨Z1,y1,Z2,y2,Z3,y3,Z4,y4,UZ⟩,hbz⟩
   have HUZ:=Lib.hid UZ;have HBZ:=Lib.hid (HBV.out.trans hbz)
   clear UZ hbz
   go_wp2
   go_end0
   exact⟨rfl,⟨Z1,y1,Z2,y2,Z3,y3,Z4,y4,by rw[←HFL.out,HPD.out];exact HUZ.out⟩,HBZ.out⟩
  ·have hpd:padP (p,[])=(p,[]):=by unfold padP;rw[if_neg (by show¬0<p.k;omega)]
   have k0:kk=0:=by omega
   have z1:decide ((0:Int)<(kk:Int))=false:=decide_eq_false (by omega)
   have z2:decide (0<kk)=false:=decide_eq_false (by omega)
   have z3:¬0<kk:=by omega
   have HPD:=Lib.hid hpd
   clear gd hs hwb hwn h0 hw hfl hkk hol hpd hk0 k0
   go_enter Tryz.func33,Tryz.ntmps33
   have s7:w.cell? ⟨g,7,none⟩=some (.int .i64 (kk:Int)):=by rw[←HKK.out];exact HUV.out.box.cell.trans rfl
   go_wp2
   go_end0
   exact⟨rfl,⟨_,_,_,_,_,_,_,_,by rw[←HFL.out,HPD.out,List.append_nil];exact HUV.out⟩,HBV.out⟩
 ·have hw0:0<p.wait.length:=by omega
  have hfl:=flush_is gd hw0
  have hcut:=cut_any w B g p out Ah hc Aw wc Ap pc Ao oc U gd.w p.wait.length (Nat.le_refl _) hwb (by omega)
  rw[List.take_length]at hcut
  obtain⟨t1,t2⟩:=tkP_ok gd.sty gd.bh gd.bw
  obtain⟨TL,hTL⟩:∃l,l=tkP p p.wait:=⟨_,rfl⟩
  rw[←hTL]at hcut hfl t1 t2
  obtain⟨KD,hKD⟩:∃x,x=wayP p TL:=⟨_,rfl⟩
  have hKD2:KD≤2:=by rw[hKD];exact wayP_le _ _
  rw[←hKD,←hwn]at hfl
  obtain⟨r,hr⟩:∃r,r=sendP p KD wn TL false:=⟨_,rfl⟩
  rw[←hr]at hfl
  have hgr:GoodW r.1:=by rw[hr];exact sendP_good gd.w _ _ _ _
  have hrw:r.1.wait=[]:=by rw[hr];show p.wait.drop wn=[];rw[hwn,List.drop_length]
  have hrl:r.2.length≤4000000:=by rw[hr];exact send_len gd.w KD wn TL false hKD2 (by omega) (by omega) t2
  have HWAY:Hid (∀(V:World) (A2:Option Addr) (t c2:Nat),Und V B g p out Ah hc Aw wc Ap pc Ao oc→TkR V V.heap.size A2 t c2 TL→Calls Tryz.prog 52 #[.pointer (some ⟨g,0,none⟩),.slice A2 t c2] V fun e w'=>e=.returned (.int .u8 (KD:Int))∧Below V.heap.size V w'):=Lib.hid fun V A2 t c2 UV ht=>by
   have:=way_any V B g p out Ah hc Aw wc Ap pc Ao oc UV gd.w hwb A2 t c2 TL ht (by omega) t2
   rwa[←hKD]at this
  have HSND:Hid (∀(V:World) (A2:Option Addr) (t c2:Nat),Und V B g p out Ah hc Aw wc Ap pc Ao oc→TkR V V.heap.size A2 t c2 TL→Calls Tryz.prog 51 #[.pointer (some ⟨g,0,none⟩),.int .u8 (KD:Int),.int .i64 (wn:Int),.slice A2 t c2,.bool false] V fun e w'=>e=.returned (.tuple #[])∧(∃Ah' hc' Aw' wc' Ap' pc' Ao' oc',Und w' B g r.1 (out++r.2) Ah' hc' Aw' wc' Ap' pc' Ao' oc')∧Below B V w'):=Lib.hid fun V A2 t c2 UV ht=>by
   have:=send_any V B g p out Ah hc Aw wc Ap pc Ao oc UV gd.w KD hKD2 wn (by omega) (by omega) (by omega) (by omega) A2 t c2 TL ht (by omega) t2 false
   rwa[←hr]at this
  have e0:decide ((0:Int)<(wn:Int))=true:=decide_eq_true (by omega)
  have e1:decide (0<wn)=true:=decide_eq_true (by omega)
  have e2:0<wn:=by omega
  rw[←hwn]at hcut
  have HFL:=Lib.hid hfl;have HU:=Lib.hid U;have HGR:=Lib.hid hgr;have HRW:=Lib.hid hrw;have HCUT:=Lib.hid hcut;have HOV:Hid ((out++r.2).length≤90000000):=Lib.hid (by rw[List.length_append];omega)
  obtain⟨kk,hkk⟩:∃kk:Nat,r.1.k=(kk:Int):=⟨r.1.k.toNat,by have:=hgr.k0;omega⟩
  have HKK:=Lib.hid hkk
  have hpdy:0<kk→padP r=((sendP r.1 0 0 [] false).1,r.2++(sendP r.1 0 0 [] false).2):=fun h=>by unfold padP;rw[if_pos (by omega)]
  have hpdn:¬0<kk→padP r=r:=fun h=>by unfold padP;rw[if_neg (by omega)]
  have HPY:=Lib.hid hpdy;have HPN:=Lib.hid hpdn
  clear U gd hs hwb hwn h0 hw0 hfl hcut t1 t2 hTL hKD hKD2 hr hgr hrw hrl hol hkk hpdy hpdn
  go_enter Tryz.func33,Tryz.ntmps33
  go_wp2_with fail
  refine HCUT.out.mono ?_
  rintro e w2 ⟨A2,t,c2,rfl,ht,hb2⟩
  have hway:=HWAY.out w2 A2 t c2 (HU.out.below hb2) ht
  have HW2:=Lib.hid hway;have HU2:=Lib.hid (HU.out.below hb2);have HT2:=Lib.hid ht;have HB2:=Lib.hid (hb2.mono (B':=B) (by have:=HLE.out;have:=HU.out.lt;omega))
  clear hway ht hb2 HCUT
  go_wp2_with fail
  refine HW2.out.mono ?_
  rintro e w3 ⟨rfl,hb3⟩
  have hsnd:=HSND.out w3 A2 t c2 (HU2.out.below hb3) ((HT2.out.below hb3 (Nat.le_refl _)).more hb3.size)
  have HS3:=Lib.hid hsnd;have HB3:=Lib.hid (HB2.out.trans (hb3.mono (by have:=HLE.out;have:=HU2.out.lt;omega)))
  clear hsnd hb3 HW2
  go_wp2_with fail
  refine HS3.out.mono ?_
  rintro e w4 ⟨rfl,⟨A4,k4,A5,k5,A6,k6,A7,k7,U4⟩,hb4⟩
  have HUV:=Lib.hid U4;have HBV:=Lib.hid (HB3.out.trans hb4)
  clear U4 hb4 HS3
  by_cases hk0:0<kk
  ·have HPD:=Lib.hid (HPY.out hk0)
   have z1:decide ((0:Int)<(kk:Int))=true:=decide_eq_true (by omega)
   have z2:decide (0<kk)=true:=decide_eq_true (by omega)
   have z3:0<kk:=by omega
   have s7:w4.cell? ⟨g,7,none⟩=some (.int .i64 (kk:Int)):=by rw[←HKK.out];exact HUV.out.box.cell.trans rfl
   have HS0:=Lib.hid (send_lit w4 B g _ _ _ _ _ _ _ _ _ _ HUV.out HGR.out HRW.out HOV.out)
   go_wp2_with fail
   refine HS0.out.mono ?_
   rintro e wz ⟨rfl,⟨Z1,y1,Z2,y2,Z3,y3,Z4,y4,UZ⟩,hbz⟩
   have HUZ:=Lib.hid UZ;have HBZ:=Lib.hid (HBV.out.trans hbz)
   clear UZ hbz
   go_wp2
   go_end0
   exact⟨rfl,⟨Z1,y1,Z2,y2,Z3,y3,Z4,y4,by rw[←HFL.out,HPD.out,←List.append_assoc];exact HUZ.out⟩,HBZ.out⟩
  ·have HPD:=Lib.hid (HPN.out hk0)
   have k0:kk=0:=by omega
   have z1:decide ((0:Int)<(kk:Int))=false:=decide_eq_false (by omega)
   have z2:decide (0<kk)=false:=decide_eq_false (by omega)
   have z3:¬0<kk:=by omega
   clear k0
   have s7:w4.cell? ⟨g,7,none⟩=some (.int .i64 (kk:Int)):=by rw[←HKK.out];exact HUV.out.box.cell.trans rfl
   go_wp2
   go_end0
   exact⟨rfl,⟨_,_,_,_,_,_,_,_,by rw[←HFL.out,HPD.out];exact HUV.out⟩,HBV.out⟩
end Go.Proofs.YtokpcpjnihinfaaGreat
