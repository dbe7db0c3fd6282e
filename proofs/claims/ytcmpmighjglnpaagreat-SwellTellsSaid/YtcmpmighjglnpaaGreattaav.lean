/-
  Words and walks.
-/
import Derived.Test.YtcmpmighjglnpaaGreattaaa
import Derived.Test.YtcmpmighjglnpaaGreattaar
import Derived.Test.YtcmpmighjglnpaaGreattaau
set_option maxRecDepth 100000
set_option maxHeartbeats 16000000
namespace Go.Proofs.YtcmpmighjglnpaaGreat
open Go.RowKit
theorem float_bin{P:Program}{o:Oper}{a:Act}(b:BinOp)(t t':TypeId)(x y:Operand)(ho:o.op=.binOp b t x y t')(u z v:Value)(hx:a.eval x=u)(hy:a.eval y=z)(hg:∀w,(eqGuard b t x y u z).run P w=.ok () w)(hr:∀w,(binOp b t u z).run P w=.ok v w):∀w',(execOp a.eval o).run P w'=.ok (.value v) w':=fun w'=>by
 simp only[execOp,ho,hx,hy,Sem.run_bind,hg,hr,Result.andThen_ok];rfl
def OwnB(w:World)(B:Nat)(v:Value)(l:Nat)(f:Nat→Nat):Prop:=∃A c,v=.slice A l c∧w.ownsRow B 5 1 v l (bytesL l f)
structure RstD (w:World) (h0 p:Nat) (u:UnV) (st:Option Blk13) (g:Nat→Nat) (L:Nat) (pw out:List Nat) (il:Nat) (e:Ending) (w':World):Prop where
 ret:e=.returned (.int .i64 (if u.ov=true then max (((u.bit+7)/8:Nat)-(il:Int)) 0 else(L:Int)-(il:Int)))
 ok:∃u',UnR w' h0 p u' st g L (winO pw out u.wait) out∧u'.M=u.M∧u'.D=u.D∧u'.ov=u.ov∧(u.ov=true→u'.I=.slice none 0 0∧u'.a=0)∧(u.ov=false→OwnB w' h0 u'.I (L-u.bit/8) (dropG g (u.bit/8))∧u'.a=((u.bit%8:Nat):Int))∧
  ∃A' c',u'.W=.slice A' (winO pw out u.wait).length c'∧NewB w' h0 A' (winO pw out u.wait).length
 bel:Below h0 w w'
theorem NewB.frA{w w':World}{B n p:Nat}{A:Option Addr}(h:NewB w B A n)(f:Fr (At p) w w'){cs:Array Value}{t:TypeId}(hb:BoxC w p cs t)(ht:(t==5)=false):NewB w' B A n:=fun h0=>by
 obtain⟨g,o,cur,h1,h2,h3⟩:=h h0
 refine⟨g,o,cur,h1,h2,(f.block g (Array.getElem?_eq_some_iff.1 h3).1 fun e=>?_).trans h3⟩
 have e':g=p:=e
 subst e'
 have h4:w.heap[g]?=some (.cells cs t (0,0)):=hb
 rw[h4]at h3
 injection h3 with h3;injection h3 with _ h5 _
 rw[h5]at ht;simp at ht
theorem urest_any(w:World)(h0 p:Nat)(u:UnV)(st:Option Blk13)(g:Nat→Nat)(L:Nat)(pw out:List Nat)(h:UnR w h0 p u st g L pw out)(ho:out.length≤131072)(il:Nat)(hil:il≤L):
  Calls Tryz.prog 24 #[.pointer (some ⟨p,0,none⟩),.int .i64 (il:Int)] w fun e w'=>RstD w h0 p u st g L pw out il e w':=by
 have hS:=usettle_any w h0 p u st g L pw out h ho
 obtain⟨PW,hPW⟩:∃P,P=winO pw out u.wait:=⟨_,rfl⟩
 have HS:=Lib.hid hS
 have hLL:=h.lL
 have hbit:=h.bit
 have HPW:=Lib.hid hPW
 by_cases hov:u.ov=true
 ·obtain⟨N,hN⟩:∃N:Int,N=max (((u.bit+7)/8:Nat)-(il:Int)) 0:=⟨_,rfl⟩
  obtain⟨q,hq⟩:∃q,q=(u.bit+7)/8:=⟨_,rfl⟩
  rw[←hq]at hN
  have HOV:=Lib.hid hov;have HN:=Lib.hid hN;have HQ:=Lib.hid hq
  have HBT0:Hid (u.bit≤8000000):=Lib.hid (by omega)
  have hil8:(il:Int)≤1000000:=by omega
  have hq8:(q:Int)≤1000001:=by omega
  have hcase:(q:Int)-(il:Int)<0∨¬((q:Int)-(il:Int)<0):=by omega
  clear hS h ho hPW hbit hov hN hq
  rcases hcase with hlt|hlt
  all_goals(
   go_enter Tryz.func24,Tryz.ntmps24
   go_wp2_with fail
   refine HS.out.mono ?_
   rintro e w2 ⟨rfl,⟨u2,r1,r2,r3,r4,r5,r6,r7,r8,A',c',r9,r10⟩,rb,rf⟩
   have c44:=r1.box.cov
   rw[r6,HOV.out]at c44
   have c2:=r1.box.cI
   have f2:=r1.box.free 2
   obtain⟨w3,hw3⟩:∃W,W=w2.setCell ⟨p,2,none⟩ (.slice none 0 0):=⟨_,rfl⟩
   have b3:=r1.box.sI (.slice none 0 0)
   rw[←hw3]at b3
   have c3:=b3.ca
   have f3:=b3.free 3
   obtain⟨w4,hw4⟩:∃W,W=w3.setCell ⟨p,3,none⟩ (.int .i64 0):=⟨_,rfl⟩
   have b4:=b3.sa 0
   rw[←hw4]at b4
   have F:Fr (At p) w2 w4:=by rw[hw4,hw3];exact(Fr.cell w2 p 2 _).trans (Fr.cell _ p 3 _)
   have h4:=r1.cells F b4 rfl rfl rfl rfl (r1.blk.cells r1.box r1.own F:BlkT w4 h0 u2 st) r1.bit r1.wait
   have c46:=h4.box.cbit
   obtain⟨bt,hbt⟩:∃b,b=u2.bit:=⟨_,rfl⟩
   have c46':w4.cell? ⟨p,46,none⟩=some (.int .i64 (bt:Int)):=by rw[hbt];exact c46
   have ebt:bt=u.bit:=hbt.trans r7
   have e1:((bt:Int)+7)/8=(q:Int):=by have:=HQ.out;omega
   have l1:(bt:Int)≤8000000:=by have:=HBT0.out;omega
   have HFIN:Hid (RstD w h0 p u st g L pw out il (.returned (.int .i64 N)) w4):=Lib.hid (by
    refine⟨by rw[if_pos HOV.out,HN.out,HQ.out],⟨_,h4,r2,r3,r6,fun _=>⟨rfl,rfl⟩,fun h=>(by rw[HOV.out]at h;cases h),A',c',r9,r10.frA F r1.box (by kernel_rfl)⟩,rb.trans (F.below (fun j hj=>by have hj':j=p:=hj;rw[hj'];exact r1.lo) r1.bel)⟩)
   have HW3:=Lib.hid hw3;have HW4:=Lib.hid hw4
   clear r1 r2 r3 r4 r5 r6 r7 r8 r9 r10 rb rf hw3 b3 hw4 b4 F h4 c46 hbt ebt
   go_wp2_with (first
    |(rw[←HW3.out])
    |(rw[←HW4.out])
    |fail)
   go_ret
   have hf:=HFIN.out
   have hn:=HN.out
   first
    |(rw[show N=0 by omega]at hf;exact hf)
    |(rw[show N=(q:Int)-(il:Int) by omega]at hf;exact hf))
 ·have hov':u.ov=false:=by simpa using hov
  obtain⟨s,hs⟩:∃s,s=u.bit/8:=⟨_,rfl⟩
  obtain⟨r,hr⟩:∃s,s=u.bit%8:=⟨_,rfl⟩
  have HOV:=Lib.hid hov';have HSS:=Lib.hid hs;have HRR:=Lib.hid hr
  have HBT0:Hid (u.bit≤8*L):=Lib.hid hbit
  have hL0:(L:Int)≤1000000:=by omega
  have hil0:(il:Int)≤(L:Int):=by omega
  clear hS h ho hPW hbit hov hov' hs hr
  go_enter Tryz.func24,Tryz.ntmps24
  go_wp2_with fail
  refine HS.out.mono ?_
  rintro e w2 ⟨rfl,⟨u2,r1,r2,r3,r4,r5,r6,r7,r8,A',c',r9,r10⟩,rb,rf⟩
  have c44:=r1.box.cov
  rw[r6,HOV.out]at c44
  obtain⟨Ab,cb,eb,hB⟩:=r1.b
  obtain⟨A2,hA2⟩:∃A2,(if cb=s then Ab else Ab.map (·.add s))=A2:=⟨_,rfl⟩
  obtain⟨bt,hbt⟩:∃b,b=u.bit:=⟨_,rfl⟩
  have hsL:s≤L:=by have:=HBT0.out;have:=HSS.out;omega
  have ELE:=Lib.hid hsL;have EA2:=Lib.hid hA2
  have CB:Hid (∀V,Below w2.heap.size w2 V→V.cell? ⟨p,45,none⟩=some (.slice Ab L cb)):=Lib.hid fun V hV=>by
   have q:=(r1.on hV).box.cb
   rw[eb]at q;exact q
  have CT:Hid (∀V,Below w2.heap.size w2 V→V.cell? ⟨p,46,none⟩=some (.int .i64 (bt:Int))):=Lib.hid fun V hV=>by
   have q:=(r1.on hV).box.cbit
   rw[r7,←hbt]at q;exact q
  have QUO:Hid (∀V:World,(binOp .quo 3 (.int .i64 (bt:Int)) (.int .i64 8)).run Tryz.prog V=.ok (.int .i64 (s:Int)) V):=Lib.hid fun V=>by
   have:=quo_nat Tryz.prog 3 bt 8 (by omega) (by have:=HBT0.out;omega) V
   rw[show bt/8=s by rw[hbt];exact HSS.out.symm]at this;exact this
  have REM:Hid (∀V:World,(binOp .rem 3 (.int .i64 (bt:Int)) (.int .i64 8)).run Tryz.prog V=.ok (.int .i64 (r:Int)) V):=Lib.hid fun V=>by
   have:=rem_nat Tryz.prog 3 .i64 bt 8 (by omega) V
   rw[show bt%8=r by rw[hbt];exact HRR.out.symm]at this;exact this
  have CL:Hid (∀V,Below w2.heap.size w2 V→Calls Tryz.prog 41 #[.slice A2 (L-s) (cb-s)] V fun e w'=>∃A' c',e=.returned (.slice A' (L-s) c')∧w'.ownsRow w2.heap.size 5 1 (.slice A' (L-s) c') (L-s) (bytesL (L-s) (dropG g s))∧Below V.heap.size V w'):=Lib.hid fun V hV=>by
   have hb9:ByR V V.heap.size Ab L cb g:=by
    obtain⟨Ab',cb',e',hB'⟩:=(r1.on hV).b
    rw[eb]at e';injection e' with e1 _ e2;rw[e1,e2];exact hB'.r
   have hb3:ByR V V.heap.size A2 (L-s) (cb-s) (dropG g s):=by
    rcases Ab with _|ad
    ·have hc0:=hb9.2.1 rfl
     have hL9:L=0:=by have:=hb9.2.2.1;omega
     have hs0:s=0:=by omega
     have:A2=none:=by rw[←hA2,hc0,hs0];rfl
     rw[this,hL9,hc0,hs0]
     exact ByR.nil _ _ _ (fun j=>hb9.1.1 _)
    ·have:=hb9.drop (p:=s) hsL (A2:=A2) (by rw[←hA2];rfl)
     exact this.ext (fun j=>hb9.1.1 _) fun j _=>by unfold dropG;rw[Nat.add_comm]
   exact(clone14_any V A2 (L-s) (cb-s) (dropG g s) hb3 (by omega)).mono fun e w' ⟨A',c',x1,x2,x3⟩=>⟨A',c',x1,ownsRow_lower x2 hV.size,x3⟩
  have HR1:=Lib.hid r1;have HR2:=Lib.hid r2;have HR3:=Lib.hid r3;have HR6:=Lib.hid r6;have HR7:=Lib.hid r7;have HR9:=Lib.hid r9;have HR10:=Lib.hid r10;have HRB:=Lib.hid rb;have HEB:=Lib.hid eb;have HBT:=Lib.hid hbt
  clear r1 r2 r3 r4 r5 r6 r7 r8 r9 r10 rb rf eb hB hA2 hbt
  go_wp2_with fail
  refine wp_region_tabg 21 [1,17] (tabT [fun v _=>v=.pointer (some ⟨p,0,none⟩),fun v _=>v=.pointer (some ⟨p,0,none⟩),fun v _=>v=.pointer (some ⟨p,0,none⟩),fun v _=>v=.pointer (some ⟨p,0,none⟩),fun v _=>v=.pointer (some ⟨p,45,none⟩),fun v _=>v=.slice Ab L cb,fun v _=>v=.pointer (some ⟨p,0,none⟩),fun v _=>v=.pointer (some ⟨p,0,none⟩),fun v _=>v=.pointer (some ⟨p,46,none⟩),fun v _=>v=.int .i64 (bt:Int),fun v _=>v=.int .i64 (s:Int),fun v _=>v=.slice A2 (L-s) (cb-s),fun v W=>∃A' c',v=.slice A' (L-s) c'∧W.ownsRow w2.heap.size 5 1 (.slice A' (L-s) c') (L-s) (bytesL (L-s) (dropG g s)),fun v _=>v=.pointer (some ⟨p,0,none⟩),fun v _=>v=.pointer (some ⟨p,0,none⟩),fun v _=>v=.pointer (some ⟨p,46,none⟩),fun v _=>v=.int .i64 (bt:Int),fun v _=>v=.int .i64 (r:Int),fun v _=>v=.pointer (some ⟨p,0,none⟩),fun v _=>v=.pointer (some ⟨p,0,none⟩),fun v _=>v=.pointer (some ⟨p,2,none⟩)]) w2 (Below.refl _ _) (by kernel_rfl) (by kernel_rfl) (List.forall_mem_cons.2 ⟨⟨_,_,rfl,rfl,rfl,(fun _ _ _ _ h=>h),fun aa wv hb ha hS=>⟨_,float_move _ rfl _ ((ha 0 (by kernel_rfl)).trans rfl),up_eq rfl⟩⟩,(List.forall_mem_cons.2 ⟨⟨_,_,rfl,rfl,rfl,(fun _ _ _ _ h=>h),fun aa wv hb ha hS=>⟨_,float_bin _ _ _ _ _ rfl _ _ (.int .i64 (r:Int)) (show aa.eval (.tmp 45)=.int .i64 (bt:Int)from(hS 16 45 (by kernel_rfl) rfl).here) rfl (eqg_no _ _ _ _ _ _ _ (by decide) (by decide)) REM.out,up_eq rfl⟩⟩,(fun _ h=>by cases h)⟩)⟩) ?_ ?_
  case refine_1=>
   simp only[List.take_succ_cons,List.take_zero]
   refine TabAll.cons (fun aa wv hb ha hS Kk Qq hK=>tab_move (tab_free rfl) _ rfl (up_eq ((ha 0 (by kernel_rfl)).trans rfl)) hK) ?_
   refine TabAll.cons (fun aa wv hb ha hS Kk Qq hK=>tab_move (tab_free rfl) _ rfl (up_eq ((ha 0 (by kernel_rfl)).trans rfl)) hK) ?_
   refine TabAll.cons (fun aa wv hb ha hS Kk Qq hK=>tab_move (tab_free rfl) _ rfl (up_eq ((ha 0 (by kernel_rfl)).trans rfl)) hK) ?_
   refine TabAll.cons (fun aa wv hb ha hS Kk Qq hK=>tab_nil14 (tab_free rfl) _ rfl ⟨p,0,none⟩ (show aa.eval (.tmp 31)=.pointer (some ⟨p,0,none⟩)from(hS 2 31 (by kernel_rfl) rfl).here) (up_eq rfl) hK) ?_
   refine TabAll.cons (fun aa wv hb ha hS Kk Qq hK=>tab_field (tab_free rfl) _ _ _ rfl _ (.pointer (some ⟨p,45,none⟩)) (show aa.eval (.tmp 32)=.pointer (some ⟨p,0,none⟩)from(hS 3 32 (by kernel_rfl) rfl).here) (by go_simp) (up_eq rfl) hK) ?_
   refine TabAll.cons (fun aa wv hb ha hS Kk Qq hK=>tab_load (tab_free rfl) _ _ rfl _ (.slice Ab L cb) (show aa.eval (.tmp 33)=.pointer (some ⟨p,45,none⟩)from(hS 4 33 (by kernel_rfl) rfl).here) (by have hc:=CB.out wv hb;go_simp) (up_eq rfl) hK) ?_
   refine TabAll.cons (fun aa wv hb ha hS Kk Qq hK=>tab_move (tab_free rfl) _ rfl (up_eq ((ha 0 (by kernel_rfl)).trans rfl)) hK) ?_
   refine TabAll.cons (fun aa wv hb ha hS Kk Qq hK=>tab_nil14 (tab_free rfl) _ rfl ⟨p,0,none⟩ (show aa.eval (.tmp 35)=.pointer (some ⟨p,0,none⟩)from(hS 6 35 (by kernel_rfl) rfl).here) (up_eq rfl) hK) ?_
   refine TabAll.cons (fun aa wv hb ha hS Kk Qq hK=>tab_field (tab_free rfl) _ _ _ rfl _ (.pointer (some ⟨p,46,none⟩)) (show aa.eval (.tmp 36)=.pointer (some ⟨p,0,none⟩)from(hS 7 36 (by kernel_rfl) rfl).here) (by go_simp) (up_eq rfl) hK) ?_
   refine TabAll.cons (fun aa wv hb ha hS Kk Qq hK=>tab_load (tab_free rfl) _ _ rfl _ (.int .i64 (bt:Int)) (show aa.eval (.tmp 37)=.pointer (some ⟨p,46,none⟩)from(hS 8 37 (by kernel_rfl) rfl).here) (by have hc:=CT.out wv hb;go_simp) (up_eq rfl) hK) ?_
   refine TabAll.cons (fun aa wv hb ha hS Kk Qq hK=>tab_bin (tab_free rfl) _ _ _ _ _ rfl _ _ (.int .i64 (s:Int)) (show aa.eval (.tmp 38)=.int .i64 (bt:Int)from(hS 9 38 (by kernel_rfl) rfl).here) rfl (eqg_no _ _ _ _ _ _ _ (by decide) (by decide) _) (QUO.out wv) (up_eq rfl) hK) ?_
   refine TabAll.cons (fun aa wv hb ha hS Kk Qq hK=>tab_slice (tab_free rfl) _ _ _ _ _ rfl (.slice Ab L cb) (.slice A2 (L-s) (cb-s)) (some (.int .i64 (s:Int))) none none (show aa.eval (.tmp 34)=.slice Ab L cb from(hS 5 34 (by kernel_rfl) rfl).here) (by have e:=(show aa.eval (.tmp 39)=.int .i64 (s:Int)from(hS 10 39 (by kernel_rfl) rfl).here);simp[e]) rfl rfl (run_from Ab A2 L cb s ELE.out EA2.out wv) (up_eq rfl) hK) ?_
   refine TabAll.cons (fun aa wv hb ha hS Kk Qq hK=>tab_call (tab_free rfl) 41 _ _ rfl (enters_of Tryz.func41 (by kernel_rfl) rfl) #[.slice A2 (L-s) (cb-s)] (by simp[(show aa.eval (.tmp 40)=.slice A2 (L-s) (cb-s)from(hS 11 40 (by kernel_rfl) rfl).here)]) (CL.out wv hb) (fun ee w' ⟨A',c',h1,h2,h5⟩=>⟨_,h1,h5,fun W hW=>⟨A',c',rfl,own_keep h2 hW⟩⟩) hK) ?_
   refine TabAll.cons (fun aa wv hb ha hS Kk Qq hK=>tab_move (tab_free rfl) _ rfl (up_eq ((ha 0 (by kernel_rfl)).trans rfl)) hK) ?_
   refine TabAll.cons (fun aa wv hb ha hS Kk Qq hK=>tab_nil14 (tab_free rfl) _ rfl ⟨p,0,none⟩ (show aa.eval (.tmp 42)=.pointer (some ⟨p,0,none⟩)from(hS 13 42 (by kernel_rfl) rfl).here) (up_eq rfl) hK) ?_
   refine TabAll.cons (fun aa wv hb ha hS Kk Qq hK=>tab_field (tab_free rfl) _ _ _ rfl _ (.pointer (some ⟨p,46,none⟩)) (show aa.eval (.tmp 43)=.pointer (some ⟨p,0,none⟩)from(hS 14 43 (by kernel_rfl) rfl).here) (by go_simp) (up_eq rfl) hK) ?_
   refine TabAll.cons (fun aa wv hb ha hS Kk Qq hK=>tab_load (tab_free rfl) _ _ rfl _ (.int .i64 (bt:Int)) (show aa.eval (.tmp 44)=.pointer (some ⟨p,46,none⟩)from(hS 15 44 (by kernel_rfl) rfl).here) (by have hc:=CT.out wv hb;go_simp) (up_eq rfl) hK) ?_
   refine TabAll.cons (fun aa wv hb ha hS Kk Qq hK=>tab_bin (tab_free rfl) _ _ _ _ _ rfl _ _ (.int .i64 (r:Int)) (show aa.eval (.tmp 45)=.int .i64 (bt:Int)from(hS 16 45 (by kernel_rfl) rfl).here) rfl (eqg_no _ _ _ _ _ _ _ (by decide) (by decide) _) (REM.out wv) (up_eq rfl) hK) ?_
   refine TabAll.cons (fun aa wv hb ha hS Kk Qq hK=>tab_nil14 (tab_free rfl) _ rfl ⟨p,0,none⟩ (show aa.eval (.tmp 29)=.pointer (some ⟨p,0,none⟩)from(hS 0 29 (by kernel_rfl) rfl).here) (up_eq rfl) hK) ?_
   refine TabAll.cons (fun aa wv hb ha hS Kk Qq hK=>tab_field (tab_free rfl) _ _ _ rfl _ (.pointer (some ⟨p,0,none⟩)) (show aa.eval (.tmp 47)=.pointer (some ⟨p,0,none⟩)from(hS 18 47 (by kernel_rfl) rfl).here) (by go_simp) (up_eq rfl) hK) ?_
   refine TabAll.cons (fun aa wv hb ha hS Kk Qq hK=>tab_field (tab_free rfl) _ _ _ rfl _ (.pointer (some ⟨p,2,none⟩)) (show aa.eval (.tmp 48)=.pointer (some ⟨p,0,none⟩)from(hS 19 48 (by kernel_rfl) rfl).here) (by go_simp) (up_eq rfl) hK) ?_
   exact TabAll.nil
  intro vals w5 hb hv
  obtain⟨Ac,cc,e41,o41⟩:=(hv 12 41 rfl).here
  have e46:vals 46=.int .i64 (r:Int):=(hv 17 46 rfl).here
  have e49:vals 49=.pointer (some ⟨p,2,none⟩):=(hv 20 49 rfl).here
  have e30:vals 30=.pointer (some ⟨p,0,none⟩):=(hv 1 30 rfl).here
  have h5:=HR1.out.on hb
  have k2:=h5.box.cI
  have f2:=h5.box.free 2
  obtain⟨w6,hw6⟩:∃W,W=w5.setCell ⟨p,2,none⟩ (.slice Ac (L-s) cc):=⟨_,rfl⟩
  have b6:=h5.box.sI (.slice Ac (L-s) cc)
  rw[←hw6]at b6
  have k3:=b6.ca
  have f3:=b6.free 3
  obtain⟨w7,hw7⟩:∃W,W=w6.setCell ⟨p,3,none⟩ (.int .i64 (r:Int)):=⟨_,rfl⟩
  have b7:=b6.sa (r:Int)
  rw[←hw7]at b7
  have F:Fr (At p) w5 w7:=by rw[hw7,hw6];exact(Fr.cell w5 p 2 _).trans (Fr.cell _ p 3 _)
  have h7:=h5.cells F b7 rfl rfl rfl rfl (h5.blk.cells h5.box h5.own F:BlkT w7 h0 u2 st) h5.bit h5.wait
  have o7:=own_blk o41 (w':=w7) fun j hj=>F.block j (own_blk_lt o41 j hj).2 fun e=>by
   have e':j=p:=e
   have:=(own_blk_lt o41 j hj).1
   have:=HR1.out.lt p (.inl rfl)
   omega
  have n7:=(HR10.out.below hb (Nat.le_refl _)).frA F h5.box (by kernel_rfl)
  have hbel:=HR1.out.bel
  have HFIN:Hid (RstD w h0 p u st g L pw out il (.returned (.int .i64 ((L:Int)-(il:Int)))) w7):=Lib.hid (by
   refine⟨by rw[if_neg (by rw[HOV.out];decide)],⟨_,h7,HR2.out,HR3.out,HR6.out,fun h=>(by rw[HOV.out]at h;cases h),fun _=>⟨?_,?_⟩,A',c',HR9.out,n7⟩,(HRB.out.trans (hb.mono hbel)).trans (F.below (fun j hj=>by have hj':j=p:=hj;rw[hj'];exact h5.lo) h5.bel)⟩
   ·rw[←HSS.out]
    exact⟨Ac,cc,rfl,ownsRow_lower o7 hbel⟩
   ·rw[←HRR.out])
  have c45:=h7.box.cb
  have c45':w7.cell? ⟨p,45,none⟩=some (.slice Ab L cb):=by rw[←HEB.out];exact c45
  have HW6:=Lib.hid hw6;have HW7:=Lib.hid hw7
  clear h5 hw6 b6 hw7 b7 F h7 o7 n7 hbel c45 o41 hb hv
  simp only[List.take_succ_cons,List.take_zero,List.drop_succ_cons,List.drop_zero,List.map_cons,List.map_nil,putL,Act.put,List.setIfInBounds_toArray,List.set_cons_zero,List.set_cons_succ,e41,e46,e49,e30]
  clear e41 e46 e49 e30
  go_wp2_with (first
   |(rw[←HW6.out])
   |(rw[←HW7.out])
   |fail)
  go_ret
  exact HFIN.out
end Go.Proofs.YtcmpmighjglnpaaGreat
namespace Go.Proofs.YtcmpmighjglnpaaGreat
open Go.RowKit
theorem run_nilI(w:World)(v:Value)(s:List Int)(h:RdS w w.heap.size v s)(hs:s.length≤1000000):
  ∃A' c' w',(Builtin.append_ #[24,24] 24 #[.slice none 0 0,v]).run Tryz.prog w=.ok (.slice A' s.length c') w'∧OwnS w' w.heap.size (.slice A' s.length c') s∧Below w.heap.size w w':=by
 obtain⟨A,cap,rfl,hr,hn,_⟩:=h
 obtain⟨A',c',w',h1,h2,h3,h5⟩:=run_app_s (z:=.int .i64 0) (by_:=8) Tryz.underlying24 infoInt rfl (by decide) w w.heap.size _ (.slice none 0 0) 0 [] (World.ownsRow_nil _ _ _ _) A s.length cap _ hr (intsL_one s) (by unfold maxLen;omega) (by omega) 24 hn (Nat.le_refl _)
 rw[Nat.zero_add]at h1 h2
 exact⟨A',c',w',h1,h2,(Below.refl _ _).grown h3 (Nat.le_refl _) (own_geS (World.ownsRow_nil w w.heap.size 3 1))⟩
def begU(u:UnV)(Ab:Option Addr)(L cb:Nat):UnV:={u with b:=.slice Ab L cb,bit:=u.a.toNat,t:=.slice none 0 0,wait:=0}
theorem UnB.s23{w:World}{p:Nat}{u:UnV}(h:UnB w p u)(v:Value):UnB (w.setCell ⟨p,23,none⟩ v) p {u with v1:=v}:=(BoxC.set h 23 _)
theorem UnB.s40{w:World}{p:Nat}{u:UnV}(h:UnB w p u)(v:Value):UnB (w.setCell ⟨p,40,none⟩ v) p {u with v2:=v}:=(BoxC.set h 40 _)
theorem UnB.c23{w:World}{p:Nat}{u:UnV}(h:UnB w p u):w.cell? ⟨p,23,none⟩=some u.v1:=(BoxC.cell h).trans rfl
theorem UnB.c40{w:World}{p:Nat}{u:UnV}(h:UnB w p u):w.cell? ⟨p,40,none⟩=some u.v2:=(BoxC.cell h).trans rfl
theorem built_und0(M D:Int)(I:Value)(a:Int)(kd:Nat)(last:Bool)(left:Int)(c1 c2:Nat→Int)(v1 v2:Value)(op:Bool)(S:Int)(W:Value)(ov:Bool)(Ab:Option Addr)(L cb:Nat)(bt:Nat):
  Tryz.prog.built 64 [(0,.agg (swA ⟨M,D,I,a,blkL kd last left c1 c2 v1 v2,op,S,W,ov⟩)),(1,.slice Ab L cb),(2,.int .i64 (bt:Int))]=some (unA ⟨M,D,I,a,kd,last,left,c1,c2,v1,v2,op,S,W,ov,.slice Ab L cb,bt,.slice none 0 0,0⟩):=by kernel_rfl
theorem built_und(u:UnV)(Ab:Option Addr)(L cb at_:Nat)(h:u.a=(at_:Int)):Tryz.prog.built 64 [(0,.agg (swA u.sw)),(1,.slice Ab L cb),(2,.int .i64 (at_:Int))]=some (unA (begU u Ab L cb)):=by
 have e:u.a.toNat=at_:=by rw[h];exact Int.toNat_natCast _
 have:=built_und0 u.M u.D u.I u.a u.kd u.last u.left u.c1 u.c2 u.v1 u.v2 u.op u.S u.W u.ov Ab L cb at_
 unfold begU
 rw[e]
 exact this
theorem run_two14{a:Act}{o:Oper}{x y:Operand}{A A':Option Addr}{n c n' c':Nat}{w:World}(ho:o.op=.buildSlice 96 2 #[(0,x),(1,y)])(hx:a.eval x=.slice A n c)(hy:a.eval y=.slice A' n' c'):(execOp a.eval o).run Tryz.prog w=.ok (.value (.slice (some ⟨w.heap.size,0,none⟩) 2 2)) (w.alloc (.cells #[.slice A n c,.slice A' n' c'] 22)):=by
 have h:∀ρ:Operand→Value,ρ x=.slice A n c→ρ y=.slice A' n' c'→(execOp ρ o).run Tryz.prog w=.ok (.value (.slice (some ⟨w.heap.size,0,none⟩) 2 2)) (w.alloc (.cells #[.slice A n c,.slice A' n' c'] 22)):=fun ρ h1 h2=>by
  simp[execOp,ho,h1,h2,go_sem]
 exact h _ hx hy
theorem run_box14{a:Act}{o:Oper}{x:Operand}{cs:Array Value}{t:TypeId}{w:World}(ho:o.op=.box t x)(hx:a.eval x=.agg cs):(execOp a.eval o).run Tryz.prog w=.ok (.value (.pointer (some ⟨w.heap.size,0,none⟩))) (w.alloc (.cells cs t)):=by
 have h:∀ρ:Operand→Value,ρ x=.agg cs→(execOp ρ o).run Tryz.prog w=.ok (.value (.pointer (some ⟨w.heap.size,0,none⟩))) (w.alloc (.cells cs t)):=fun ρ h1=>by
  simp[execOp,ho,h1,go_sem]
 exact h _ hx
theorem rangeBox14{w:World}{b:Nat}{X:Array Value}{t:TypeId}(h:BoxC w b X t):w.rangeAt b 0 X.toList:=
 range_mid (pre:=[]) (post:=[]) (t:=t) (by simpa using h)
def BlkC(u:UnV)(s1 s2:List Int):Option Blk13→Prop
 |none=>u.op=false∧u.kd=0∧u.last=false∧u.left=0∧u.c1=(fun _=>0)∧u.c2=(fun _=>0)∧s1=[]∧s2=[]
 |some k=>u.op=true∧GoodK k∧MayI u.kd u.left u.c1 s1 u.c2 s2∧ReadsB k u.kd u.last u.left u.c1 s1 u.c2 s2
theorem BlkC.told{w:World}{h0:Nat}{u u':UnV}{s1 s2:List Int}{st:Option Blk13}(h:BlkC u s1 s2 st)(e:u'={u with b:=u'.b,bit:=u'.bit,t:=u'.t,wait:=u'.wait,v1:=u'.v1,v2:=u'.v2})(o1:OwnS w h0 u'.v1 s1)(o2:OwnS w h0 u'.v2 s2)(n1:s1.length≤1000000)(n2:s2.length≤1000000):BlkT w h0 u' st:=by
 rw[e]
 cases st with
 |none=>
  obtain⟨a1,a2,a3,a4,a5,a6,a7,a8⟩:=h
  subst a7;subst a8
  exact⟨a1,a2,a3,a4,a5,a6,o1,o2⟩
 |some k=>
  obtain⟨a1,a2,a3,a4⟩:=h
  exact⟨a1,a2,s1,s2,a3,a4,o1,o2,n1,n2⟩
theorem ubegin_any(w:World)(h0:Nat)(hh:h0≤w.heap.size)(u:UnV)(Ai:Option Addr)(il ci:Nat)(f:Nat→Nat)(eI:u.I=.slice Ai il ci)(rI:ByR w w.heap.size Ai il ci f)(at_:Nat)(ea:u.a=(at_:Int))(Al:Option Addr)(l c:Nat)(g:Nat→Nat)(rb:ByR w w.heap.size Al l c g)
  (Aw:Option Addr) (cw:Nat) (pw:List Nat) (eW:u.W=.slice Aw pw.length cw) (rW:ByR w w.heap.size Aw pw.length cw (lst pw)) (eS:u.S=32768) (s1 s2:List Int) (r1:RdS w w.heap.size u.v1 s1) (r2:RdS w w.heap.size u.v2 s2) (n1:s1.length≤1000000) (n2:s2.length≤1000000) (hpw:pw.length≤32768) (bpw:BytesP pw) (hL:il+l≤1000000) (hat:at_≤8*(il+l)) (st:Option Blk13) (hst:BlkC u s1 s2 st):
  Calls Tryz.prog 22 #[.agg (swA u.sw),.slice Al l c] w fun e w'=>∃p u',e=.returned (.pointer (some ⟨p,0,none⟩))∧UnR w' h0 p u' st (cat f il g) (il+l) pw []∧u'.M=u.M∧u'.D=u.D∧u'.I=u.I∧u'.a=u.a∧u'.ov=u.ov∧u'.bit=at_∧u'.wait=0∧Below w.heap.size w w':=by
 obtain⟨sb,hsb⟩:∃b,b=w.heap.size:=⟨_,rfl⟩
 obtain⟨X,hX⟩:∃X,X=swA u.sw:=⟨_,rfl⟩
 obtain⟨W1,hW1⟩:∃W,W=w.alloc (.cells X 32):=⟨_,rfl⟩
 have hb1:Below w.heap.size w W1:=by rw[hW1];exact(Below.refl _ _).alloc (Nat.le_refl _) _
 have x1:BoxC W1 sb X 32:=by rw[hW1,hsb];exact BoxC.new w _ _
 have up:∀V,Below W1.heap.size W1 V→Below w.heap.size w V:=fun V hV=>hb1.trans (hV.mono hb1.size)
 have HXS:Hid (X.size=45):=Lib.hid (by rw[hX];exact swA_size (blkL_len ..))
 obtain⟨G,hG⟩:∃G,G=cat f il g:=⟨_,rfl⟩
 have hG2:∀j,G j<256:=by rw[hG];exact cat_lt rI.1.1 rb.1.1
 have C2:Hid (∀V,Below W1.heap.size W1 V→V.cell? ⟨sb,2,none⟩=some (.slice Ai il ci)):=Lib.hid fun V hV=>by
  rw[(x1.below hV x1.lt).cell,hX,←eI];rfl
 have C3:Hid (∀V,Below W1.heap.size W1 V→V.cell? ⟨sb,3,none⟩=some (.int .i64 (at_:Int))):=Lib.hid fun V hV=>by
  rw[(x1.below hV x1.lt).cell,hX,←ea];rfl
 have BU:Hid (∀Ab cb,Tryz.prog.built 64 [(0,.agg X),(1,.slice Ab (il+l) cb),(2,.int .i64 (at_:Int))]=some (unA (begU u Ab (il+l) cb))):=Lib.hid fun Ab cb=>by rw[hX];exact built_und u Ab (il+l) cb at_ ea
 have CC:Hid (∀V,Below W1.heap.size W1 V→∀gq,W1.heap.size≤gq→V.heap[gq]?=some (.cells #[.slice Ai il ci,.slice Al l c] 22 (0,0))→Calls Tryz.prog 37 #[.slice (some ⟨gq,0,none⟩) 2 2] V fun e w'=>∃A' c',e=.returned (.slice A' (il+l) c')∧w'.ownsRow W1.heap.size 5 1 (.slice A' (il+l) c') (il+l) (bytesL (il+l) G)∧Below V.heap.size V w'):=Lib.hid fun V hV gq hgq hr=>by
  have bw:=up V hV
  have q1:=(rI.below bw (Nat.le_refl _)).more bw.size
  have q2:=(rb.below bw (Nat.le_refl _)).more bw.size
  have hff:∀i j,two f g i j<256:=fun i j=>by
   cases i with
   |zero=>exact q1.1.1 j
   |succ i=>exact q2.1.1 j
  have hrows:RowsB V V.heap.size (some ⟨gq,0,none⟩) 2 (two il l) (two f g):=fun _=>⟨gq,0,rfl,(Array.getElem?_eq_some_iff.1 hr).1,fun i hi=>by
   have e:i=0∨i=1:=by omega
   rcases e with rfl|rfl
   ·exact⟨Ai,ci,(cell_of_row V _ 0 _ _ (0,0) hr).trans rfl,q1.1,q1.2.1⟩
   ·exact⟨Al,c,(cell_of_row V _ 1 _ _ (0,0) hr).trans rfl,q2.1,q2.2.1⟩⟩
  have hsum:sumU (two il l) 2=il+l:=by simp[sumU,two]
  have hc:=concatu_any V (some ⟨gq,0,none⟩) 2 2 (two il l) (two f g) hff hrows (by omega) (by rw[hsum];omega)
  rw[hsum]at hc
  refine hc.mono fun e w' ⟨A',c',x1,x2,x3⟩=>⟨A',c',x1,?_,x3⟩
  have ee:bytesL (il+l) (catU (two il l) (two f g) 2)=bytesL (il+l) G:=bytesL_ext fun j hj=>by
   rw[hG]
   simp only[catU,sumU,two]
   unfold cat
   by_cases h1:j<il
   ·simp[h1]
   ·simp[h1]
  rw[ee]at x2
  exact ownsRow_lower x2 hV.size
 have HW1:=Lib.hid hW1;have HSB:=Lib.hid hsb;have HX1:=Lib.hid x1;have HX:=Lib.hid hX;have HUP:=Lib.hid up;have HB1:=Lib.hid hb1
 have HRI:=Lib.hid rI;have HRW:=Lib.hid rW;have HR1:=Lib.hid r1;have HR2:=Lib.hid r2;have HST:=Lib.hid hst;have HG:=Lib.hid hG;have HG2:=Lib.hid hG2;have HBP:=Lib.hid bpw
 have HEA:=Lib.hid ea;have HES:=Lib.hid eS;have HEW:=Lib.hid eW;have HH0:=Lib.hid hh;have HN1:=Lib.hid n1;have HN2:=Lib.hid n2;have HAT:=Lib.hid hat;have HLL:=Lib.hid hL;have HPW:=Lib.hid hpw
 rw[←hX]
 rw[←hG]
 clear hW1 hsb x1 hX up hb1 rI rW r1 r2 hst hG hG2 bpw ea eS eW hh eI rb n1 n2 hat hL hpw
 go_enter Tryz.func22,Tryz.ntmps22
 go_wp2_with (first|(rw[←HW1.out,←HSB.out])|fail)
 refine wp_region_tab (tabT [fun v _=>v=.agg X,fun v _=>v=.pointer (some ⟨sb,2,none⟩),fun v _=>v=.slice Ai il ci,fun v _=>v=.slice Al l c,fun v W=>∃gq,v=.slice (some ⟨gq,0,none⟩) 2 2∧W1.heap.size≤gq∧W.heap[gq]?=some (.cells #[.slice Ai il ci,.slice Al l c] 22 (0,0)),fun v W=>∃Ab cb,v=.slice Ab (il+l) cb∧W.ownsRow W1.heap.size 5 1 (.slice Ab (il+l) cb) (il+l) (bytesL (il+l) G),fun v _=>v=.pointer (some ⟨sb,3,none⟩),fun v _=>v=.int .i64 (at_:Int),fun v W=>∃Ab cb,v=.agg (unA (begU u Ab (il+l) cb))∧W.ownsRow W1.heap.size 5 1 (.slice Ab (il+l) cb) (il+l) (bytesL (il+l) G),fun v W=>∃p Ab cb,v=.pointer (some ⟨p,0,none⟩)∧BoxC W p (unA (begU u Ab (il+l) cb)) 64∧W1.heap.size≤p∧W.ownsRow W1.heap.size 5 1 (.slice Ab (il+l) cb) (il+l) (bytesL (il+l) G),fun v W=>∃p Ab cb,v=.pointer (some ⟨p,0,none⟩)∧BoxC W p (unA (begU u Ab (il+l) cb)) 64∧W1.heap.size≤p∧W.ownsRow W1.heap.size 5 1 (.slice Ab (il+l) cb) (il+l) (bytesL (il+l) G)]) W1 (Below.refl _ _) (by kernel_rfl) (by kernel_rfl) ?_ ?_
 case refine_1=>
  refine TabAll.cons (fun aa wv hb ha hS Kk Qq hK=>tab_row (tab_free rfl) _ _ rfl sb 0 ((ha 2 (by kernel_rfl)).trans rfl) X.toList _ (rangeBox14 (HX1.out.below hb HX1.out.lt)) Tryz.underlying32 rfl (by rw[Array.length_toList];exact szSwl _ HXS.out) (up_eq rfl) hK) ?_
  refine TabAll.cons (fun aa wv hb ha hS Kk Qq hK=>tab_field (tab_free rfl) _ _ _ rfl _ (.pointer (some ⟨sb,2,none⟩)) ((ha 2 (by kernel_rfl)).trans rfl) (by go_simp) (up_eq rfl) hK) ?_
  refine TabAll.cons (fun aa wv hb ha hS Kk Qq hK=>tab_load (tab_free rfl) _ _ rfl _ (.slice Ai il ci) (show aa.eval (.tmp 7)=.pointer (some ⟨sb,2,none⟩)from(hS 1 7 (by kernel_rfl) rfl).here) (by have hc:=C2.out wv hb;go_simp) (up_eq rfl) hK) ?_
  refine TabAll.cons (fun aa wv hb ha hS Kk Qq hK=>tab_move (tab_free rfl) _ rfl (up_eq ((ha 1 (by kernel_rfl)).trans rfl)) hK) ?_
  refine TabAll.cons (fun aa wv hb ha hS Kk Qq hK=>by have e1:=(show aa.eval (.tmp 8)=.slice Ai il ci from(hS 2 8 (by kernel_rfl) rfl).here);have e2:=(show aa.eval (.tmp 9)=.slice Al l c from(hS 3 9 (by kernel_rfl) rfl).here);exact tab_make (w':=wv.alloc (.cells #[.slice Ai il ci,.slice Al l c] 22)) (tab_free rfl) (.slice (some ⟨wv.heap.size,0,none⟩) 2 2) (run_two14 rfl e1 e2) ((Below.refl _ _).alloc (Nat.le_refl _) _) (fun W hW=>⟨_,rfl,hb.size,(hW.block _ (by simp)).trans (heap_alloc_new _ _)⟩) hK) ?_
  refine TabAll.cons (fun aa wv hb ha hS Kk Qq hK=>by obtain⟨gq,e1,r0,r1⟩:=(hS 4 10 (by kernel_rfl) rfl).here;exact tab_call (tab_free rfl) 37 _ _ rfl (enters_of Tryz.func37 (by kernel_rfl) rfl) #[.slice (some ⟨gq,0,none⟩) 2 2] (by simp[e1]) (CC.out wv hb gq r0 r1) (fun ee w' ⟨A',c',h1,h2,h5⟩=>⟨_,h1,h5,fun W hW=>⟨A',c',rfl,own_keep h2 hW⟩⟩) hK) ?_
  refine TabAll.cons (fun aa wv hb ha hS Kk Qq hK=>tab_field (tab_free rfl) _ _ _ rfl _ (.pointer (some ⟨sb,3,none⟩)) ((ha 2 (by kernel_rfl)).trans rfl) (by go_simp) (up_eq rfl) hK) ?_
  refine TabAll.cons (fun aa wv hb ha hS Kk Qq hK=>tab_load (tab_free rfl) _ _ rfl _ (.int .i64 (at_:Int)) (show aa.eval (.tmp 12)=.pointer (some ⟨sb,3,none⟩)from(hS 6 12 (by kernel_rfl) rfl).here) (by have hc:=C3.out wv hb;go_simp) (up_eq rfl) hK) ?_
  refine TabAll.cons (fun aa wv hb ha hS Kk Qq hK=>by have e6:=(show aa.eval (.tmp 6)=.agg X from(hS 0 6 (by kernel_rfl) rfl).here);have e13:=(show aa.eval (.tmp 13)=.int .i64 (at_:Int)from(hS 7 13 (by kernel_rfl) rfl).here);obtain⟨Ab,cb,e11,r1⟩:=(hS 5 11 (by kernel_rfl) rfl).here;exact tab_build (tab_free rfl) _ #[(0,.tmp 6),(1,.tmp 11),(2,.tmp 13)] rfl (unA (begU u Ab (il+l) cb)) (by simpa[e6,e11,e13]using BU.out Ab cb) (fun W hW=>⟨Ab,cb,rfl,own_keep r1 hW⟩) hK) ?_
  refine TabAll.cons (fun aa wv hb ha hS Kk Qq hK=>by obtain⟨Ab,cb,e1,r1⟩:=(hS 8 14 (by kernel_rfl) rfl).here;exact tab_make (w':=wv.alloc (.cells (unA (begU u Ab (il+l) cb)) 64)) (tab_free rfl) (.pointer (some ⟨wv.heap.size,0,none⟩)) (run_box14 rfl e1) ((Below.refl _ _).alloc (Nat.le_refl _) _) (fun W hW=>⟨_,Ab,cb,rfl,(BoxC.new wv _ _).below hW (by simp),hb.size,own_keep (own_keep r1 ((Below.refl _ _).alloc (Nat.le_refl _) _)) hW⟩) hK) ?_
  refine TabAll.cons (fun aa wv hb ha hS Kk Qq hK=>tab_assign (tab_free rfl) _ rfl (hS 9 15 (by kernel_rfl) rfl) hK) ?_
  exact TabAll.nil
 intro vals w5 hb hv
 obtain⟨p,Ab,cb,e5,bx5,hp5,o5⟩:=(hv 10 5 rfl).here
 have bw5:=HUP.out w5 hb
 have x5:=HX1.out.below hb HX1.out.lt
 have c23:w5.cell? ⟨sb,23,none⟩=some u.v1:=by rw[x5.cell,HX.out];rfl
 obtain⟨A6,c6,w6,y1,y2,y3⟩:=run_nilI w5 u.v1 s1 ((HR1.out.below bw5 (Nat.le_refl _)).more bw5.size) HN1.out
 have hlt5:p<w5.heap.size:=BoxC.lt bx5
 have bx6:UnB w6 p (begU u Ab (il+l) cb):=bx5.below y3 hlt5
 obtain⟨w7,hw7⟩:∃W,W=w6.setCell ⟨p,23,none⟩ (.slice A6 s1.length c6):=⟨_,rfl⟩
 have bx7:=bx6.s23 (.slice A6 s1.length c6)
 rw[←hw7]at bx7
 have f67:Fr (At p) w6 w7:=by rw[hw7];exact Fr.cell _ _ _ _
 have hne:sb≠p:=by have:=HX1.out.lt;omega
 have x6:=x5.below y3 x5.lt
 have x7:BoxC w7 sb X 32:=x6.fr f67 hne
 have c40:w7.cell? ⟨sb,40,none⟩=some u.v2:=by rw[x7.cell,HX.out];rfl
 have bw7:Below w.heap.size w w7:=(bw5.trans (y3.mono bw5.size)).trans (f67.below (fun j hj=>by have hj':j=p:=hj;rw[hj'];exact Nat.le_trans HB1.out.size hp5) (Nat.le_trans bw5.size y3.size))
 obtain⟨A8,c8,w8,z1,z2,z3⟩:=run_nilI w7 u.v2 s2 ((HR2.out.below bw7 (Nat.le_refl _)).more bw7.size) HN2.out
 have bx8:=BoxC.below bx7 z3 (BoxC.lt bx7)
 have bx8':UnB w8 p {begU u Ab (il+l) cb with v1:=(.slice A6 s1.length c6)}:=bx8
 obtain⟨w9,hw9⟩:∃W,W=w8.setCell ⟨p,40,none⟩ (.slice A8 s2.length c8):=⟨_,rfl⟩
 have bx9:=bx8'.s40 (.slice A8 s2.length c8)
 rw[←hw9]at bx9
 have f89:Fr (At p) w8 w9:=by rw[hw9];exact Fr.cell _ _ _ _
 have k1:w6.cell? ⟨p,23,none⟩=some u.v1:=bx6.c23
 have g1:w6.frozen? ⟨p,23,none⟩=false:=bx6.free 23
 have k2:w8.cell? ⟨p,40,none⟩=some u.v2:=bx8'.c40
 have g2:w8.frozen? ⟨p,40,none⟩=false:=bx8'.free 40
 have hw0:=bw5.size
 have own7:∀{B:Nat} {v:Value} {sy:List Int},OwnS w6 B v sy→OwnS w7 B v sy:=fun o=>o.frA f67 fun j hj=>by
  have hj':j=p:=hj
  rw[hj'];exact own_type o bx6 (by kernel_rfl)
 have own9:∀{B:Nat} {v:Value} {sy:List Int},OwnS w8 B v sy→OwnS w9 B v sy:=fun o=>o.frA f89 fun j hj=>by
  have hj':j=p:=hj
  rw[hj'];exact own_type o bx8' (by kernel_rfl)
 have p1:OwnS w9 h0 (.slice A6 s1.length c6) s1:=own9 ((own7 (y2.lower (by have:=HH0.out;omega))).on z3)
 have p2:OwnS w9 h0 (.slice A8 s2.length c8) s2:=own9 (z2.lower (by have:=HH0.out;have:=bw7.size;omega))
 have ob6:w6.ownsRow W1.heap.size 5 1 (.slice Ab (il+l) cb) (il+l) (bytesL (il+l) G):=own_keep o5 y3
 have keepB:∀{W W':World} {uu:UnV},W.ownsRow W1.heap.size 5 1 (.slice Ab (il+l) cb) (il+l) (bytesL (il+l) G)→UnB W p uu→Fr (At p) W W'→W'.ownsRow W1.heap.size 5 1 (.slice Ab (il+l) cb) (il+l) (bytesL (il+l) G):=fun o bx f=>own_blk o fun j hj=>f.block j (own_blk_lt o j hj).2 fun e=>by
  have e':j=p:=e
  rw[e']at hj
  exact own_type o bx (by kernel_rfl) hj
 have ob9:=keepB (own_keep (keepB ob6 bx6 f67) z3) bx8' f89
 have bw8:Below w.heap.size w w8:=bw7.trans (z3.mono bw7.size)
 have bw9:Below w.heap.size w w9:=bw8.trans (f89.below (fun j hj=>by have hj':j=p:=hj;rw[hj'];exact Nat.le_trans HB1.out.size hp5) bw8.size)
 have ebit:(begU u Ab (il+l) cb).bit=at_:=by show u.a.toNat=at_;rw[HEA.out];exact Int.toNat_natCast _
 have hU:UnR w9 h0 p {begU u Ab (il+l) cb with v1:=(.slice A6 s1.length c6),v2:=(.slice A8 s2.length c8)} st G (il+l) pw []:=by
  refine⟨bx9,by have:=HH0.out;have:=HB1.out.size;omega,⟨none,0,rfl,World.ownsRow_nil _ _ _ _⟩,⟨Ab,cb,rfl,?_⟩,⟨Aw,cw,HEW.out,?_⟩,HES.out,HST.out.told rfl p1 p2 HN1.out HN2.out,(fun x hx=>by cases hx),HBP.out,(by show 0≤_;omega),HPW.out,HLL.out,(by show(begU u Ab (il+l) cb).bit≤_;rw[ebit];exact HAT.out),Nat.le_refl _,Nat.le_trans HH0.out bw9.size⟩
  ·have hr:=ByR.of_own ob9 HG2.out
   refine⟨⟨hr.1,fun b o h9 e hs=>?_⟩,hr.2⟩
   rcases hs with hs|hs
   ·refine own_type ob9 bx9 (by kernel_rfl) ?_
    rcases ob9.2 with⟨hv,_⟩|⟨g9,cap,cur,hv,_⟩
    ·rw[e]at hv;injection hv with hv;cases hv
    ·rw[hv]
     rw[e]at hv;injection hv with hv;injection hv with hv;injection hv with h1 h2
     simp[Value.ownBlock,←h1,hs]
   ·exact absurd hs (by simp[begU,Value.ownBlock])
  ·refine ByF.old (HRW.out.below bw9 (Nat.le_refl _)) bw9.size ?_
   rintro j (hj|hj)
   ·have:=HB1.out.size;omega
   ·exact absurd hj (by simp[begU,Value.ownBlock])
 have HU:=Lib.hid hU;have HB9:=Lib.hid bw9;have HRUN1:=Lib.hid y1;have HRUN2:=Lib.hid z1;have HW7:=Lib.hid hw7;have HW9:=Lib.hid hw9;have HBIT:=Lib.hid ebit
 clear hU bw9 y1 z1 hw7 hw9 ebit bx5 hp5 o5 bw5 x5 y2 y3 hlt5 bx6 bx7 f67 hne x6 x7 bw7 z2 z3 bx8 bx8' bx9 f89 hw0 own7 own9 p1 p2 ob6 keepB ob9 bw8 hb hv
 simp only[List.map_cons,List.map_nil,putL,Act.put,List.setIfInBounds_toArray,List.set_cons_zero,List.set_cons_succ,e5]
 clear e5
 go_wp2_with (first
  |(at_builtin;refine wpList_append_run rfl (.const (.slice none 0 0)) (.tmp 20) 24 rfl (.slice none 0 0) u.v1 (.slice A6 s1.length c6) w6 rfl rfl HRUN1.out ?_)
  |(at_builtin;refine wpList_append_run rfl (.const (.slice none 0 0)) (.tmp 31) 24 rfl (.slice none 0 0) u.v2 (.slice A8 s2.length c8) w8 rfl rfl HRUN2.out ?_)
  |(rw[←HW7.out])
  |(rw[←HW9.out])
  |fail)
 go_ret
 exact⟨p,rfl,_,HU.out,rfl,rfl,rfl,rfl,rfl,HBIT.out,rfl,HB9.out⟩
end Go.Proofs.YtcmpmighjglnpaaGreat
namespace Go.Proofs.YtcmpmighjglnpaaGreat
open Go.RowKit
structure SwI (w:World) (u:UnV) (inn win:List Nat) (s1 s2:List Int):Prop where
 I:∃A c,u.I=.slice A inn.length c∧ByR w w.heap.size A inn.length c (lst inn)
 W:∃A c,u.W=.slice A win.length c∧ByR w w.heap.size A win.length c (lst win)
 r1:RdS w w.heap.size u.v1 s1
 r2:RdS w w.heap.size u.v2 s2
 n1:s1.length≤1000000
 n2:s2.length≤1000000
 li:inn.length≤1000000
 lw:win.length≤1000000
 kd:u.kd<256
 M: -9223372036854775808≤u.M∧u.M≤9223372036854775807
 D: -9223372036854775808≤u.D∧u.D≤9223372036854775807
 a: -9223372036854775808≤u.a∧u.a≤9223372036854775807
 S: -9223372036854775808≤u.S∧u.S≤9223372036854775807
theorem SwI.on{w w':World}{u:UnV}{inn win:List Nat}{s1 s2:List Int}(h:SwI w u inn win s1 s2)(hb:Below w.heap.size w w'):SwI w' u inn win s1 s2:=by
 obtain⟨A,c,e1,e2⟩:=h.I
 obtain⟨A',c',e3,e4⟩:=h.W
 exact⟨⟨A,c,e1,(e2.below hb (Nat.le_refl _)).more hb.size⟩,⟨A',c',e3,(e4.below hb (Nat.le_refl _)).more hb.size⟩,(h.r1.below hb (Nat.le_refl _)).more hb.size,(h.r2.below hb (Nat.le_refl _)).more hb.size,h.n1,h.n2,h.li,h.lw,h.kd,h.M,h.D,h.a,h.S⟩
def cntW(u:UnV):Bool:=decide (0≤u.M∧u.M≤131072∧0≤u.D∧u.D≤u.M)
def wtgW(u:UnV)(il:Nat):Bool:=decide (if il=0 then u.a=0 else il≤600∧0≤u.a∧u.a≤7)
def kptW(u:UnV)(wl:Nat):Bool:=decide (u.S=32768∧wl≤32768∧(wl:Int)=min u.D 32768)
theorem sw_x{W1:World}{u:UnV}{X:Array Value}{sb:Nat}(hX:X=swA u.sw)(x:BoxC W1 sb X 32):W1.cell? ⟨sb,0,none⟩=some (.int .i64 u.M)∧W1.cell? ⟨sb,1,none⟩=some (.int .i64 u.D)∧W1.cell? ⟨sb,2,none⟩=some u.I∧W1.cell? ⟨sb,3,none⟩=some (.int .i64 u.a)∧W1.cell? ⟨sb,41,none⟩=some (.bool u.op)∧W1.cell? ⟨sb,42,none⟩=some (.int .i64 u.S)∧W1.cell? ⟨sb,43,none⟩=some u.W∧W1.cell? ⟨sb,44,none⟩=some (.bool u.ov):=by
 have c:=fun i=>x.cell (i:=i)
 subst hX
 exact⟨(c 0).trans rfl,(c 1).trans rfl,(c 2).trans rfl,(c 3).trans rfl,(c 41).trans rfl,(c 42).trans rfl,(c 43).trans rfl,(c 44).trans rfl⟩
theorem ucounted_any(w:World)(u:UnV):Calls Tryz.prog 29 #[.agg (swA u.sw)] w fun e w'=>e=.returned (.bool (cntW u))∧Below w.heap.size w w':=by
 obtain⟨sb,hsb⟩:∃b,b=w.heap.size:=⟨_,rfl⟩
 obtain⟨X,hX⟩:∃X,X=swA u.sw:=⟨_,rfl⟩
 obtain⟨W1,hW1⟩:∃W,W=w.alloc (.cells X 32):=⟨_,rfl⟩
 have hb1:Below w.heap.size w W1:=by rw[hW1];exact(Below.refl _ _).alloc (Nat.le_refl _) _
 have x1:BoxC W1 sb X 32:=by rw[hW1,hsb];exact BoxC.new w _ _
 obtain⟨a0,a1,a2,a3,a41,a42,a43,a44⟩:=sw_x hX x1
 have HW1:=Lib.hid hW1;have HSB:=Lib.hid hsb;have HB1:=Lib.hid hb1
 rw[←hX]
 clear hX hW1 hsb hb1 x1 a2 a3 a41 a42 a43 a44
 by_cases h1:0≤u.M
 ·by_cases h2:u.M≤131072
  ·by_cases h3:0≤u.D
   ·by_cases h4:u.D≤u.M
    ·have e:cntW u=true:=decide_eq_true ⟨h1,h2,h3,h4⟩
     rw[e];clear e
     go_enter Tryz.func29,Tryz.ntmps29
     go_wp2_with (first|(rw[←HW1.out,←HSB.out])|fail)
     go_ret
     exact⟨rfl,HB1.out⟩
    ·have e:cntW u=false:=decide_eq_false (by omega)
     rw[e];clear e
     go_enter Tryz.func29,Tryz.ntmps29
     go_wp2_with (first|(rw[←HW1.out,←HSB.out])|fail)
     go_ret
     exact⟨rfl,HB1.out⟩
   ·have e:cntW u=false:=decide_eq_false (by omega)
    rw[e];clear e
    go_enter Tryz.func29,Tryz.ntmps29
    go_wp2_with (first|(rw[←HW1.out,←HSB.out])|fail)
    go_ret
    exact⟨rfl,HB1.out⟩
  ·have e:cntW u=false:=decide_eq_false (by omega)
   rw[e];clear e
   go_enter Tryz.func29,Tryz.ntmps29
   go_wp2_with (first|(rw[←HW1.out,←HSB.out])|fail)
   go_ret
   exact⟨rfl,HB1.out⟩
 ·have e:cntW u=false:=decide_eq_false (by omega)
  rw[e];clear e
  go_enter Tryz.func29,Tryz.ntmps29
  go_wp2_with (first|(rw[←HW1.out,←HSB.out])|fail)
  go_ret
  exact⟨rfl,HB1.out⟩
theorem uwaiting_any(w:World)(u:UnV)(A:Option Addr)(il c:Nat)(eI:u.I=.slice A il c):Calls Tryz.prog 30 #[.agg (swA u.sw)] w fun e w'=>e=.returned (.bool (wtgW u il))∧Below w.heap.size w w':=by
 obtain⟨sb,hsb⟩:∃b,b=w.heap.size:=⟨_,rfl⟩
 obtain⟨X,hX⟩:∃X,X=swA u.sw:=⟨_,rfl⟩
 obtain⟨W1,hW1⟩:∃W,W=w.alloc (.cells X 32):=⟨_,rfl⟩
 have hb1:Below w.heap.size w W1:=by rw[hW1];exact(Below.refl _ _).alloc (Nat.le_refl _) _
 have x1:BoxC W1 sb X 32:=by rw[hW1,hsb];exact BoxC.new w _ _
 obtain⟨a0,a1,a2,a3,a41,a42,a43,a44⟩:=sw_x hX x1
 rw[eI]at a2
 have HW1:=Lib.hid hW1;have HSB:=Lib.hid hsb;have HB1:=Lib.hid hb1
 rw[←hX]
 clear hX hW1 hsb hb1 x1 a0 a1 a41 a42 a43 a44 eI
 by_cases h0:il=0
 ·have d0:((il:Int)==0)=true:=by simp[h0]
  by_cases h1:u.a=0
  ·have e:wtgW u il=true:=decide_eq_true (by rw[if_pos h0];exact h1)
   have d1:(u.a==0)=true:=by simp[h1]
   rw[e];clear e h0 h1
   go_enter Tryz.func30,Tryz.ntmps30
   go_wp2_with (first|(rw[←HW1.out,←HSB.out])|fail)
   go_ret
   exact⟨rfl,HB1.out⟩
  ·have e:wtgW u il=false:=decide_eq_false (by rw[if_pos h0];exact h1)
   have d1:(u.a==0)=false:=beq_eq_false_iff_ne.2 h1
   rw[e];clear e h0 h1
   go_enter Tryz.func30,Tryz.ntmps30
   go_wp2_with (first|(rw[←HW1.out,←HSB.out])|fail)
   go_ret
   exact⟨rfl,HB1.out⟩
 ·have d0:((il:Int)==0)=false:=beq_eq_false_iff_ne.2 (by omega)
  by_cases h1:il≤600
  ·have h1i:(il:Int)≤600:=by omega
   by_cases h2:0≤u.a
   ·by_cases h3:u.a≤7
    ·have e:wtgW u il=true:=decide_eq_true (by rw[if_neg h0];exact⟨h1,h2,h3⟩)
     rw[e];clear e h0 h1
     go_enter Tryz.func30,Tryz.ntmps30
     go_wp2_with (first|(rw[←HW1.out,←HSB.out])|fail)
     go_ret
     exact⟨rfl,HB1.out⟩
    ·have e:wtgW u il=false:=decide_eq_false (by rw[if_neg h0];omega)
     rw[e];clear e h0 h1
     go_enter Tryz.func30,Tryz.ntmps30
     go_wp2_with (first|(rw[←HW1.out,←HSB.out])|fail)
     go_ret
     exact⟨rfl,HB1.out⟩
   ·have e:wtgW u il=false:=decide_eq_false (by rw[if_neg h0];omega)
    rw[e];clear e h0 h1
    go_enter Tryz.func30,Tryz.ntmps30
    go_wp2_with (first|(rw[←HW1.out,←HSB.out])|fail)
    go_ret
    exact⟨rfl,HB1.out⟩
  ·have h1i:¬(il:Int)≤600:=by omega
   have e:wtgW u il=false:=decide_eq_false (by rw[if_neg h0];omega)
   rw[e];clear e h0 h1
   go_enter Tryz.func30,Tryz.ntmps30
   go_wp2_with (first|(rw[←HW1.out,←HSB.out])|fail)
   go_ret
   exact⟨rfl,HB1.out⟩
theorem ukept_any(w:World)(u:UnV)(A:Option Addr)(wl c:Nat)(eW:u.W=.slice A wl c)(hS1: -9223372036854775808≤u.S)(hS2:u.S≤9223372036854775807):Calls Tryz.prog 31 #[.agg (swA u.sw)] w fun e w'=>e=.returned (.bool (kptW u wl))∧Below w.heap.size w w':=by
 obtain⟨sb,hsb⟩:∃b,b=w.heap.size:=⟨_,rfl⟩
 obtain⟨X,hX⟩:∃X,X=swA u.sw:=⟨_,rfl⟩
 obtain⟨W1,hW1⟩:∃W,W=w.alloc (.cells X 32):=⟨_,rfl⟩
 have hb1:Below w.heap.size w W1:=by rw[hW1];exact(Below.refl _ _).alloc (Nat.le_refl _) _
 have x1:BoxC W1 sb X 32:=by rw[hW1,hsb];exact BoxC.new w _ _
 obtain⟨a0,a1,a2,a3,a41,a42,a43,a44⟩:=sw_x hX x1
 rw[eW]at a43
 have HC:=Lib.hid (schk_any W1 u.S A wl c hS1 hS2)
 have HW1:=Lib.hid hW1;have HSB:=Lib.hid hsb;have HB1:=Lib.hid hb1
 have k:=fun V (hV:Below W1.heap.size W1 V)=>sw_x hX (x1.below hV x1.lt)
 have K:=Lib.hid k
 rw[←hX]
 clear hX hW1 hsb hb1 x1 a0 a1 a2 a3 a41 a44 k hS1 hS2
 have HEW:=Lib.hid eW
 clear eW
 obtain⟨kb,hkb⟩:∃b,b=kptW u wl:=⟨_,rfl⟩
 have HKB:=Lib.hid hkb
 rw[←hkb]
 clear hkb
 go_enter Tryz.func31,Tryz.ntmps31
 go_wp2_with (first|(rw[←HW1.out,←HSB.out])|fail)
 refine HC.out.mono ?_
 rintro e w2 ⟨rfl,hb2⟩
 obtain⟨_,b1,_,_,_,b42,b43,_⟩:=K.out w2 hb2
 rw[HEW.out]at b43
 have HB2:=Lib.hid (HB1.out.trans (hb2.mono HB1.out.size))
 clear hb2 a42 a43
 by_cases h0:winE u.S wl=0
 ·rw[h0]
  have hin:1≤u.S∧u.S≤32768∧(wl:Int)≤u.S:=by rcases winE_cases u.S wl with⟨_,h⟩|h;exact h;rw[h]at h0;exact absurd h0 (by decide)
  by_cases h1:u.S=32768
  ·have d1:(u.S==32768)=true:=by simp[h1]
   obtain⟨hi1,hi2,hi3⟩:=hin
   have hwl:(wl:Int)≤32768:=by omega
   by_cases h2:(wl:Int)=min u.D 32768
   ·have e:kptW u wl=true:=decide_eq_true ⟨h1,by omega,h2⟩
    by_cases h3:u.D≤32768
    ·have d3:¬(32768:Int)<u.D:=by omega
     have d4:((wl:Int)==u.D)=true:=(by have h9:(wl:Int)=u.D:=(by omega); simp[h9])
     have HE:=Lib.hid e
     clear e h0 h1 h2 h3 hi1 hi2 hi3 hwl
     go_wp2
     go_ret
     exact⟨by rw[HKB.out,HE.out];rfl,HB2.out⟩
    ·have d3:(32768:Int)<u.D:=by omega
     have d4:((wl:Int)==32768)=true:=(by have h9:(wl:Int)=32768:=(by omega); simp[h9])
     have HE:=Lib.hid e
     clear e h0 h1 h2 h3 hi1 hi2 hi3 hwl
     go_wp2
     go_ret
     exact⟨by rw[HKB.out,HE.out];rfl,HB2.out⟩
   ·have e:kptW u wl=false:=decide_eq_false (by omega)
    by_cases h3:u.D≤32768
    ·have d3:¬(32768:Int)<u.D:=by omega
     have d4:((wl:Int)==u.D)=false:=beq_eq_false_iff_ne.2 (by omega)
     have HE:=Lib.hid e
     clear e h0 h1 h2 h3 hi1 hi2 hi3 hwl
     go_wp2
     go_ret
     exact⟨by rw[HKB.out,HE.out];rfl,HB2.out⟩
    ·have d3:(32768:Int)<u.D:=by omega
     have d4:((wl:Int)==32768)=false:=beq_eq_false_iff_ne.2 (by omega)
     have HE:=Lib.hid e
     clear e h0 h1 h2 h3 hi1 hi2 hi3 hwl
     go_wp2
     go_ret
     exact⟨by rw[HKB.out,HE.out];rfl,HB2.out⟩
  ·have d1:(u.S==32768)=false:=beq_eq_false_iff_ne.2 h1
   have e:kptW u wl=false:=decide_eq_false (by omega)
   have HE:=Lib.hid e
   clear e h0 h1 hin
   go_wp2
   go_ret
   exact⟨by rw[HKB.out,HE.out];rfl,HB2.out⟩
 ·have h8:winE u.S wl=8:=by rcases winE_cases u.S wl with⟨h,_⟩|h;exact absurd h h0;exact h
  have e:kptW u wl=false:=decide_eq_false (by
   rintro⟨q1,q2,q3⟩
   apply h0
   unfold winE;rw[if_pos (by omega)])
  have HE:=Lib.hid e
  rw[h8]
  clear e h0 h8
  go_wp2
  go_ret
  exact⟨by rw[HKB.out,HE.out];rfl,HB2.out⟩
end Go.Proofs.YtcmpmighjglnpaaGreat
namespace Go.Proofs.YtcmpmighjglnpaaGreat
open Go.RowKit
theorem usameK_any(w:World)(kd kd':Nat)(last last':Bool)(left left':Int)(c1 d1 c2 d2:Nat→Int)(v1 v2 u1 u2:Value)(s1 s2 t1 t2:List Int)(h1:RdS w w.heap.size v1 s1)(h2:RdS w w.heap.size v2 s2)(g1:RdS w w.heap.size u1 t1)(g2:RdS w w.heap.size u2 t2)(n1:s1.length≤1000000)(n2:s2.length≤1000000)(m1:t1.length≤1000000)(m2:t2.length≤1000000):
  Calls Tryz.prog 34 #[.agg (blkI kd last left c1 c2 v1 v2),.agg (blkI kd' last' left' d1 d2 u1 u2)] w fun e w'=>e=.returned (.bool (sameK kd kd' last last' left left' c1 d1 s1 t1 c2 d2 s2 t2))∧Below w.heap.size w w':=by
 obtain⟨b,hb⟩:∃b,b=w.heap.size:=⟨_,rfl⟩
 obtain⟨X,hX⟩:∃X,X=blkI kd last left c1 c2 v1 v2:=⟨_,rfl⟩
 obtain⟨Y,hY⟩:∃X,X=blkI kd' last' left' d1 d2 u1 u2:=⟨_,rfl⟩
 rw[←hX,←hY]
 obtain⟨W1,hW1⟩:∃W1,W1=(w.alloc (.cells X 28)).alloc (.cells Y 28):=⟨_,rfl⟩
 have hb1:Below b w W1:=by rw[hW1,hb];exact((Below.refl _ _).alloc (Nat.le_refl _) _).alloc (by simp) _
 have hsz:W1.heap.size=b+2:=by rw[hW1,hb];simp
 have x1:BoxC W1 b X 28:=by rw[hW1,hb];exact(BoxC.new w _ _).old _
 have y1:BoxC W1 (b+1) Y 28:=by rw[hW1,hb];have:=BoxC.new (w.alloc (.cells X 28)) Y 28;rwa[World.size_alloc]at this
 have a0:W1.cell? ⟨b,0,none⟩=some (.int .u8 (kd:Int)):=x1.cell.trans (by rw[hX];rfl)
 have a1:W1.cell? ⟨b,1,none⟩=some (.bool last):=x1.cell.trans (by rw[hX];rfl)
 have a2:W1.cell? ⟨b,2,none⟩=some (.int .i64 left):=x1.cell.trans (by rw[hX];rfl)
 have b0:W1.cell? ⟨b+1,0,none⟩=some (.int .u8 (kd':Int)):=y1.cell.trans (by rw[hY];rfl)
 have b1:W1.cell? ⟨b+1,1,none⟩=some (.bool last'):=y1.cell.trans (by rw[hY];rfl)
 have b2:W1.cell? ⟨b+1,2,none⟩=some (.int .i64 left'):=y1.cell.trans (by rw[hY];rfl)
 obtain⟨p0,hp0⟩:∃p,p=((kd:Int)==(kd':Int)):=⟨_,rfl⟩
 obtain⟨p1,hp1⟩:∃p,p=(last==last'):=⟨_,rfl⟩
 obtain⟨p2,hp2⟩:∃p,p=(left==left'):=⟨_,rfl⟩
 obtain⟨p3,hp3⟩:∃p,p=sameT c1 d1 s1 t1:=⟨_,rfl⟩
 obtain⟨p4,hp4⟩:∃p,p=sameT c2 d2 s2 t2:=⟨_,rfl⟩
 have up:∀{v:Value} {s:List Int},RdS w w.heap.size v s→∀W,Below W1.heap.size W1 W→RdS W W.heap.size v s:=fun h W hW=>(((h.below (hb▸hb1) (Nat.le_refl _)).more (hb▸hb1.size)).below hW (Nat.le_refl _)).more hW.size
 have hE1:=tsame_any W1 c1 d1 v1 u1 s1 t1 (up h1 W1 (Below.refl _ _)) (up g1 W1 (Below.refl _ _)) (by omega) (by omega)
 have hE2:=fun W (hW:Below W1.heap.size W1 W)=>tsame_any W c2 d2 v2 u2 s2 t2 (up h2 W hW) (up g2 W hW) (by omega) (by omega)
 rw[←hp3]at hE1
 rw[←hp4]at hE2
 have hres:sameK kd kd' last last' left left' c1 d1 s1 t1 c2 d2 s2 t2=(p0&&p1&&p2&&p3&&p4):=by unfold sameK;rw[←hp0,←hp1,←hp2,←hp3,←hp4]
 rw[hres]
 have HRA:=Lib.hid (blkI_range (hX▸x1)).1
 have HRC:=Lib.hid (blkI_range (hY▸y1)).1
 have HRB:Hid (∀W,Below W1.heap.size W1 W→W.rangeAt b 20 (trL c2 v2)):=Lib.hid fun W hW=>(blkI_range (hX▸x1.below hW (by omega))).2
 have HRD:Hid (∀W,Below W1.heap.size W1 W→W.rangeAt (b+1) 20 (trL d2 u2)):=Lib.hid fun W hW=>(blkI_range (hY▸y1.below hW (by omega))).2
 have HB1:Hid (Below w.heap.size w W1):=Lib.hid (hb▸hb1)
 have HE1:=Lib.hid hE1;have HE2:=Lib.hid hE2;have HW1:=Lib.hid hW1;have HB:=Lib.hid hb
 have e0:=hp0.symm;have e1:=hp1.symm;have e2:=hp2.symm
 clear hX hY hW1 hb1 hsz x1 y1 hE1 hE2 hb h1 h2 g1 g2 n1 n2 m1 m2 up hp0 hp1 hp2 hp3 hp4 hres
 cases p0
 ·clear HE1 HE2 HRA HRB HRC HRD
  go_enter Tryz.func34,Tryz.ntmps34
  go_wp2_with (first|(rw[←HW1.out,←HB.out])|fail)
  go_ret
  exact⟨rfl,HB1.out⟩
 cases p1
 ·clear HE1 HE2 HRA HRB HRC HRD
  go_enter Tryz.func34,Tryz.ntmps34
  go_wp2_with (first|(rw[←HW1.out,←HB.out])|fail)
  go_ret
  exact⟨rfl,HB1.out⟩
 cases p2
 ·clear HE1 HE2 HRA HRB HRC HRD
  go_enter Tryz.func34,Tryz.ntmps34
  go_wp2_with (first|(rw[←HW1.out,←HB.out])|fail)
  go_ret
  exact⟨rfl,HB1.out⟩
 cases p3
 ·go_enter Tryz.func34,Tryz.ntmps34
  go_wp2_with (first
   |(rw[←HW1.out,←HB.out])
   |(refine wpList_load_mid_on (by rfl) _ _ rfl b 3 rfl (trL c1 v1) _ HRA.out Tryz.underlying26 rfl (szTreeA _ _) ?_)
   |(refine wpList_load_mid_on (by rfl) _ _ rfl (b+1) 3 rfl (trL d1 u1) _ HRC.out Tryz.underlying26 rfl (szTreeA _ _) ?_)
   |fail)
  refine HE1.out.mono ?_
  rintro e w2 ⟨rfl,hb2⟩
  have HB2:=Lib.hid (HB1.out.trans (hb2.mono HB1.out.size))
  have HRB2:=Lib.hid (HRB.out w2 hb2);have HRD2:=Lib.hid (HRD.out w2 hb2)
  have HE3:=Lib.hid (HE2.out w2 hb2)
  clear hb2
  go_wp2
  go_ret
  exact⟨rfl,HB2.out⟩
 go_enter Tryz.func34,Tryz.ntmps34
 go_wp2_with (first
  |(rw[←HW1.out,←HB.out])
  |(refine wpList_load_mid_on (by rfl) _ _ rfl b 3 rfl (trL c1 v1) _ HRA.out Tryz.underlying26 rfl (szTreeA _ _) ?_)
  |(refine wpList_load_mid_on (by rfl) _ _ rfl (b+1) 3 rfl (trL d1 u1) _ HRC.out Tryz.underlying26 rfl (szTreeA _ _) ?_)
  |fail)
 refine HE1.out.mono ?_
 rintro e w2 ⟨rfl,hb2⟩
 have HB2:=Lib.hid (HB1.out.trans (hb2.mono HB1.out.size))
 have HRB2:=Lib.hid (HRB.out w2 hb2);have HRD2:=Lib.hid (HRD.out w2 hb2)
 have HE3:=Lib.hid (HE2.out w2 hb2)
 clear hb2
 go_wp2_with (first
  |(refine wpList_load_mid_on (by rfl) _ _ rfl b 20 rfl (trL c2 v2) _ HRB2.out Tryz.underlying26 rfl (szTreeA _ _) ?_)
  |(refine wpList_load_mid_on (by rfl) _ _ rfl (b+1) 20 rfl (trL d2 u2) _ HRD2.out Tryz.underlying26 rfl (szTreeA _ _) ?_)
  |fail)
 refine HE3.out.mono ?_
 rintro e w3 ⟨rfl,hb3⟩
 have HB3:=Lib.hid (HB2.out.trans (hb3.mono HB2.out.size))
 clear hb3
 go_wp2
 go_ret
 exact⟨rfl,HB3.out⟩
def opnW(u:UnV)(s1 s2:List Int)(r:Bool):Bool:=if u.op=true then r else sameK u.kd 0 u.last false u.left 0 u.c1 (fun _=>0) s1 [] u.c2 (fun _=>0) s2 []
theorem uopened_any(w:World)(u:UnV)(inn win:List Nat)(s1 s2:List Int)(h:SwI w u inn win s1 s2)(r:Bool)(hr:r=true↔MayI u.kd u.left u.c1 s1 u.c2 s2):Calls Tryz.prog 32 #[.agg (swA u.sw)] w fun e w'=>e=.returned (.bool (opnW u s1 s2 r))∧Below w.heap.size w w':=by
 obtain⟨sb,hsb⟩:∃b,b=w.heap.size:=⟨_,rfl⟩
 obtain⟨X,hX⟩:∃X,X=swA u.sw:=⟨_,rfl⟩
 obtain⟨W1,hW1⟩:∃W,W=w.alloc (.cells X 32):=⟨_,rfl⟩
 have hb1:Below w.heap.size w W1:=by rw[hW1];exact(Below.refl _ _).alloc (Nat.le_refl _) _
 have x1:BoxC W1 sb X 32:=by rw[hW1,hsb];exact BoxC.new w _ _
 obtain⟨a0,a1,a2,a3,a41,a42,a43,a44⟩:=sw_x hX x1
 have h1:=h.on (by rw[hW1];exact(Below.refl _ _).alloc (Nat.le_refl _) _:Below w.heap.size w W1)
 have hrng:W1.rangeAt sb 4 u.blk:=by
  have:=sw_blk (x:=u.sw) (w:=W1) (b:=sb) (by rw[←hX];exact x1)
  exact this
 have HB1:=Lib.hid hb1;have HW1:=Lib.hid hW1;have HSB:=Lib.hid hsb;have HRG:=Lib.hid hrng
 cases hop:u.op with
 |true=>
  have e:opnW u s1 s2 r=r:=by unfold opnW;rw[if_pos hop]
  rw[e,←hX]
  rw[hop]at a41
  have HC:=Lib.hid (pcheck13_any W1 u.kd u.last u.left u.c1 u.c2 u.v1 u.v2 s1 s2 h1.r1 h1.r2 h1.n1 h1.n2 r hr)
  clear h h1 hX hW1 hsb hb1 x1 hrng a0 a1 a2 a3 a42 a43 a44 hop e hr
  go_enter Tryz.func32,Tryz.ntmps32
  go_wp2_with (first
   |(rw[←HW1.out,←HSB.out])
   |(refine wpList_load_mid rfl _ _ rfl sb 4 rfl u.blk _ HRG.out Tryz.underlying28 rfl (szBlkL _ _ _ _ _ _ _) ?_)
   |fail)
  refine HC.out.mono ?_
  rintro e w2 ⟨rfl,hb2⟩
  have HB2:=Lib.hid (HB1.out.trans (hb2.mono HB1.out.size))
  clear hb2
  cases r
  ·rw[show chkI false=8 from rfl]
   go_wp2
   go_ret
   exact⟨rfl,HB2.out⟩
  ·rw[show chkI true=0 from rfl]
   go_wp2
   go_ret
   exact⟨rfl,HB2.out⟩
 |false=>
  obtain⟨q,hq⟩:∃q,q=sameK u.kd 0 u.last false u.left 0 u.c1 (fun _=>0) s1 [] u.c2 (fun _=>0) s2 []:=⟨_,rfl⟩
  have e:opnW u s1 s2 r=q:=by unfold opnW;rw[if_neg (by rw[hop];decide),hq]
  rw[e,←hX]
  rw[hop]at a41
  have hc:=usameK_any W1 u.kd 0 u.last false u.left 0 u.c1 (fun _=>0) u.c2 (fun _=>0) u.v1 u.v2 (.slice none 0 0) (.slice none 0 0) s1 s2 [] [] h1.r1 h1.r2 (rdS_nil14 _ _) (rdS_nil14 _ _) h1.n1 h1.n2 (by decide) (by decide)
  rw[←hq]at hc
  obtain⟨Z,hZ⟩:∃Z,Z=blkI 0 false 0 (fun _=>0) (fun _=>0) (.slice none 0 0) (.slice none 0 0):=⟨_,rfl⟩
  have HZB:Hid (Tryz.prog.built 28 []=some Z):=Lib.hid (by rw[hZ];exact built_blkZ)
  rw[←hZ]at hc
  have HC:=Lib.hid hc
  clear h h1 hX hW1 hsb hb1 x1 hrng a0 a1 a2 a3 a42 a43 a44 hop e hr hq hc hZ
  go_enter Tryz.func32,Tryz.ntmps32
  go_wp2_with (first
   |(rw[←HW1.out,←HSB.out])
   |(refine wpList_load_mid rfl _ _ rfl sb 4 rfl u.blk _ HRG.out Tryz.underlying28 rfl (szBlkL _ _ _ _ _ _ _) ?_)
   |(refine wpList_buildTo rfl 28 #[] rfl (some 11) rfl Z ?_ ?_;focus(simpa[Act.eval]using HZB.out))
   |fail)
  refine HC.out.mono ?_
  rintro e w2 ⟨rfl,hb2⟩
  have HB2:=Lib.hid (HB1.out.trans (hb2.mono HB1.out.size))
  clear hb2
  go_wp2
  go_ret
  exact⟨rfl,HB2.out⟩
def mayW(u:UnV)(il wl:Nat)(s1 s2:List Int)(r:Bool):Bool:=cntW u&&wtgW u il&&kptW u wl&&opnW u s1 s2 r&& !(u.ov&&(u.op||decide (0<il)))
def chkE(b:Bool):Int:=if b=true then 0 else 8
theorem ucheck14_any(w:World)(u:UnV)(inn win:List Nat)(s1 s2:List Int)(h:SwI w u inn win s1 s2)(r:Bool)(hr:r=true↔MayI u.kd u.left u.c1 s1 u.c2 s2):Calls Tryz.prog 12 #[.agg (swA u.sw)] w fun e w'=>e=.returned (.int .i64 (chkE (mayW u inn.length win.length s1 s2 r)))∧Below w.heap.size w w':=by
 obtain⟨sb,hsb⟩:∃b,b=w.heap.size:=⟨_,rfl⟩
 obtain⟨X,hX⟩:∃X,X=swA u.sw:=⟨_,rfl⟩
 obtain⟨W1,hW1⟩:∃W,W=w.alloc (.cells X 32):=⟨_,rfl⟩
 have hb1:Below w.heap.size w W1:=by rw[hW1];exact(Below.refl _ _).alloc (Nat.le_refl _) _
 have x1:BoxC W1 sb X 32:=by rw[hW1,hsb];exact BoxC.new w _ _
 obtain⟨a0,a1,a2,a3,a41,a42,a43,a44⟩:=sw_x hX x1
 obtain⟨Ai,ci,eI,_⟩:=h.I
 obtain⟨Aw,cw,eW,_⟩:=h.W
 have H1:Hid (∀V,Below W1.heap.size W1 V→Calls Tryz.prog 29 #[.agg X] V fun e w'=>e=.returned (.bool (cntW u))∧Below V.heap.size V w'):=Lib.hid fun V _=>by rw[hX];exact ucounted_any V u
 have H2:Hid (∀V,Below W1.heap.size W1 V→Calls Tryz.prog 30 #[.agg X] V fun e w'=>e=.returned (.bool (wtgW u inn.length))∧Below V.heap.size V w'):=Lib.hid fun V _=>by rw[hX];exact uwaiting_any V u Ai _ ci eI
 have H3:Hid (∀V,Below W1.heap.size W1 V→Calls Tryz.prog 31 #[.agg X] V fun e w'=>e=.returned (.bool (kptW u win.length))∧Below V.heap.size V w'):=Lib.hid fun V _=>by rw[hX];exact ukept_any V u Aw _ cw eW h.S.1 h.S.2
 have H4:Hid (∀V,Below W1.heap.size W1 V→Calls Tryz.prog 32 #[.agg X] V fun e w'=>e=.returned (.bool (opnW u s1 s2 r))∧Below V.heap.size V w'):=Lib.hid fun V hV=>by rw[hX];exact uopened_any V u inn win s1 s2 (h.on (hb1.trans (hV.mono hb1.size))) r hr
 obtain⟨b1,hb1'⟩:∃b,b=cntW u:=⟨_,rfl⟩
 obtain⟨b2,hb2'⟩:∃b,b=wtgW u inn.length:=⟨_,rfl⟩
 obtain⟨b3,hb3'⟩:∃b,b=kptW u win.length:=⟨_,rfl⟩
 obtain⟨b4,hb4'⟩:∃b,b=opnW u s1 s2 r:=⟨_,rfl⟩
 obtain⟨il,hil⟩:∃l,l=inn.length:=⟨_,rfl⟩
 obtain⟨E,hE⟩:∃E,E=chkE (mayW u inn.length win.length s1 s2 r):=⟨_,rfl⟩
 have eE:E=chkE (b1&&b2&&b3&&b4&& !(u.ov&&(u.op||decide (0<il)))):=by rw[hE,hb1',hb2',hb3',hb4',hil];rfl
 rw[←hE,←hX]
 rw[←hb1']at H1
 rw[←hb2']at H2
 rw[←hb3']at H3
 rw[←hb4']at H4
 rw[eI,←hil]at a2
 have HEE:=Lib.hid eE
 obtain⟨ov,hov⟩:∃o,o=u.ov:=⟨_,rfl⟩
 obtain⟨op,hop⟩:∃o,o=u.op:=⟨_,rfl⟩
 rw[←hov,←hop]at HEE
 have K:Hid (∀V,Below W1.heap.size W1 V→V.cell? ⟨sb,44,none⟩=some (.bool ov)∧V.cell? ⟨sb,41,none⟩=some (.bool op)∧V.cell? ⟨sb,2,none⟩=some (.slice Ai il ci)):=Lib.hid fun V hV=>by
  obtain⟨_,_,q2,_,q41,_,_,q44⟩:=sw_x hX (x1.below hV x1.lt)
  rw[eI,←hil]at q2
  rw[hov,hop]
  exact⟨q44,q41,q2⟩
 have HXS:Hid (X.size=45):=Lib.hid (by rw[hX];exact swA_size (blkL_len ..))
 have HX1:=Lib.hid x1
 have HB1:=Lib.hid hb1;have HW1:=Lib.hid hW1;have HSB:=Lib.hid hsb
 clear h hr hX hW1 hsb hb1 x1 a0 a1 a2 a3 a41 a42 a43 a44 eI eW hb1' hb2' hb3' hb4' hil hE eE hov hop
 have HV1:Hid (Below W1.heap.size W1 W1):=Lib.hid (Below.refl _ _)
 go_enter Tryz.func12,Tryz.ntmps12
 go_wp2_with (first
  |(rw[←HW1.out,←HSB.out])
  |(refine wpList_load_row rfl _ _ rfl sb rfl _ X (0,0) _ HX1.out Tryz.underlying32 rfl (szSwl _ HXS.out) ?_)
  |fail)
 obtain⟨w1,hw1⟩:∃W,W=W1:=⟨_,rfl⟩
 rw[←hw1]
 have HV1:Hid (Below W1.heap.size W1 w1):=Lib.hid (by rw[hw1];exact Below.refl _ _)
 clear hw1
 have hbb1:=H1.out w1 HV1.out
 refine hbb1.mono ?_
 rintro e w2 ⟨rfl,hb⟩
 have HV2:=Lib.hid (HV1.out.trans (hb.mono HV1.out.size))
 clear hb hbb1
 cases b1
 ·have HVZ:=HV2
  go_wp2
  go_ret
  exact⟨by rw[HEE.out];rfl,HB1.out.trans (HVZ.out.mono HB1.out.size)⟩
 go_wp2_with (first
  |(refine wpList_load_row_on (by rfl) _ _ rfl sb rfl _ X (0,0) _ (HX1.out.below HV2.out HX1.out.lt) Tryz.underlying32 rfl (szSwl _ HXS.out) ?_)
  |fail)
 have hbb2:=H2.out w2 HV2.out
 refine hbb2.mono ?_
 rintro e w3 ⟨rfl,hb⟩
 have HV3:=Lib.hid (HV2.out.trans (hb.mono HV2.out.size))
 clear hb hbb2
 cases b2
 ·have HVZ:=HV3
  go_wp2
  go_ret
  exact⟨by rw[HEE.out];rfl,HB1.out.trans (HVZ.out.mono HB1.out.size)⟩
 go_wp2_with (first
  |(refine wpList_load_row_on (by rfl) _ _ rfl sb rfl _ X (0,0) _ (HX1.out.below HV3.out HX1.out.lt) Tryz.underlying32 rfl (szSwl _ HXS.out) ?_)
  |fail)
 have hbb3:=H3.out w3 HV3.out
 refine hbb3.mono ?_
 rintro e w4 ⟨rfl,hb⟩
 have HV4:=Lib.hid (HV3.out.trans (hb.mono HV3.out.size))
 clear hb hbb3
 cases b3
 ·have HVZ:=HV4
  go_wp2
  go_ret
  exact⟨by rw[HEE.out];rfl,HB1.out.trans (HVZ.out.mono HB1.out.size)⟩
 go_wp2_with (first
  |(refine wpList_load_row_on (by rfl) _ _ rfl sb rfl _ X (0,0) _ (HX1.out.below HV4.out HX1.out.lt) Tryz.underlying32 rfl (szSwl _ HXS.out) ?_)
  |fail)
 have hbb4:=H4.out w4 HV4.out
 refine hbb4.mono ?_
 rintro e w5 ⟨rfl,hb⟩
 have HV5:=Lib.hid (HV4.out.trans (hb.mono HV4.out.size))
 clear hb hbb4
 cases b4
 ·have HVZ:=HV5
  go_wp2
  go_ret
  exact⟨by rw[HEE.out];rfl,HB1.out.trans (HVZ.out.mono HB1.out.size)⟩
 obtain⟨c44,c41,c2⟩:=K.out w5 HV5.out
 cases ov
 ·go_wp2
  go_ret
  exact⟨by rw[HEE.out];rfl,HB1.out.trans (HV5.out.mono HB1.out.size)⟩
 ·cases op
  ·by_cases hl:0<il
   ·have hli:(0:Int)<(il:Int):=by omega
    have HL:Hid (decide (0<il)=true):=Lib.hid (decide_eq_true hl)
    clear hl
    go_wp2
    go_ret
    exact⟨by rw[HEE.out,HL.out];rfl,HB1.out.trans (HV5.out.mono HB1.out.size)⟩
   ·have hli:¬(0:Int)<(il:Int):=by omega
    have HL:Hid (decide (0<il)=false):=Lib.hid (decide_eq_false hl)
    clear hl
    go_wp2
    go_ret
    exact⟨by rw[HEE.out,HL.out];rfl,HB1.out.trans (HV5.out.mono HB1.out.size)⟩
  ·go_wp2
   go_ret
   exact⟨by rw[HEE.out];rfl,HB1.out.trans (HV5.out.mono HB1.out.size)⟩
end Go.Proofs.YtcmpmighjglnpaaGreat
