/-
  Words and walks.
-/
import Derived.BigRegion
import Derived.Deep.RegionLaw
import Derived.Sort.QuietIn
import Derived.Test.YtokpcpjnihinfaaGreatpnaa
import Derived.Test.YtokpcpjnihinfaaGreatpnad
import Derived.Test.YtokpcpjnihinfaaGreatpnah
import Derived.Test.YtokpcpjnihinfaaGreatpnak
set_option maxRecDepth 100000
set_option maxHeartbeats 16000000
namespace Go.Proofs.YtokpcpjnihinfaaGreat
open Go.RowKit Go.ChangeShapes Go.WideShapes Go.ChangeAt Go.Joins
theorem NoB.setS{cs:Array Value}(h:NoB cs)(i:Nat)(A:Option Addr)(n c:Nat):NoB (cs.setIfInBounds i (.slice A n c)):=fun j x e=>by
 by_cases hj:i=j
 ·subst hj
  rcases Nat.lt_or_ge i cs.size with hi|hi
  ·simp[hi]at e
  ·rw[Array.getElem?_eq_none (by simpa using hi)]at e;cases e
 ·rw[Array.getElem?_setIfInBounds_ne hj]at e
  exact h j x e
theorem new_own{w:World}{base n c:Nat}{A:Option Addr}{xs:List Value}(h:w.ownsRow base 5 1 (.slice A n c) n xs)(h0:0<n):∃(g o:Nat) (cur:Array Value),A=some ⟨g,o,none⟩∧base≤g∧w.heap[g]?=some (.cells cur 5 (0,0)):=by
 rcases h.2 with⟨_,hv⟩|⟨g,cap,cur,hv,hg,hh,_⟩
 ·omega
 ·injection hv with h1 h2 h3
  exact⟨g,0,cur,h1,hg,hh⟩
theorem panswer_any(w:World)(B g:Nat)(p:Prs)(out:List Nat)(Ah:Option Addr)(hc:Nat)(Aw:Option Addr)(wc:Nat)(Ap:Option Addr)(pc:Nat)(Ao:Option Addr)(oc:Nat)(U:Und w B g p out Ah hc Aw wc Ap pc Ao oc)(hl1:p.hist.length≤2000000)(hl2:p.wait.length≤2000000)(hl3:p.pen.length≤2000000):
  Calls Tryz.prog 49 #[.pointer (some ⟨g,0,none⟩)] w fun e w'=>∃A1 c1 A2 c2 A3 c3,e=.returned (.tuple #[.agg (prsA p A1 c1 A2 c2 A3 c3),.slice Ao out.length oc,.int .i64 0])∧PrsR w' w'.heap.size p A1 c1 A2 c2 A3 c3∧ByR w' w'.heap.size Ao out.length oc (lst out)∧Below B w w'∧NewB w' B A1 p.hist.length∧NewB w' B A2 p.wait.length:=by
 obtain⟨h,hh⟩:∃h,h=w.heap.size:=⟨_,rfl⟩
 obtain⟨K,hk⟩:∃K:Int,p.k=K:=⟨_,rfl⟩
 obtain⟨Z,hZ⟩:∃Z,Z=prsA (begP 0 0 0 false) none 0 none 0 none 0:=⟨_,rfl⟩
 have hz:=(zero_of_info zero_prs).1
 rw[←hZ]at hz
 obtain⟨W1,hW1⟩:∃W,W=w.alloc (.cells Z 32):=⟨_,rfl⟩
 have b1:Below h w W1:=by rw[hW1,hh];exact(Below.refl _ _).alloc (Nat.le_refl _) _
 have z1:BoxC W1 h Z 32:=by rw[hW1,hh];exact BoxC.new w _ _
 have U1:=U.below (hh▸b1)
 have hgh:g<h:=by rw[hh];exact U.lt
 have CL:∀{A:Option Addr} {n c:Nat} {f:Nat→Nat} (V:World),h≤V.heap.size→ByR V V.heap.size A n c f→n≤2000000→Calls Tryz.prog 63 #[.slice A n c] V fun e w'=>∃A' c',e=.returned (.slice A' n c')∧w'.ownsRow h 5 1 (.slice A' n c') n (bytesL n f)∧Below V.heap.size V w':=fun{A n c f} V hV r hn=>
  (clone8_any V A n c f r hn).mono fun e w' ⟨A',c',h1,h2,h3⟩=>⟨A',c',h1,ownsRow_lower h2 hV,h3⟩
 have hlt1:h<W1.heap.size:=z1.lt
 have CH:Hid (∀V,Below W1.heap.size W1 V→Calls Tryz.prog 63 #[.slice Ah p.hist.length hc] V fun e w'=>∃A' c',e=.returned (.slice A' p.hist.length c')∧w'.ownsRow h 5 1 (.slice A' p.hist.length c') p.hist.length (bytesL p.hist.length (lst p.hist))∧Below V.heap.size V w'):=Lib.hid fun V hV=>CL V (by have:=hV.size;omega) (U1.below hV).hist hl1
 have CW:Hid (∀V,Below W1.heap.size W1 V→Calls Tryz.prog 63 #[.slice Aw p.wait.length wc] V fun e w'=>∃A' c',e=.returned (.slice A' p.wait.length c')∧w'.ownsRow h 5 1 (.slice A' p.wait.length c') p.wait.length (bytesL p.wait.length (lst p.wait))∧Below V.heap.size V w'):=Lib.hid fun V hV=>CL V (by have:=hV.size;omega) (U1.below hV).wait hl2
 have CP:Hid (∀V,Below W1.heap.size W1 V→Calls Tryz.prog 63 #[.slice Ap p.pen.length pc] V fun e w'=>∃A' c',e=.returned (.slice A' p.pen.length c')∧w'.ownsRow h 5 1 (.slice A' p.pen.length c') p.pen.length (bytesL p.pen.length (lst p.pen))∧Below V.heap.size V w'):=Lib.hid fun V hV=>CL V (by have:=hV.size;omega) (U1.below hV).pen hl3
 obtain⟨hn,hhn⟩:∃x,x=p.hist.length:=⟨_,rfl⟩
 obtain⟨wn,hwn⟩:∃x,x=p.wait.length:=⟨_,rfl⟩
 obtain⟨pn,hpnn⟩:∃x,x=p.pen.length:=⟨_,rfl⟩
 obtain⟨on,hon⟩:∃x,x=out.length:=⟨_,rfl⟩
 have eX:pgA p Ah hc Aw wc Ap pc Ao out.length oc=#[.int .i64 p.s,.int .i64 p.h,.int .i64 p.m,.bool p.z,.slice Ah hn hc,.slice Aw wn wc,.slice Ap pn pc,.int .i64 K,.bool p.over,(.slice Ao on oc)]:=by
  unfold pgA;rw[←hhn,←hwn,←hpnn,hk,←hon]
 have hx:=U1.box
 rw[eX]at hx
 rw[←hhn]at CH;rw[←hwn]at CW;rw[←hpnn]at CP
 have HFIN:Hid (∀(V:World) (A1:Option Addr) (c1:Nat) (A2:Option Addr) (c2:Nat) (A3:Option Addr) (c3:Nat),Below W1.heap.size W1 V→V.ownsRow h 5 1 (.slice A1 hn c1) hn (bytesL hn (lst p.hist))→V.ownsRow h 5 1 (.slice A2 wn c2) wn (bytesL wn (lst p.wait))→V.ownsRow h 5 1 (.slice A3 pn c3) pn (bytesL pn (lst p.pen))→True):=Lib.hid fun _ _ _ _ _ _ _ _ _ _ _=>trivial
 have HX:=Lib.hid hx;have HW1:=Lib.hid hW1;have HH:=Lib.hid hh;have HZ1:=Lib.hid z1;have HLT:=Lib.hid hlt1;have HB1:=Lib.hid b1;have HU1:=Lib.hid U1;have HLE:=Lib.hid (And.intro U.le hgh);have HHN:=Lib.hid hhn;have HWN:=Lib.hid hwn;have HPN:=Lib.hid hpnn;have HON:=Lib.hid hon;have HKK:=Lib.hid hk;have HZE:=Lib.hid hZ;have NOB:Hid (NoB #[.int .i64 p.s,.int .i64 p.h,.int .i64 p.m,.bool p.z,.slice Ah hn hc,.slice Aw wn wc,.slice Ap pn pc,.int .i64 K,.bool p.over,.slice Ao on oc]):=Lib.hid (eX▸noB_pg _ _ _ _ _ _ _ _ _ _);have HBY:=Lib.hid (And.intro (bytes_of U.hist) (And.intro (bytes_of U.wait) (bytes_of U.pen)))
 rw[←hhn,←hwn,←hon]
 clear hhn hwn hpnn hon U hW1 b1 z1 U1 CL hlt1 hx eX hZ hk hl1 hl2 hl3 hh HFIN
 go_enter Tryz.func49,Tryz.ntmps49
 go_wp2_with (first|(rw[←HW1.out,←HH.out])|fail)
 refine wp_region_tabg 25 [1,2] (tabT [fun v _=>v=.pointer (some ⟨g,0,none⟩),fun v _=>v=.pointer (some ⟨g,0,none⟩),fun v _=>v=.pointer (some ⟨g,0,none⟩),fun v _=>v=.pointer (some ⟨g,0,none⟩),fun v _=>v=.pointer (some ⟨g,0,none⟩),fun v _=>v=.pointer (some ⟨g,0,none⟩),fun v _=>v=.pointer (some ⟨g,4,none⟩),fun v _=>v=.slice Ah hn hc,fun v W=>∃A' c',v=.slice A' hn c'∧W.ownsRow h 5 1 (.slice A' hn c') hn (bytesL hn (lst p.hist)),fun v _=>v=.pointer (some ⟨g,0,none⟩),fun v _=>v=.pointer (some ⟨g,0,none⟩),fun v _=>v=.pointer (some ⟨g,0,none⟩),fun v _=>v=.pointer (some ⟨g,5,none⟩),fun v _=>v=.slice Aw wn wc,fun v W=>∃A' c',v=.slice A' wn c'∧W.ownsRow h 5 1 (.slice A' wn c') wn (bytesL wn (lst p.wait)),fun v _=>v=.pointer (some ⟨g,0,none⟩),fun v _=>v=.pointer (some ⟨g,0,none⟩),fun v _=>v=.pointer (some ⟨g,0,none⟩),fun v _=>v=.pointer (some ⟨g,6,none⟩),fun v _=>v=.pointer (some ⟨g,6,none⟩),fun v _=>v=.slice Ap pn pc,fun v W=>∃A' c',v=.slice A' pn c'∧W.ownsRow h 5 1 (.slice A' pn c') pn (bytesL pn (lst p.pen)),fun v _=>v=.pointer (some ⟨g,0,none⟩),fun v _=>v=.pointer (some ⟨g,0,none⟩),fun v _=>v=.pointer (some ⟨g,4,none⟩)]) W1 (Below.refl _ _) (by kernel_rfl) (by kernel_rfl) (List.forall_mem_cons.2 ⟨⟨_,_,rfl,rfl,rfl,(fun _ _ _ _ h=>h),fun aa wv hb ha hS=>⟨_,float_move _ rfl _ ((ha 0 (by kernel_rfl)).trans rfl),up_eq rfl⟩⟩,(List.forall_mem_cons.2 ⟨⟨_,_,rfl,rfl,rfl,(fun _ _ _ _ h=>h),fun aa wv hb ha hS=>⟨_,float_move _ rfl _ ((ha 0 (by kernel_rfl)).trans rfl),up_eq rfl⟩⟩,(fun _ h=>by cases h)⟩)⟩) ?_ ?_
 case refine_1=>
  simp only[List.take_succ_cons,List.take_zero]
  refine TabAll.cons (fun aa wv hb ha hS Kk Qq hK=>tab_move (tab_free rfl) _ rfl (up_eq ((ha 0 (by kernel_rfl)).trans rfl)) hK) ?_
  refine TabAll.cons (fun aa wv hb ha hS Kk Qq hK=>tab_move (tab_free rfl) _ rfl (up_eq ((ha 0 (by kernel_rfl)).trans rfl)) hK) ?_
  refine TabAll.cons (fun aa wv hb ha hS Kk Qq hK=>tab_move (tab_free rfl) _ rfl (up_eq ((ha 0 (by kernel_rfl)).trans rfl)) hK) ?_
  refine TabAll.cons (fun aa wv hb ha hS Kk Qq hK=>tab_move (tab_free rfl) _ rfl (up_eq ((ha 0 (by kernel_rfl)).trans rfl)) hK) ?_
  refine TabAll.cons (fun aa wv hb ha hS Kk Qq hK=>tab_nil (tab_free rfl) _ rfl _ (show aa.eval (.tmp 8)=.pointer (some ⟨g,0,none⟩)from(hS 3 8 (by kernel_rfl) rfl).here) (up_eq rfl) hK) ?_
  refine TabAll.cons (fun aa wv hb ha hS Kk Qq hK=>tab_field (tab_free rfl) _ _ _ rfl _ (.pointer (some ⟨g,0,none⟩)) (show aa.eval (.tmp 9)=.pointer (some ⟨g,0,none⟩)from(hS 4 9 (by kernel_rfl) rfl).here) (by go_simp) (up_eq rfl) hK) ?_
  refine TabAll.cons (fun aa wv hb ha hS Kk Qq hK=>tab_field (tab_free rfl) _ _ _ rfl _ (.pointer (some ⟨g,4,none⟩)) (show aa.eval (.tmp 10)=.pointer (some ⟨g,0,none⟩)from(hS 5 10 (by kernel_rfl) rfl).here) (by go_simp) (up_eq rfl) hK) ?_
  refine TabAll.cons (fun aa wv hb ha hS Kk Qq hK=>tab_load (tab_free rfl) _ _ rfl _ (.slice Ah hn hc) (show aa.eval (.tmp 11)=.pointer (some ⟨g,4,none⟩)from(hS 6 11 (by kernel_rfl) rfl).here) (by have hc:wv.cell? ⟨g,4,none⟩=some (.slice Ah hn hc):=(HX.out.below hb HX.out.lt).cell.trans rfl;go_simp) (up_eq rfl) hK) ?_
  refine TabAll.cons (fun aa wv hb ha hS Kk Qq hK=>tab_call (tab_free rfl) 63 _ _ rfl (enters_of Tryz.func63 (by kernel_rfl) rfl) #[.slice Ah hn hc] (by simp[(show aa.eval (.tmp 12)=.slice Ah hn hc from(hS 7 12 (by kernel_rfl) rfl).here)]) (CH.out wv hb) (fun ee w' ⟨A',c',h1,h2,h3⟩=>⟨_,h1,h3,fun W hW=>⟨_,_,rfl,own_keep h2 hW⟩⟩) hK) ?_
  refine TabAll.cons (fun aa wv hb ha hS Kk Qq hK=>tab_move (tab_free rfl) _ rfl (up_eq ((ha 0 (by kernel_rfl)).trans rfl)) hK) ?_
  refine TabAll.cons (fun aa wv hb ha hS Kk Qq hK=>tab_nil (tab_free rfl) _ rfl _ (show aa.eval (.tmp 14)=.pointer (some ⟨g,0,none⟩)from(hS 9 14 (by kernel_rfl) rfl).here) (up_eq rfl) hK) ?_
  refine TabAll.cons (fun aa wv hb ha hS Kk Qq hK=>tab_field (tab_free rfl) _ _ _ rfl _ (.pointer (some ⟨g,0,none⟩)) (show aa.eval (.tmp 15)=.pointer (some ⟨g,0,none⟩)from(hS 10 15 (by kernel_rfl) rfl).here) (by go_simp) (up_eq rfl) hK) ?_
  refine TabAll.cons (fun aa wv hb ha hS Kk Qq hK=>tab_field (tab_free rfl) _ _ _ rfl _ (.pointer (some ⟨g,5,none⟩)) (show aa.eval (.tmp 16)=.pointer (some ⟨g,0,none⟩)from(hS 11 16 (by kernel_rfl) rfl).here) (by go_simp) (up_eq rfl) hK) ?_
  refine TabAll.cons (fun aa wv hb ha hS Kk Qq hK=>tab_load (tab_free rfl) _ _ rfl _ (.slice Aw wn wc) (show aa.eval (.tmp 17)=.pointer (some ⟨g,5,none⟩)from(hS 12 17 (by kernel_rfl) rfl).here) (by have hc:wv.cell? ⟨g,5,none⟩=some (.slice Aw wn wc):=(HX.out.below hb HX.out.lt).cell.trans rfl;go_simp) (up_eq rfl) hK) ?_
  refine TabAll.cons (fun aa wv hb ha hS Kk Qq hK=>tab_call (tab_free rfl) 63 _ _ rfl (enters_of Tryz.func63 (by kernel_rfl) rfl) #[.slice Aw wn wc] (by simp[(show aa.eval (.tmp 18)=.slice Aw wn wc from(hS 13 18 (by kernel_rfl) rfl).here)]) (CW.out wv hb) (fun ee w' ⟨A',c',h1,h2,h3⟩=>⟨_,h1,h3,fun W hW=>⟨_,_,rfl,own_keep h2 hW⟩⟩) hK) ?_
  refine TabAll.cons (fun aa wv hb ha hS Kk Qq hK=>tab_move (tab_free rfl) _ rfl (up_eq ((ha 0 (by kernel_rfl)).trans rfl)) hK) ?_
  refine TabAll.cons (fun aa wv hb ha hS Kk Qq hK=>tab_nil (tab_free rfl) _ rfl _ (show aa.eval (.tmp 20)=.pointer (some ⟨g,0,none⟩)from(hS 15 20 (by kernel_rfl) rfl).here) (up_eq rfl) hK) ?_
  refine TabAll.cons (fun aa wv hb ha hS Kk Qq hK=>tab_field (tab_free rfl) _ _ _ rfl _ (.pointer (some ⟨g,0,none⟩)) (show aa.eval (.tmp 21)=.pointer (some ⟨g,0,none⟩)from(hS 16 21 (by kernel_rfl) rfl).here) (by go_simp) (up_eq rfl) hK) ?_
  refine TabAll.cons (fun aa wv hb ha hS Kk Qq hK=>tab_field (tab_free rfl) _ _ _ rfl _ (.pointer (some ⟨g,6,none⟩)) (show aa.eval (.tmp 22)=.pointer (some ⟨g,0,none⟩)from(hS 17 22 (by kernel_rfl) rfl).here) (by go_simp) (up_eq rfl) hK) ?_
  refine TabAll.cons (fun aa wv hb ha hS Kk Qq hK=>tab_field (tab_free rfl) _ _ _ rfl _ (.pointer (some ⟨g,6,none⟩)) (show aa.eval (.tmp 23)=.pointer (some ⟨g,6,none⟩)from(hS 18 23 (by kernel_rfl) rfl).here) (by go_simp) (up_eq rfl) hK) ?_
  refine TabAll.cons (fun aa wv hb ha hS Kk Qq hK=>tab_load (tab_free rfl) _ _ rfl _ (.slice Ap pn pc) (show aa.eval (.tmp 24)=.pointer (some ⟨g,6,none⟩)from(hS 19 24 (by kernel_rfl) rfl).here) (by have hc:wv.cell? ⟨g,6,none⟩=some (.slice Ap pn pc):=(HX.out.below hb HX.out.lt).cell.trans rfl;go_simp) (up_eq rfl) hK) ?_
  refine TabAll.cons (fun aa wv hb ha hS Kk Qq hK=>tab_call (tab_free rfl) 63 _ _ rfl (enters_of Tryz.func63 (by kernel_rfl) rfl) #[.slice Ap pn pc] (by simp[(show aa.eval (.tmp 25)=.slice Ap pn pc from(hS 20 25 (by kernel_rfl) rfl).here)]) (CP.out wv hb) (fun ee w' ⟨A',c',h1,h2,h3⟩=>⟨_,h1,h3,fun W hW=>⟨_,_,rfl,own_keep h2 hW⟩⟩) hK) ?_
  refine TabAll.cons (fun aa wv hb ha hS Kk Qq hK=>tab_nil (tab_free rfl) _ rfl _ (show aa.eval (.tmp 5)=.pointer (some ⟨g,0,none⟩)from(hS 0 5 (by kernel_rfl) rfl).here) (up_eq rfl) hK) ?_
  refine TabAll.cons (fun aa wv hb ha hS Kk Qq hK=>tab_field (tab_free rfl) _ _ _ rfl _ (.pointer (some ⟨g,0,none⟩)) (show aa.eval (.tmp 27)=.pointer (some ⟨g,0,none⟩)from(hS 22 27 (by kernel_rfl) rfl).here) (by go_simp) (up_eq rfl) hK) ?_
  refine TabAll.cons (fun aa wv hb ha hS Kk Qq hK=>tab_field (tab_free rfl) _ _ _ rfl _ (.pointer (some ⟨g,4,none⟩)) (show aa.eval (.tmp 28)=.pointer (some ⟨g,0,none⟩)from(hS 23 28 (by kernel_rfl) rfl).here) (by go_simp) (up_eq rfl) hK) ?_
  exact TabAll.nil
 intro vals w5 hb hv
 obtain⟨A1,c1,e13,o1⟩:=(hv 8 13 rfl).here
 obtain⟨A2,c2,e19,o2⟩:=(hv 14 19 rfl).here
 obtain⟨A3,c3,e26,o3⟩:=(hv 21 26 rfl).here
 have e6:vals 6=.pointer (some ⟨g,0,none⟩):=(hv 1 6 rfl).here
 have e7:vals 7=.pointer (some ⟨g,0,none⟩):=(hv 2 7 rfl).here
 have e29:vals 29=.pointer (some ⟨g,4,none⟩):=(hv 24 29 rfl).here
 have x5:=HX.out.below hb HX.out.lt
 have s4:w5.cell? ⟨g,4,none⟩=some (.slice Ah hn hc):=x5.cell.trans rfl
 have s5:w5.cell? ⟨g,5,none⟩=some (.slice Aw wn wc):=x5.cell.trans rfl
 have s6:w5.cell? ⟨g,6,none⟩=some (.slice Ap pn pc):=x5.cell.trans rfl
 have f4:w5.frozen? ⟨g,4,none⟩=false:=x5.free
 have f5:w5.frozen? ⟨g,5,none⟩=false:=x5.free
 have f6:w5.frozen? ⟨g,6,none⟩=false:=x5.free
 obtain⟨W6,hW6⟩:∃W,W=((w5.setCell ⟨g,4,none⟩ (.slice A1 hn c1)).setCell ⟨g,5,none⟩ (.slice A2 wn c2)).setCell ⟨g,6,none⟩ (.slice A3 pn c3):=⟨_,rfl⟩
 have HX6:Hid (BoxC W6 g #[.int .i64 p.s,.int .i64 p.h,.int .i64 p.m,.bool p.z,.slice A1 hn c1,.slice A2 wn c2,.slice A3 pn c3,.int .i64 K,.bool p.over,(.slice Ao on oc)] 62):=Lib.hid (by rw[hW6];exact((x5.set 4 _).set 5 _).set 6 _)
 obtain⟨YP,hYP⟩:∃Y,Y=prsA p A1 c1 A2 c2 A3 c3:=⟨_,rfl⟩
 have hYv:YP=#[.int .i64 p.s,.int .i64 p.h,.int .i64 p.m,.bool p.z,.slice A1 hn c1,.slice A2 wn c2,.slice A3 pn c3,.int .i64 K,.bool p.over]:=by rw[hYP,HHN.out,HWN.out,HPN.out,←HKK.out];rfl
 have HYS:Hid (YP.size=9):=Lib.hid (by rw[hYP];rfl)
 have HY1:Hid (YP.all (·.oneCell')=true):=Lib.hid (by rw[hYP];exact prsA_one ..)
 have HZY:Hid (Z.size=YP.size):=Lib.hid (by rw[HYS.out,HZE.out];rfl)
 have HYM:Hid (∀V,BoxC V g #[.int .i64 p.s,.int .i64 p.h,.int .i64 p.m,.bool p.z,.slice A1 hn c1,.slice A2 wn c2,.slice A3 pn c3,.int .i64 K,.bool p.over,.slice Ao on oc] 62→V.rangeAt g 0 YP.toList):=Lib.hid fun V hx i v hv=>by
  rw[hx.cell,Nat.zero_add]
  rw[hYv]at hv
  rcases i with _|_|_|_|_|_|_|_|_|i<;>first|(simp at hv;done)|simpa using hv
 have hx6:=HX6.out
 have hz6:BoxC W6 h Z 32:=by
  rw[hW6]
  exact(((HZ1.out.below hb HLT.out).other (by show h≠g;omega) _).other (by show h≠g;omega) _).other (by show h≠g;omega) _
 have HZ6:Hid (BoxC W6.drew h Z 32):=Lib.hid hz6
 obtain⟨W8,hW8⟩:∃W,W=(W6.drew).setRow h YP:=⟨_,rfl⟩
 have HY7:Hid (BoxC ((W6.drew).setRow h YP) h YP 32):=Lib.hid (HZ6.out.row YP)
 have hU5:=HU1.out.below hb
 have hB5:Below B w w5:=(HB1.out.mono (by have:=HLE.out;omega)).trans (hb.mono (by have:=HLE.out;have:=HLT.out;omega))
 have hout:ByR w5 w5.heap.size Ao on oc (lst out):=by have:=ByR.of_own hU5.own (lst_lt hU5.bo);rwa[←HON.out]at this
 have key:∀{A:Option Addr} {n c:Nat} {L:List Nat},ByR w5 w5.heap.size A n c (lst L)→ByR ((W6.drew).setRow h YP) ((W6.drew).setRow h YP).heap.size A n c (lst L):=fun{A n c L} r=>by
  have hs6:W6.heap.size=w5.heap.size:=by rw[hW6];simp[World.setCell]
  have r6:ByR W6 W6.heap.size A n c (lst L):=by
   rw[hs6,hW6]
   have k1:=r.setBox x5 NOB.out 4 (.slice A1 hn c1)
   have k2:=k1.setBox (x5.set 4 _) (NOB.out.setS 4 _ _ _) 5 (.slice A2 wn c2)
   exact k2.setBox ((x5.set 4 _).set 5 _) ((NOB.out.setS 4 _ _ _).setS 5 _ _ _) 6 (.slice A3 pn c3)
  have r7:=r6.drew.rowBox HZ6.out (by rw[HZE.out];exact noB_prs _ _ _ _ _ _ _) YP
  rw[size_setRow]
  exact r7
 have bel:Below B w ((W6.drew).setRow h YP):=below_rowC (Below.drew (by rw[hW6];exact below_cell (below_cell (below_cell hB5 HLE.out.1 _ _) HLE.out.1 _ _) HLE.out.1 _ _)) (by have:=HLE.out;omega) _
 have nb:∀{A:Option Addr} {n c:Nat} {L:List Nat},w5.ownsRow h 5 1 (.slice A n c) n (bytesL n (lst L))→NewB ((W6.drew).setRow h YP) B A n:=fun{A n c L} o h0=>by
  obtain⟨gg,o',cur,e1,e2,e3⟩:=new_own o h0
  refine⟨gg,o',cur,e1,by have:=HLE.out;omega,?_⟩
  have n1:gg≠h:=fun e=>by
   have h1:=HZ1.out.below hb HLT.out
   have h2:w5.heap[gg]?=some (.cells Z 32 (0,0)):=by rw[e];exact h1
   rw[e3]at h2
   injection h2 with h2
   injection h2 with _ h3 _
   exact absurd h3 (by decide)
  rw[setRow_other _ _ _ _ n1]
  show W6.heap[gg]?=_
  rw[hW6]
  have n2:gg≠g:=by omega
  exact((Below.heap_setCell _ _ _ gg n2).trans ((Below.heap_setCell _ _ _ gg n2).trans (Below.heap_setCell _ _ _ gg n2))).trans e3
 have HEND:Hid (∃A1 c1 A2 c2 A3 c3,Ending.returned (.tuple #[.agg YP,.slice Ao on oc,.int .i64 0])=.returned (.tuple #[.agg (prsA p A1 c1 A2 c2 A3 c3),.slice Ao on oc,.int .i64 0])∧PrsR ((W6.drew).setRow h YP) ((W6.drew).setRow h YP).heap.size p A1 c1 A2 c2 A3 c3∧ByR ((W6.drew).setRow h YP) ((W6.drew).setRow h YP).heap.size Ao on oc (lst out)∧Below B w ((W6.drew).setRow h YP)∧NewB ((W6.drew).setRow h YP) B A1 hn∧NewB ((W6.drew).setRow h YP) B A2 wn):=Lib.hid (by
  have q1:=key (ByR.of_own o1 (lst_lt HBY.out.1));have q2:=key (ByR.of_own o2 (lst_lt HBY.out.2.1));have q3:=key (ByR.of_own o3 (lst_lt HBY.out.2.2))
  refine⟨A1,c1,A2,c2,A3,c3,by rw[hYP],⟨?_,?_,?_⟩,key hout,bel,nb o1,nb o2⟩
  ·rw[←HHN.out];exact q1
  ·rw[←HWN.out];exact q2
  ·rw[←HPN.out];exact q3)
 have HW6:=Lib.hid hW6
 clear x5 hb hv hW6 hYv hYP hx6 hz6 hW8 W8 hU5 hB5 hout key bel nb o1 o2 o3
 simp only[List.take_succ_cons,List.take_zero,List.drop_succ_cons,List.drop_zero,List.map_cons,List.map_nil,putL,Act.put,List.setIfInBounds_toArray,List.set_cons_zero,List.set_cons_succ,e6,e7,e13,e19,e26,e29]
 clear e6 e7 e13 e19 e26 e29
 go_wp2_with (first|(rw[←HW6.out])|fail)
 have HXA:Hid (BoxC (W6.drew) g #[.int .i64 p.s,.int .i64 p.h,.int .i64 p.m,.bool p.z,.slice A1 hn c1,.slice A2 wn c2,.slice A3 pn c3,.int .i64 K,.bool p.over,.slice Ao on oc] 62):=Lib.hid HX6.out
 have HXB:Hid (BoxC ((W6.drew).setRow h YP) g #[.int .i64 p.s,.int .i64 p.h,.int .i64 p.m,.bool p.z,.slice A1 hn c1,.slice A2 wn c2,.slice A3 pn c3,.int .i64 K,.bool p.over,.slice Ao on oc] 62):=Lib.hid (BoxC.rowO HX6.out (by omega) _)
 refine wp_region_two 8 (twT [fun v=>v=.pointer (some ⟨g,0,none⟩),fun v=>v=.pointer (some ⟨g,0,none⟩),fun v=>v=.pointer (some ⟨g,0,none⟩),fun v=>v=.agg YP,fun v=>v=.pointer (some ⟨g,0,none⟩),fun v=>v=.pointer (some ⟨g,0,none⟩),fun v=>v=.pointer (some ⟨g,9,none⟩),fun v=>v=.slice Ao on oc,fun v=>v=undef,fun v=>v=.slice Ao on oc,fun v=>v=.int .i64 0]) ((W6.drew).setRow h YP) (by kernel_rfl) (by kernel_rfl) ?_ ?_
 case refine_1=>
  refine TwAll.cons (fun aa wv hw ha hS Kk Qq hK=>tw_val (k:=0) (s:=8) (by decide) (tab_free rfl) (.pointer (some ⟨g,0,none⟩)) (by have e:=(show aa.eval (.tmp 0)=.pointer (some ⟨g,0,none⟩)from((ha 0 (by kernel_rfl)).trans rfl));unfold execOp;simp only[e];rfl) hK rfl) ?_
  refine TwAll.cons (fun aa wv hw ha hS Kk Qq hK=>tw_val (k:=1) (s:=8) (by decide) (tab_free rfl) (.pointer (some ⟨g,0,none⟩)) (by have e:=(show aa.eval (.tmp 37)=.pointer (some ⟨g,0,none⟩)from hS 0 37 (by kernel_rfl) rfl);unfold execOp;simp only[e];rfl) hK rfl) ?_
  refine TwAll.cons (fun aa wv hw ha hS Kk Qq hK=>tw_val (k:=2) (s:=8) (by decide) (tab_free rfl) (.pointer (some ⟨g,0,none⟩)) (by have e:=(show aa.eval (.tmp 38)=.pointer (some ⟨g,0,none⟩)from hS 1 38 (by kernel_rfl) rfl);unfold execOp;simp only[e];go_simp) hK rfl) ?_
  refine TwAll.cons (fun aa wv hw ha hS Kk Qq hK=>tw_val (k:=3) (s:=8) (by decide) (tab_free rfl) (.agg YP) (by have e:=(show aa.eval (.tmp 39)=.pointer (some ⟨g,0,none⟩)from hS 2 39 (by kernel_rfl) rfl);have hx:BoxC wv g #[.int .i64 p.s,.int .i64 p.h,.int .i64 p.m,.bool p.z,.slice A1 hn c1,.slice A2 wn c2,.slice A3 pn c3,.int .i64 K,.bool p.over,.slice Ao on oc] 62:=by {rcases hw with hw|⟨hw,_,_⟩<;>first|(rw[hw];exact HXA.out)|(rw[hw];exact HXB.out)};have hl:=run_loadVar_mid (P:=Tryz.prog) wv g 0 32 YP.toList _ (HYM.out wv hx) Tryz.underlying32 rfl (by rw[Array.length_toList,HYS.out];exact szPrs);unfold execOp;simp only[e,Instr.loadAt,Instr.sureAddr,Sem.run_bind,Sem.run_pure,Result.andThen_ok,hl]) hK rfl) ?_
  refine TwAll.cons (fun aa wv hw ha hS Kk Qq hK=>tw_val (k:=4) (s:=8) (by decide) (tab_free rfl) (.pointer (some ⟨g,0,none⟩)) (by have e:=(show aa.eval (.tmp 0)=.pointer (some ⟨g,0,none⟩)from((ha 0 (by kernel_rfl)).trans rfl));unfold execOp;simp only[e];rfl) hK rfl) ?_
  refine TwAll.cons (fun aa wv hw ha hS Kk Qq hK=>tw_val (k:=5) (s:=8) (by decide) (tab_free rfl) (.pointer (some ⟨g,0,none⟩)) (by have e:=(show aa.eval (.tmp 41)=.pointer (some ⟨g,0,none⟩)from hS 4 41 (by kernel_rfl) rfl);unfold execOp;simp only[e];rfl) hK rfl) ?_
  refine TwAll.cons (fun aa wv hw ha hS Kk Qq hK=>tw_val (k:=6) (s:=8) (by decide) (tab_free rfl) (.pointer (some ⟨g,9,none⟩)) (by have e:=(show aa.eval (.tmp 42)=.pointer (some ⟨g,0,none⟩)from hS 5 42 (by kernel_rfl) rfl);unfold execOp;simp only[e];go_simp) hK rfl) ?_
  refine TwAll.cons (fun aa wv hw ha hS Kk Qq hK=>tw_val (k:=7) (s:=8) (by decide) (tab_free rfl) (.slice Ao on oc) (by have e:=(show aa.eval (.tmp 43)=.pointer (some ⟨g,9,none⟩)from hS 6 43 (by kernel_rfl) rfl);have hx:BoxC wv g #[.int .i64 p.s,.int .i64 p.h,.int .i64 p.m,.bool p.z,.slice A1 hn c1,.slice A2 wn c2,.slice A3 pn c3,.int .i64 K,.bool p.over,.slice Ao on oc] 62:=by {rcases hw with hw|⟨hw,_,_⟩<;>first|(rw[hw];exact HXA.out)|(rw[hw];exact HXB.out)};have hc:wv.cell? ⟨g,9,none⟩=some (.slice Ao on oc):=hx.cell.trans rfl;unfold execOp;simp only[e];go_simp) hK rfl) ?_
  refine TwAll.cons (fun aa wv hw ha hS Kk Qq hK=>tw_store (s:=8) (tab_free rfl) rfl (by have e1:=(show aa.eval (.tmp 2)=.pointer (some ⟨h,0,none⟩)from((ha 2 (by kernel_rfl)).trans rfl));have e2:=(show aa.eval (.tmp 40)=.agg YP from hS 3 40 (by kernel_rfl) rfl);have hww:wv=W6.drew:=by {rcases hw with hw|⟨_,hw,_⟩<;>first|exact hw|exact absurd rfl hw};subst hww;have hst:=run_storeVar_row (P:=Tryz.prog) (W6.drew) h 32 32 Z YP HZ6.out (by rw[HYS.out];exact szPrs) HZY.out HY1.out;unfold execOp;simp only[e1,e2,Instr.storeAt,Instr.sureAddr,Sem.run_bind,Sem.run_pure,Result.andThen_ok,hst]) hK rfl) ?_
  refine TwAll.cons (fun aa wv hw ha hS Kk Qq hK=>tw_val (k:=9) (s:=8) (by decide) (tab_free rfl) (.slice Ao on oc) (by have e:=(show aa.eval (.tmp 44)=.slice Ao on oc from hS 7 44 (by kernel_rfl) rfl);unfold execOp;simp only[e];rfl) hK rfl) ?_
  refine TwAll.cons (fun aa wv hw ha hS Kk Qq hK=>tw_val (k:=10) (s:=8) (by decide) (tab_free rfl) (.int .i64 0) (by unfold execOp;rfl) hK rfl) ?_
  exact TwAll.nil
 intro vals hv
 have e3:vals 3=.slice Ao on oc:=hv 9 3 rfl
 have e4:vals 4=.int .i64 0:=hv 10 4 rfl
 clear hv
 simp only[List.map_cons,List.map_nil,putL,Act.put,List.setIfInBounds_toArray,List.set_cons_zero,List.set_cons_succ,e3,e4]
 clear e3 e4
 go_wp2
 refine bodyPost_ret (cell_prs3 rfl _ _ h YP HYS.out rfl HY7.out) rfl ?_
 exact HEND.out
end Go.Proofs.YtokpcpjnihinfaaGreat
namespace Go.Proofs.YtokpcpjnihinfaaGreat
open Go.RowKit Go.ChangeShapes Go.WideShapes Go.ChangeAt Go.Joins
theorem gather_any(w:World)(B g:Nat)(p:Prs)(out:List Nat)(Ah:Option Addr)(hc:Nat)(Aw:Option Addr)(wc:Nat)(Ap:Option Addr)(pc:Nat)(Ao:Option Addr)(oc:Nat)(U:Und w B g p out Ah hc Aw wc Ap pc Ao oc)(K:Nat)(hk:p.k=(K:Int))(hK:K≤16000000)(hpn:K/8≤p.pen.length)(hol:out.length≤100000000):
  Calls Tryz.prog 48 #[.pointer (some ⟨g,0,none⟩)] w fun e w'=>e=.returned (.tuple #[])∧(∃Ap' pc' Ao' oc',Und w' B g {p with pen:=p.pen.drop (K/8),k:=((K%8:Nat):Int)} (out++p.pen.take (K/8)) Ah hc Aw wc Ap' pc' Ao' oc')∧Below B w w':=by
 obtain⟨hn,hhn⟩:∃x,x=p.hist.length:=⟨_,rfl⟩
 obtain⟨wn,hwn⟩:∃x,x=p.wait.length:=⟨_,rfl⟩
 obtain⟨pn,hpnn⟩:∃x,x=p.pen.length:=⟨_,rfl⟩
 obtain⟨on,hon⟩:∃x,x=out.length:=⟨_,rfl⟩
 obtain⟨D,hD⟩:∃D,D=K/8:=⟨_,rfl⟩
 obtain⟨R,hR⟩:∃R,R=K%8:=⟨_,rfl⟩
 have hD1:D≤pn:=by omega
 have hpc:=U.pen.2.2.1
 rw[←hpnn]at hpc
 have hpi:(D:Int)≤(pc:Int):=by omega
 have hli:D≤pc:=by omega
 have hBl:B≤w.heap.size:=by have:=U.le;have:=U.lt;omega
 have eX:pgA p Ah hc Aw wc Ap pc Ao out.length oc=#[.int .i64 p.s,.int .i64 p.h,.int .i64 p.m,.bool p.z,.slice Ah hn hc,.slice Aw wn wc,.slice Ap pn pc,.int .i64 (K:Int),.bool p.over,.slice Ao on oc]:=by
  unfold pgA;rw[←hhn,←hwn,←hpnn,hk,←hon]
 have hx:=U.box
 rw[eX]at hx
 have c6:w.cell? ⟨g,6,none⟩=some (.slice Ap pn pc):=hx.cell.trans rfl
 have c7:w.cell? ⟨g,7,none⟩=some (.int .i64 (K:Int)):=hx.cell.trans rfl
 have c9:w.cell? ⟨g,9,none⟩=some (.slice Ao on oc):=hx.cell.trans rfl
 have bp:=bytes_of U.pen
 have hlT:(out++p.pen.take D).length=on+D:=by rw[List.length_append,List.length_take,←hon,←hpnn,Nat.min_eq_left hD1]
 have hrd:ByR w w.heap.size Ap D pc (lst (p.pen.take D)):=by
  refine⟨⟨fun j=>lst_lt (take_mem bp D) j,fun h0=>?_⟩,U.pen.2.1,by omega,U.pen.2.2.2⟩
  obtain⟨b,o,e1,e2,e3⟩:=U.pen.1.2 (by omega)
  exact⟨b,o,e1,e2,fun j hj=>by rw[lst_take p.pen hj];exact e3 j (by omega)⟩
 have hown:=U.own
 rw[←hon]at hown
 obtain⟨A',c',w1,hrun,ho1,hb1,hk1,hw1⟩:=run_catB_s w.drew B Ao on oc (lst out) hown Ap D pc (lst (p.pen.take D)) (lst (out++p.pen.take D)) hrd
  (fun j hj=>by rw[lst_app];unfold cat;rw[if_pos (by omega)]) (fun j hj=>by rw[lst_app];unfold cat;rw[if_neg (by omega),hon,Nat.add_sub_cancel_left]) (by omega) hBl
 have hb1:Below B w w1:=⟨hb1.os,hb1.tape,hb1.output,hb1.size,hb1.block⟩
 have hg1:BoxC w1 g #[.int .i64 p.s,.int .i64 p.h,.int .i64 p.m,.bool p.z,.slice Ah hn hc,.slice Aw wn wc,.slice Ap pn pc,.int .i64 (K:Int),.bool p.over,.slice Ao on oc] 62:=(hk1 g U.lt (by have:=U.ne;rwa[←hon]at this)).trans hx
 have f9:w1.frozen? ⟨g,9,none⟩=false:=hg1.free
 have d9:w1.cell? ⟨g,9,none⟩=some (.slice Ao on oc):=hg1.cell.trans rfl
 have U1:Und (w1.setCell ⟨g,9,none⟩ (.slice A' (on+D) c')) B g p (out++p.pen.take D) Ah hc Aw wc Ap pc A' c':=by
  have:=U.grown (w':=w1) (Ao':=A') (oc':=c') (more:=p.pen.take D) (take_mem bp D) (by rw[hlT];exact ho1) hb1.size (by rw[←hon];exact hk1) (by rw[hlT,←hon];exact hw1)
  rwa[hlT]at this
 obtain⟨W2,hW2⟩:∃W,W=w1.setCell ⟨g,9,none⟩ (.slice A' (on+D) c'):=⟨_,rfl⟩
 rw[←hW2]at U1
 have hb2:Below B w W2:=by rw[hW2];exact below_cell hb1 U.le _ _
 have hx2:=U1.box
 have eX2:pgA p Ah hc Aw wc Ap pc A' (out++p.pen.take D).length c'=#[.int .i64 p.s,.int .i64 p.h,.int .i64 p.m,.bool p.z,.slice Ah hn hc,.slice Aw wn wc,.slice Ap pn pc,.int .i64 (K:Int),.bool p.over,.slice A' (on+D) c']:=by
  unfold pgA;rw[←hhn,←hwn,←hpnn,hk,hlT]
 rw[eX2]at hx2
 obtain⟨A5,hA5⟩:∃A5,(if pc=D then Ap else Ap.map (·.add D))=A5:=⟨_,rfl⟩
 have RF:Hid (∀V,(Instr.sliceAt 22 (.slice Ap pn pc) (some (.int .i64 (D:Int))) none none).run Tryz.prog V=.ok (.slice A5 (pn-D) (pc-D)) V):=Lib.hid fun V=>run_from Ap A5 pn pc D hD1 hA5 V
 have REM:Hid (∀(V:World),(binOp .rem 3 (.int .i64 (K:Int)) (.int .i64 8)).run Tryz.prog V=.ok (.int .i64 (R:Int)) V):=Lib.hid fun V=>by rw[hR];exact rem_nat Tryz.prog 3 .i64 K 8 (by omega) V
 have r3:ByR W2 W2.heap.size A5 (pn-D) (pc-D) (lst (p.pen.drop D)):=by
  have:=U1.pen
  rw[←hpnn]at this
  exact this.from hD1 hA5
 have n3:NoIn A5 (pn-D) (.slice A' (on+D) c'):=by
  have:=U1.np
  rw[←hpnn,hlT]at this
  exact this.from hD1 hA5 (by have:=U1.pen;rw[←hpnn]at this;exact this.at)
 have UF:Hid (∀V,Below W2.heap.size W2 V→Und ((V.setCell ⟨g,6,none⟩ (.slice A5 (pn-D) (pc-D))).setCell ⟨g,7,none⟩ (.int .i64 (R:Int))) B g {p with pen:=p.pen.drop D,k:=(R:Int)} (out++p.pen.take D) Ah hc Aw wc A5 (pc-D) A' c'∧Below B w ((V.setCell ⟨g,6,none⟩ (.slice A5 (pn-D) (pc-D))).setCell ⟨g,7,none⟩ (.int .i64 (R:Int)))):=Lib.hid fun V hV=>by
  have UV:=U1.below hV
  have hld:(p.pen.drop D).length=pn-D:=by rw[List.length_drop,←hpnn]
  refine⟨UV.set2 (p':={p with pen:=p.pen.drop D,k:=(R:Int)}) 6 7 _ _ (by unfold pgA;simp only[hld];rfl) UV.row UV.wait (by show ByR V _ A5 (p.pen.drop D).length _ _;rw[hld];exact(r3.below hV (Nat.le_refl _)).more hV.size) UV.nr UV.nw (by show NoIn A5 (p.pen.drop D).length _;rw[hld,hlT];exact n3),below_cell (below_cell (hb2.trans (hV.mono (by have:=U.le;have:=U1.lt;omega))) U.le _ _) U.le _ _⟩
 have hgW:Hid (BoxC W2 g #[.int .i64 p.s,.int .i64 p.h,.int .i64 p.m,.bool p.z,.slice Ah hn hc,.slice Aw wn wc,.slice Ap pn pc,.int .i64 (K:Int),.bool p.over,.slice A' (on+D) c'] 62):=Lib.hid hx2
 have HRUN:=Lib.hid hrun;have HW2:=Lib.hid hW2;have HR:=Lib.hid hR;have HDD:=Lib.hid hD
 have e8:(K:Int)/8=(D:Int):=by omega
 have e8':IntKind.i64.wrap ((K:Int)/8)=(D:Int):=by rw[e8];exact wrap_i64 D (by omega)
 have e64:wrap64 (D:Int)=(D:Int):=by unfold wrap64;omega
 rw[←hD,←hR]
 clear U U1 hk hK hpn hol hhn hwn hpnn hon hD hR hpc hBl eX hx bp hlT hrd hown ho1 hb1 hk1 hw1 hg1 hW2 hb2 hx2 eX2 hA5 r3 n3 hrun e8
 go_enter Tryz.func48,Tryz.ntmps48
 go_wp2
 go_region_law ((refine step_app rfl (.tmp 14) (.tmp 22) 22 22 rfl (.slice Ao on oc) (.slice Ap D pc) rfl rfl (.slice A' (on+D) c') w1 HRUN.out ?_))
 all_goals(
  rw[←HW2.out]
  go_wp2_with fail
  refine wp_region_tabs 20 (tabT [fun v _=>v=.pointer (some ⟨g,0,none⟩),fun v _=>v=.pointer (some ⟨g,0,none⟩),fun v _=>v=.pointer (some ⟨g,0,none⟩),fun v _=>v=.pointer (some ⟨g,0,none⟩),fun v _=>v=.pointer (some ⟨g,6,none⟩),fun v _=>v=.pointer (some ⟨g,6,none⟩),fun v _=>v=.slice Ap pn pc,fun v _=>v=.int .i64 (D:Int),fun v _=>v=.slice A5 (pn-D) (pc-D),fun v _=>v=.pointer (some ⟨g,0,none⟩),fun v _=>v=.pointer (some ⟨g,0,none⟩),fun v _=>v=.pointer (some ⟨g,0,none⟩),fun v _=>v=.pointer (some ⟨g,6,none⟩),fun v _=>v=.pointer (some ⟨g,7,none⟩),fun v _=>v=.int .i64 (K:Int),fun v _=>v=.int .i64 (R:Int),fun v _=>v=.agg #[.slice A5 (pn-D) (pc-D),.int .i64 (R:Int)],fun v _=>v=.pointer (some ⟨g,0,none⟩),fun v _=>v=.pointer (some ⟨g,0,none⟩),fun v _=>v=.pointer (some ⟨g,6,none⟩)]) W2 (Below.refl _ _) (by kernel_rfl) (by kernel_rfl) ?_ ?_
  case refine_1=>
   simp only[List.take_succ_cons,List.take_zero]
   refine TabAll.cons (fun aa wv hb ha hS Kk Qq hK=>tab_move (tab_free rfl) _ rfl (up_eq ((ha 0 (by kernel_rfl)).trans rfl)) hK) ?_
   refine TabAll.cons (fun aa wv hb ha hS Kk Qq hK=>tab_move (tab_free rfl) _ rfl (up_eq ((ha 0 (by kernel_rfl)).trans rfl)) hK) ?_
   refine TabAll.cons (fun aa wv hb ha hS Kk Qq hK=>tab_nil (tab_free rfl) _ rfl _ (show aa.eval (.tmp 27)=.pointer (some ⟨g,0,none⟩)from(hS 1 27 (by kernel_rfl) rfl).here) (up_eq rfl) hK) ?_
   refine TabAll.cons (fun aa wv hb ha hS Kk Qq hK=>tab_field (tab_free rfl) _ _ _ rfl _ (.pointer (some ⟨g,0,none⟩)) (show aa.eval (.tmp 28)=.pointer (some ⟨g,0,none⟩)from(hS 2 28 (by kernel_rfl) rfl).here) (by go_simp) (up_eq rfl) hK) ?_
   refine TabAll.cons (fun aa wv hb ha hS Kk Qq hK=>tab_field (tab_free rfl) _ _ _ rfl _ (.pointer (some ⟨g,6,none⟩)) (show aa.eval (.tmp 29)=.pointer (some ⟨g,0,none⟩)from(hS 3 29 (by kernel_rfl) rfl).here) (by go_simp) (up_eq rfl) hK) ?_
   refine TabAll.cons (fun aa wv hb ha hS Kk Qq hK=>tab_field (tab_free rfl) _ _ _ rfl _ (.pointer (some ⟨g,6,none⟩)) (show aa.eval (.tmp 30)=.pointer (some ⟨g,6,none⟩)from(hS 4 30 (by kernel_rfl) rfl).here) (by go_simp) (up_eq rfl) hK) ?_
   refine TabAll.cons (fun aa wv hb ha hS Kk Qq hK=>tab_load (tab_free rfl) _ _ rfl _ (.slice Ap pn pc) (show aa.eval (.tmp 31)=.pointer (some ⟨g,6,none⟩)from(hS 5 31 (by kernel_rfl) rfl).here) (by have hc:wv.cell? ⟨g,6,none⟩=some (.slice Ap pn pc):=(hgW.out.below hb hgW.out.lt).cell.trans rfl;go_simp) (up_eq rfl) hK) ?_
   refine TabAll.cons (fun aa wv hb ha hS Kk Qq hK=>tab_move (tab_free rfl) _ rfl (up_eq ((ha 2 (by kernel_rfl)).trans rfl)) hK) ?_
   refine TabAll.cons (fun aa wv hb ha hS Kk Qq hK=>tab_slice (tab_free rfl) _ _ _ _ _ rfl (.slice Ap pn pc) (.slice A5 (pn-D) (pc-D)) (some (.int .i64 (D:Int))) none none (show aa.eval (.tmp 32)=.slice Ap pn pc from(hS 6 32 (by kernel_rfl) rfl).here) (congrArg some (show aa.eval (.tmp 33)=.int .i64 (D:Int)from(hS 7 33 (by kernel_rfl) rfl).here)) rfl rfl (RF.out wv) (up_eq rfl) hK) ?_
   refine TabAll.cons (fun aa wv hb ha hS Kk Qq hK=>tab_move (tab_free rfl) _ rfl (up_eq ((ha 0 (by kernel_rfl)).trans rfl)) hK) ?_
   refine TabAll.cons (fun aa wv hb ha hS Kk Qq hK=>tab_nil (tab_free rfl) _ rfl _ (show aa.eval (.tmp 35)=.pointer (some ⟨g,0,none⟩)from(hS 9 35 (by kernel_rfl) rfl).here) (up_eq rfl) hK) ?_
   refine TabAll.cons (fun aa wv hb ha hS Kk Qq hK=>tab_field (tab_free rfl) _ _ _ rfl _ (.pointer (some ⟨g,0,none⟩)) (show aa.eval (.tmp 36)=.pointer (some ⟨g,0,none⟩)from(hS 10 36 (by kernel_rfl) rfl).here) (by go_simp) (up_eq rfl) hK) ?_
   refine TabAll.cons (fun aa wv hb ha hS Kk Qq hK=>tab_field (tab_free rfl) _ _ _ rfl _ (.pointer (some ⟨g,6,none⟩)) (show aa.eval (.tmp 37)=.pointer (some ⟨g,0,none⟩)from(hS 11 37 (by kernel_rfl) rfl).here) (by go_simp) (up_eq rfl) hK) ?_
   refine TabAll.cons (fun aa wv hb ha hS Kk Qq hK=>tab_field (tab_free rfl) _ _ _ rfl _ (.pointer (some ⟨g,7,none⟩)) (show aa.eval (.tmp 38)=.pointer (some ⟨g,6,none⟩)from(hS 12 38 (by kernel_rfl) rfl).here) (by go_simp) (up_eq rfl) hK) ?_
   refine TabAll.cons (fun aa wv hb ha hS Kk Qq hK=>tab_load (tab_free rfl) _ _ rfl _ (.int .i64 (K:Int)) (show aa.eval (.tmp 39)=.pointer (some ⟨g,7,none⟩)from(hS 13 39 (by kernel_rfl) rfl).here) (by have hc:wv.cell? ⟨g,7,none⟩=some (.int .i64 (K:Int)):=(hgW.out.below hb hgW.out.lt).cell.trans rfl;go_simp) (up_eq rfl) hK) ?_
   refine TabAll.cons (fun aa wv hb ha hS Kk Qq hK=>tab_bin (tab_free rfl) _ _ _ _ _ rfl _ _ (.int .i64 (R:Int)) (show aa.eval (.tmp 40)=.int .i64 (K:Int)from(hS 14 40 (by kernel_rfl) rfl).here) rfl (eqg_no _ _ _ _ _ _ _ (by decide) (by decide) _) (REM.out wv) (up_eq rfl) hK) ?_
   refine TabAll.cons (fun aa wv hb ha hS Kk Qq hK=>by have e34:=(show aa.eval (.tmp 34)=.slice A5 (pn-D) (pc-D)from(hS 8 34 (by kernel_rfl) rfl).here);have e41:=(show aa.eval (.tmp 41)=.int .i64 (R:Int)from(hS 15 41 (by kernel_rfl) rfl).here);exact tab_build (tab_free rfl) _ #[(0,.tmp 34),(1,.tmp 41)] rfl #[.slice A5 (pn-D) (pc-D),.int .i64 (R:Int)] (by simpa[e34,e41]using built_pen2 A5 (pn-D) (pc-D) (R:Int)) (up_eq rfl) hK) ?_
   refine TabAll.cons (fun aa wv hb ha hS Kk Qq hK=>tab_nil (tab_free rfl) _ rfl _ (show aa.eval (.tmp 26)=.pointer (some ⟨g,0,none⟩)from(hS 0 26 (by kernel_rfl) rfl).here) (up_eq rfl) hK) ?_
   refine TabAll.cons (fun aa wv hb ha hS Kk Qq hK=>tab_field (tab_free rfl) _ _ _ rfl _ (.pointer (some ⟨g,0,none⟩)) (show aa.eval (.tmp 43)=.pointer (some ⟨g,0,none⟩)from(hS 17 43 (by kernel_rfl) rfl).here) (by go_simp) (up_eq rfl) hK) ?_
   refine TabAll.cons (fun aa wv hb ha hS Kk Qq hK=>tab_field (tab_free rfl) _ _ _ rfl _ (.pointer (some ⟨g,6,none⟩)) (show aa.eval (.tmp 44)=.pointer (some ⟨g,0,none⟩)from(hS 18 44 (by kernel_rfl) rfl).here) (by go_simp) (up_eq rfl) hK) ?_
   exact TabAll.nil
  intro vals w5 hb hv
  have e42:vals 42=.agg #[.slice A5 (pn-D) (pc-D),.int .i64 (R:Int)]:=(hv 16 42 rfl).here
  have e45:vals 45=.pointer (some ⟨g,6,none⟩):=(hv 19 45 rfl).here
  have x5:=hgW.out.below hb hgW.out.lt
  have s6:w5.cell? ⟨g,6,none⟩=some (.slice Ap pn pc):=x5.cell.trans rfl
  have s7:w5.cell? ⟨g,7,none⟩=some (.int .i64 (K:Int)):=x5.cell.trans rfl
  have f6:w5.frozen? ⟨g,6,none⟩=false:=x5.free
  have f7:w5.frozen? ⟨g,7,none⟩=false:=x5.free
  obtain⟨W6,hW6⟩:∃W,W=(w5.setCell ⟨g,6,none⟩ (.slice A5 (pn-D) (pc-D))).setCell ⟨g,7,none⟩ (.int .i64 (R:Int)):=⟨_,rfl⟩
  have HF:=Lib.hid (hW6▸UF.out w5 hb)
  have HW6:=Lib.hid hW6
  clear x5 hb hv hW6
  simp only[List.take_succ_cons,List.take_zero,List.drop_succ_cons,List.drop_zero,List.map_cons,List.map_nil,putL,Act.put,List.setIfInBounds_toArray,List.set_cons_zero,List.set_cons_succ,e42,e45]
  clear e42 e45
  go_wp2_with (rw[←HW6.out])
  go_end0
  exact⟨rfl,⟨A5,pc-D,A',c',HF.out.1⟩,HF.out.2⟩)
end Go.Proofs.YtokpcpjnihinfaaGreat
namespace Go.Proofs.YtokpcpjnihinfaaGreat
open Go.RowKit Go.ChangeShapes Go.WideShapes Go.ChangeAt Go.Joins
theorem built_here(d k:Int):Tryz.prog.built 127 [(1,.int .i64 d),(2,.int .i64 k)]=some #[.int .u8 0,.int .i64 d,.int .i64 k]:=by kernel_rfl
theorem built_lit(x:Int):Tryz.prog.built 127 [(0,.int .u8 x)]=some #[.int .u8 x,.int .i64 0,.int .i64 0]:=by kernel_rfl
theorem sztok:(Tryz.prog.info? 127).map (·.size)=some 3:=by kernel_rfl
theorem sztokA(a b c:Value):(Tryz.prog.info? 127).map (·.size)=some (#[a,b,c]:Array Value).size:=sztok
theorem one3t(x:Int)(d k:Int):(#[.int .u8 x,.int .i64 d,.int .i64 k]:Array Value).all (·.oneCell')=true:=by simp[Value.oneCell']
theorem cell_tok{fn:Func}{p:Tmp}(h:fn.results=#[.cell p 127])(tmps:Array Value)(w:World)(g:Nat)(cs:Array Value)(hs:cs.size=3)(hp:tmps.getD p undef=.pointer (some ⟨g,0,none⟩))(ht:w.heap[g]?=some (.cells cs 127 (0,0))):
  (results fn tmps).run Tryz.prog w=.ok (.agg cs) w:=by
 have hp':tmps[p]?.getD undef=.pointer (some ⟨g,0,none⟩):=by simpa using hp
 have hl:=run_loadVar_row (P:=Tryz.prog) w g 127 127 cs (0,0) _ ht Tryz.underlying127 rfl (by rw[hs];exact sztok)
 simp[results,h,hp',asAddr,hl]
theorem best8_any(w:World)(A:Option Addr)(n c:Nat)(f:Nat→Nat)(a z ch:Nat)(m:Int)(lz:Bool)(hr:ByR w w.heap.size A n c f)(ha:a≤n)(hn:n≤131072)(hz1:1≤z)(hz:z≤32768)(hch:ch≤256):
  Calls Tryz.prog 129 #[.slice A n c,.int .i64 (a:Int),.agg #[.int .i64 (z:Int),.int .i64 (ch:Int),.int .i64 m,.bool lz]] w fun e w'=>
   e=.returned (.agg #[.int .u8 0,.int .i64 ((bstN f n a z a ch 0 0).1:Nat),.int .i64 ((bstN f n a z a ch 0 0).2:Nat)])∧Below w.heap.size w w':=by
 obtain⟨T,hT⟩:∃T,T=bstN f n a z a ch 0 0:=⟨_,rfl⟩
 have eT:finT f n a z ch=T:=by
  unfold finT;rw[if_pos ⟨by omega,by omega,by omega,by omega,by omega,by omega,by omega⟩,Int.toNat_natCast,Int.toNat_natCast,Int.toNat_natCast,hT]
 rw[←hT]
 obtain⟨d,k⟩:=T
 clear hT
 obtain⟨h,hh⟩:∃h,h=w.heap.size:=⟨_,rfl⟩
 obtain⟨W1,hW1⟩:∃W1,W1=(w.alloc (.cells #[.int .i64 (z:Int),.int .i64 (ch:Int),.int .i64 m,.bool lz] 27)).alloc (.cells #[.int .u8 0,.int .i64 0,.int .i64 0] 127):=⟨_,rfl⟩
 have hb1:Below h w W1:=by rw[hW1,hh];exact((Below.refl _ _).alloc (Nat.le_refl _) _).alloc (by simp) _
 have hs1:W1.heap.size=h+2:=by rw[hW1,hh];simp
 have hbx:W1.heap[h]?=some (.cells #[.int .i64 (z:Int),.int .i64 (ch:Int),.int .i64 m,.bool lz] 27 (0,0)):=by
  rw[hW1,hh];exact(Below.heap_alloc _ _ _ (by simp)).trans (heap_alloc_new w _)
 have hby:W1.heap[h+1]?=some (.cells #[.int .u8 0,.int .i64 0,.int .i64 0] 127 (0,0)):=by
  have:=heap_alloc_new (w.alloc (.cells #[.int .i64 (z:Int),.int .i64 (ch:Int),.int .i64 m,.bool lz] 27)) (.cells #[.int .u8 0,.int .i64 0,.int .i64 0] 127)
  rw[World.size_alloc,←hW1,←hh]at this;exact this
 have x0:W1.cell? ⟨h,0,none⟩=some (.int .i64 (z:Int)):=(cell_of_row W1 _ 0 _ _ (0,0) hbx).trans rfl
 have x1:W1.cell? ⟨h,1,none⟩=some (.int .i64 (ch:Int)):=(cell_of_row W1 _ 1 _ _ (0,0) hbx).trans rfl
 have hf:=find7_any W1 A n c f a z ch ((hr.below (hh▸hb1) (by omega)).more (by omega))
 rw[eT]at hf
 obtain⟨E,hE⟩:∃E,E=finE f n a z ch:=⟨_,rfl⟩
 rw[←hE]at hf
 have HF:=Lib.hid hf;have HB1:=Lib.hid hb1;have HS1:=Lib.hid hs1;have HBY:=Lib.hid hby;have HW1:=Lib.hid hW1;have HH:=Lib.hid hh
 clear hf hb1 hs1 hby hbx hW1 hE eT hr hh
 go_enter Tryz.func129,Tryz.ntmps129
 go_wp2_with fail
 rw[←HW1.out,←HH.out]
 refine HF.out.mono ?_
 rintro e w2 ⟨rfl,hb2⟩
 have hy2:=(hb2.block (h+1) (by have:=HS1.out;omega)).trans HBY.out
 have HB2:=Lib.hid (HB1.out.trans (hb2.mono (by have:=HS1.out;omega)))
 have HY2:=Lib.hid hy2
 clear hb2 hy2 x0 x1
 go_wp2_with (first
  |(refine wpList_buildTo rfl 127 #[(1,.tmp 21),(2,.tmp 22)] rfl (some 23) rfl #[.int .u8 0,.int .i64 (d:Int),.int .i64 (k:Int)] ?_ ?_;focus(simpa[Act.eval]using built_here (d:Int) (k:Int)))
  |(refine wpList_store_rowTo rfl _ _ _ rfl rfl (h+1) #[.int .u8 0,.int .i64 (d:Int),.int .i64 (k:Int)] rfl rfl 127 #[.int .u8 0,.int .i64 0,.int .i64 0] HY2.out (sztokA _ _ _) rfl (one3t _ _ _) ?_))
 refine bodyPost_ret (cell_tok rfl _ _ (h+1) _ rfl rfl (setRow_heap _ _ _ _ _ _ HY2.out)) rfl ⟨rfl,?_⟩
 rw[←HH.out]
 exact below_row8 HB2.out (by omega) _
def fstT(f:Nat→Nat)(n z ch:Nat)(lz:Bool)(a:Nat):Tok:=
 if(bstN f n a z a ch 0 0).2=0∨(bstN f n a z a ch 0 0).2<latN f n z ch lz a then⟨f a,0,0⟩else⟨0,((bstN f n a z a ch 0 0).1:Nat),((bstN f n a z a ch 0 0).2:Nat)⟩
theorem run_field2(x d n:Int)(w:World):(Instr.field 127 (.agg #[.int .u8 x,.int .i64 d,.int .i64 n]) 2).run Tryz.prog w=.ok (.int .i64 n) w:=by
 have hi:(Tryz.prog.info? 3).map (·.size)=some 1:=by kernel_rfl
 unfold Instr.field
 simp[go_sem,asAgg]
theorem quiet_field{P:Program}{C:World→Prop}{K:Act→Prop}{a:Act}{o:Oper}(ty:TypeId)(x:Operand)(i:Nat)(ho:o.op=.field ty x i)(v u:Value)(hx:a.eval x=v)
  (hrun:∀w,(Instr.field ty v i).run P w=.ok u w) (hk:K (a.put o.dst u)):o.quiet P a C K:=
 ⟨_,fun w hw=>by
  unfold Oper.quietAt execOp
  simp only[ho,hx,Sem.run_bind,hrun,Result.andThen_ok]
  exact⟨rfl,rfl⟩,hk⟩
theorem sztokC(a b c:Value):(Tryz.prog.info? 127).map (·.size)=some ([a,b,c]:List Value).length:=sztok
theorem szStyleC'(a b c d:Value):(Tryz.prog.info? 27).map (·.size)=some ([a,b,c,d]:List Value).length:=szStyle
theorem first8_any(w:World)(A:Option Addr)(n c:Nat)(f:Nat→Nat)(a z ch:Nat)(m:Int)(lz:Bool)(hr:ByR w w.heap.size A n c f)(ha:a<n)(hn:n≤131072)(hz1:1≤z)(hz:z≤32768)(hch:ch≤256):
  Calls Tryz.prog 103 #[.slice A n c,.int .i64 (a:Int),.agg #[.int .i64 (z:Int),.int .i64 (ch:Int),.int .i64 m,.bool lz]] w fun e w'=>
   e=.returned (.agg #[.int .u8 ((fstT f n z ch lz a).x:Int),.int .i64 (fstT f n z ch lz a).d,.int .i64 (fstT f n z ch lz a).n])∧Below w.heap.size w w':=by
 obtain⟨R,hR⟩:∃R,R=fstT f n z ch lz a:=⟨_,rfl⟩
 rw[←hR]
 unfold fstT at hR
 obtain⟨T,hT⟩:∃T,T=bstN f n a z a ch 0 0:=⟨_,rfl⟩
 rw[←hT]at hR
 obtain⟨a1,ha1⟩:∃a1,a1=a+1:=⟨_,rfl⟩
 obtain⟨T2,hT2⟩:∃T2,T2=bstN f n a1 z a1 ch 0 0:=⟨_,rfl⟩
 have hlat:latN f n z ch lz a=if lz=true then T2.2 else 0:=by
  unfold latN
  rw[←ha1]
  cases lz with
  |false=>rfl
  |true=>
   rw[if_pos rfl]
   by_cases h:a1<n
   ·rw[if_pos ⟨rfl,h⟩,hT2]
   ·rw[if_neg (fun q=>h q.2),hT2]
    obtain rfl:a1=n:=by omega
    by_cases h2:(bstN f a1 a1 z a1 ch 0 0).2=0
    ·exact h2.symm
    ·obtain⟨b1,b2,b3,b4,b5,b6⟩:=bst_is h2
     have:=(b6 0 (by omega)).1
     omega
 rw[hlat]at hR
 have hz0:T.2=0→T.1=0:=fun h0=>by
  rw[hT]at h0⊢
  rcases bstN_found (f:=f) (L:=n) (a:=a) (size:=z) a ch 0 0 (Nat.le_refl _) (.inl ⟨rfl,rfl⟩)with⟨h1,h2⟩|⟨_,_,_,h3,_⟩
  ·exact h1
  ·omega
 have hbe:=best8_any
 have hB1:∀V,ByR V V.heap.size A n c f→Calls Tryz.prog 129 #[.slice A n c,.int .i64 (a:Int),.agg #[.int .i64 (z:Int),.int .i64 (ch:Int),.int .i64 m,.bool lz]] V fun e w'=>
   e=.returned (.agg #[.int .u8 0,.int .i64 (T.1:Nat),.int .i64 (T.2:Nat)])∧Below V.heap.size V w':=fun V hV=>by
  rw[hT];exact best8_any V A n c f a z ch m lz hV (by omega) hn hz1 hz hch
 have hB2:∀V,ByR V V.heap.size A n c f→Calls Tryz.prog 129 #[.slice A n c,.int .i64 (a1:Int),.agg #[.int .i64 (z:Int),.int .i64 (ch:Int),.int .i64 m,.bool lz]] V fun e w'=>
   e=.returned (.agg #[.int .u8 0,.int .i64 (T2.1:Nat),.int .i64 (T2.2:Nat)])∧Below V.heap.size V w':=fun V hV=>by
  rw[hT2];exact best8_any V A n c f a1 z ch m lz hV (by omega) hn hz1 hz hch
 obtain⟨d,k⟩:=T
 obtain⟨d2,k2⟩:=T2
 clear hT hT2 hlat hbe
 dsimp only at hR hz0 hB1 hB2
 obtain⟨h,hh⟩:∃h,h=w.heap.size:=⟨_,rfl⟩
 obtain⟨W1,hW1⟩:∃W1,W1=(w.alloc (.cells #[.int .i64 (z:Int),.int .i64 (ch:Int),.int .i64 m,.bool lz] 27)).alloc (.cells #[.int .u8 0,.int .i64 0,.int .i64 0] 127):=⟨_,rfl⟩
 have hb1:Below h w W1:=by rw[hW1,hh];exact((Below.refl _ _).alloc (Nat.le_refl _) _).alloc (by simp) _
 have hs1:W1.heap.size=h+2:=by rw[hW1,hh];simp
 have hbx:W1.heap[h]?=some (.cells #[.int .i64 (z:Int),.int .i64 (ch:Int),.int .i64 m,.bool lz] 27 (0,0)):=by
  rw[hW1,hh];exact(Below.heap_alloc _ _ _ (by simp)).trans (heap_alloc_new w _)
 have hby:W1.heap[h+1]?=some (.cells #[.int .u8 0,.int .i64 0,.int .i64 0] 127 (0,0)):=by
  have:=heap_alloc_new (w.alloc (.cells #[.int .i64 (z:Int),.int .i64 (ch:Int),.int .i64 m,.bool lz] 27)) (.cells #[.int .u8 0,.int .i64 0,.int .i64 0] 127)
  rw[World.size_alloc,←hW1,←hh]at this;exact this
 have hf:=hB1 W1 ((hr.below (hh▸hb1) (by omega)).more (by omega))
 rw[←hh]at hr
 have HR:=Lib.hid hr.1;have HRR:=Lib.hid hr;have HRES:=Lib.hid hR;have HC2:=Lib.hid hB2;have HZ0:=Lib.hid hz0
 have HF:=Lib.hid hf;have HB1:=Lib.hid hb1;have HS1:=Lib.hid hs1;have HBX:=Lib.hid hbx;have HBY:=Lib.hid hby;have HW1:=Lib.hid hW1;have HH:=Lib.hid hh
 have hwr:IntKind.i64.wrap ((a:Int)+1)=(a1:Int):=by rw[ha1,IntKind.wrap_i64];omega
 have HWR:=Lib.hid hwr
 clear hf hb1 hs1 hby hbx hW1 hr hh hR hB1 hB2 hz0 ha1 hwr
 go_enter Tryz.func103,Tryz.ntmps103
 go_wp2_with (refine wpList_load_row rfl _ _ rfl h rfl _ #[.int .i64 (z:Int),.int .i64 (ch:Int),.int .i64 m,.bool lz] (0,0) _ HBX.out Tryz.underlying27 rfl szStyle ?_)
 rw[←HW1.out,←HH.out]
 refine HF.out.mono ?_
 rintro e w2 ⟨rfl,hb2⟩
 obtain⟨g,hg⟩:∃g,g=w2.heap.size:=⟨_,rfl⟩
 obtain⟨W3,hW3⟩:∃W3,W3=mkV w2 #[.int .u8 0,.int .i64 0,.int .i64 0] #[.int .u8 0,.int .i64 (d:Int),.int .i64 (k:Int)] 127:=⟨_,rfl⟩
 have hb3:Below w2.heap.size w2 W3:=by rw[hW3];exact mkV_below _ _ _ _
 have hs3:W3.heap.size=g+1:=by rw[hW3,hg,mkV_size]
 have hgs:h+2≤g:=by have:=hb2.size;have:=HS1.out;omega
 have y5:=(hb3.block h (by omega)).trans ((hb2.block h (by have:=HS1.out;omega)).trans HBX.out)
 have y6:=(hb3.block (h+1) (by omega)).trans ((hb2.block (h+1) (by have:=HS1.out;omega)).trans HBY.out)
 have y7:W3.heap[g]?=some (.cells #[.int .u8 0,.int .i64 (d:Int),.int .i64 (k:Int)] 127 (0,0)):=by rw[hW3,hg];exact mkV_row w2 _ _ _
 have hb03:Below h w W3:=(HB1.out.trans (hb2.mono (by have:=HS1.out;omega))).trans (hb3.mono (by omega))
 have HB3:=Lib.hid hb03;have HS3:=Lib.hid hs3;have HY6:=Lib.hid y6;have HY7:=Lib.hid y7;have HG:=Lib.hid hg;have HW3:=Lib.hid hW3
 have S7:∀V,(∃p:After W3.heap.size W3,V=p.w)→V.rangeAt g 0 [.int .u8 0,.int .i64 (d:Int),.int .i64 (k:Int)]:=by
  rintro V ⟨⟨V,hV⟩,rfl⟩ i v hv
  rw[cell_of_row V g _ _ _ (0,0) ((hV.block g (by omega)).trans HY7.out),Nat.zero_add];simpa using hv
 have S5:∀V,(∃p:After W3.heap.size W3,V=p.w)→V.rangeAt h 0 [.int .i64 (z:Int),.int .i64 (ch:Int),.int .i64 m,.bool lz]:=by
  rintro V ⟨⟨V,hV⟩,rfl⟩ i v hv
  rw[cell_of_row V h _ _ _ (0,0) ((hV.block h (by omega)).trans y5),Nat.zero_add];simpa using hv
 have z3:∀p:After W3.heap.size W3,p.w.cell? ⟨h,3,none⟩=some (.bool lz):=by
  rintro⟨V,hV⟩
  exact(cell_of_row V h 3 _ _ (0,0) ((hV.block h (by omega)).trans y5)).trans rfl
 have z2:∀p:After W3.heap.size W3,p.w.cell? ⟨g,2,none⟩=some (.int .i64 (k:Int)):=by
  rintro⟨V,hV⟩
  exact(cell_of_row V g 2 _ _ (0,0) ((hV.block g (by omega)).trans HY7.out)).trans rfl
 have U1:∀V,Below W3.heap.size W3 V→Calls Tryz.prog 124 #[.agg #[.int .u8 0,.int .i64 (d:Int),.int .i64 (k:Int)]] V fun e V'=>e=.returned (.bool (cpyT ⟨0,(d:Int),(k:Int)⟩))∧Below W3.heap.size W3 V':=fun V hV=>
  (copies8_any V ⟨0,(d:Int),(k:Int)⟩).mono fun _ _ q=>⟨q.1,hV.trans (q.2.mono hV.size)⟩
 have U2:∀V,Below W3.heap.size W3 V→Calls Tryz.prog 129 #[.slice A n c,.int .i64 (a1:Int),.agg #[.int .i64 (z:Int),.int .i64 (ch:Int),.int .i64 m,.bool lz]] V fun e V'=>e=.returned (.agg #[.int .u8 0,.int .i64 (d2:Int),.int .i64 (k2:Int)])∧Below W3.heap.size W3 V':=fun V hV=>
  (HC2.out V ((HRR.out.below (hb03.trans (hV.mono (by omega))) (Nat.le_refl _)).more (by have:=hV.size;omega))).mono fun _ _ q=>⟨q.1,hV.trans (q.2.mono hV.size)⟩
 have R7:=Lib.hid S7;have R5:=Lib.hid S5;have T2:=Lib.hid U2;have T1:=Lib.hid U1
 clear S7 S5 U2 U1 hb3 hs3 y5 y6 y7 hb03 hg hW3 hb2 HF
 go_wp2_with (refine wpList_store_rowTo rfl _ _ _ rfl rfl w2.heap.size #[.int .u8 0,.int .i64 (d:Int),.int .i64 (k:Int)] rfl rfl 127 #[.int .u8 0,.int .i64 0,.int .i64 0] (heap_alloc_new w2 _) (sztokA _ _ _) rfl (one3t _ _ _) ?_;change wpList _ _ _ _ _ (mkV w2 #[.int .u8 0,.int .i64 0,.int .i64 0] #[.int .u8 0,.int .i64 (d:Int),.int .i64 (k:Int)] 127);rw[←HW3.out,←HG.out])
 have hwr:=HWR.out
 by_cases hk0:k=0
 ·have hcp:cpyT ⟨0,(d:Int),(k:Int)⟩=false:=by have:=HZ0.out hk0;simp[cpyT,hk0,this]
  rw[hcp]at T1
  obtain⟨u,hu⟩:∃u,u=f a:=⟨_,rfl⟩
  have HU:=Lib.hid hu
  have hres:R=⟨u,0,0⟩:=by rw[HRES.out,if_pos (.inl hk0),hu]
  clear hu
  subst hres
  clear hcp hk0
  refine wp_region_after W3.heap.size W3 (Below.refl _ _) (by kernel_rfl) (by kernel_rfl) ?_
  repeat (first
   |(go_big_quiet_want;with_reducible refine quiet_load_row _ _ rfl _ _ rfl _ _ R7.out Tryz.underlying127 rfl (sztokC _ _ _) ?_;go_big_quiet_on;simp only[Act.put,List.setIfInBounds_toArray,List.set_cons_zero,List.set_cons_succ])
   |(go_big_quiet_want;with_reducible refine quiet_load_row _ _ rfl _ _ rfl _ _ R5.out Tryz.underlying27 rfl (szStyleC' _ _ _ _) ?_;go_big_quiet_on;simp only[Act.put,List.setIfInBounds_toArray,List.set_cons_zero,List.set_cons_succ])
   |(go_big_quiet_want;with_reducible refine quiet_field _ _ _ rfl (.agg #[.int .u8 0,.int .i64 (d2:Int),.int .i64 (k2:Int)]) (.int .i64 (k2:Int)) rfl (fun w=>run_field2 0 (d2:Int) (k2:Int) w) ?_;go_big_quiet_on;simp only[Act.put,List.setIfInBounds_toArray,List.set_cons_zero,List.set_cons_succ])
   |(go_big_quiet_step (first|(with_reducible exact call_after T1.out _)|(with_reducible exact call_after T2.out _))))
  refine wpQuiet_nil ?_
  rintro V ⟨⟨V,hV⟩,rfl⟩
  have HV:=Lib.hid (HB3.out.trans (hV.mono (by have:=HS3.out;omega)))
  have y6:=(hV.block (h+1) (by have:=HS3.out;omega)).trans HY6.out
  have y7:=(hV.block g (by have:=HS3.out;omega)).trans HY7.out
  have HY6V:=Lib.hid y6;have HY7V:=Lib.hid y7
  have hrd:=HR.out.below HV.out (by omega)
  obtain⟨bb,o,rfl,_,hc⟩:=hrd.2 (by omega)
  have x9:=hc a ha
  rw[←HU.out]at x9
  clear hrd hc hV y6 y7
  go_wp2_with (first
   |(refine wpList_buildTo rfl 127 #[(0,.tmp 33)] rfl (some 34) rfl #[.int .u8 (u:Int),.int .i64 0,.int .i64 0] ?_ ?_;focus(simpa[Act.eval]using built_lit (u:Int)))
   |(refine wpList_store_rowTo rfl _ _ _ rfl rfl (h+1) #[.int .u8 (u:Int),.int .i64 0,.int .i64 0] rfl rfl 127 #[.int .u8 0,.int .i64 0,.int .i64 0] HY6V.out (sztokA _ _ _) rfl (one3t _ _ _) ?_))
  refine bodyPost_ret (cell_tok rfl _ _ (h+1) _ rfl rfl (setRow_heap _ _ _ _ _ _ HY6V.out)) rfl ⟨rfl,?_⟩
  rw[←HH.out]
  exact below_row8 HV.out (by omega) _
 ·have hcp:cpyT ⟨0,(d:Int),(k:Int)⟩=true:=by simp[cpyT];omega
  rw[hcp]at T1
  clear hcp
  cases lz with
  |false=>
   have hres:R=⟨0,(d:Int),(k:Int)⟩:=by rw[HRES.out,if_neg (by simp[hk0])]
   subst hres
   refine wp_region_after W3.heap.size W3 (Below.refl _ _) (by kernel_rfl) (by kernel_rfl) ?_
   repeat (first
    |(go_big_quiet_want;with_reducible refine quiet_load_row _ _ rfl _ _ rfl _ _ R7.out Tryz.underlying127 rfl (sztokC _ _ _) ?_;go_big_quiet_on;simp only[Act.put,List.setIfInBounds_toArray,List.set_cons_zero,List.set_cons_succ])
    |(go_big_quiet_want;with_reducible refine quiet_load_row _ _ rfl _ _ rfl _ _ R5.out Tryz.underlying27 rfl (szStyleC' _ _ _ _) ?_;go_big_quiet_on;simp only[Act.put,List.setIfInBounds_toArray,List.set_cons_zero,List.set_cons_succ])
    |(go_big_quiet_want;with_reducible refine quiet_field _ _ _ rfl (.agg #[.int .u8 0,.int .i64 (d2:Int),.int .i64 (k2:Int)]) (.int .i64 (k2:Int)) rfl (fun w=>run_field2 0 (d2:Int) (k2:Int) w) ?_;go_big_quiet_on;simp only[Act.put,List.setIfInBounds_toArray,List.set_cons_zero,List.set_cons_succ])
    |(go_big_quiet_step (first|(with_reducible exact call_after T1.out _)|(with_reducible exact call_after T2.out _))))
   refine wpQuiet_nil ?_
   rintro V ⟨⟨V,hV⟩,rfl⟩
   have HV:=Lib.hid (HB3.out.trans (hV.mono (by have:=HS3.out;omega)))
   have y6:=(hV.block (h+1) (by have:=HS3.out;omega)).trans HY6.out
   have y7:=(hV.block g (by have:=HS3.out;omega)).trans HY7.out
   have HY6V:=Lib.hid y6;have HY7V:=Lib.hid y7
   clear hV y6 y7
   go_wp2_with (first
    |(refine wpList_load_row rfl _ _ rfl g rfl _ #[.int .u8 0,.int .i64 (d:Int),.int .i64 (k:Int)] (0,0) _ HY7V.out Tryz.underlying127 rfl (sztokA _ _ _) ?_)
    |(refine wpList_store_rowTo rfl _ _ _ rfl rfl (h+1) #[.int .u8 0,.int .i64 (d:Int),.int .i64 (k:Int)] rfl rfl 127 #[.int .u8 0,.int .i64 0,.int .i64 0] HY6V.out (sztokA _ _ _) rfl (one3t _ _ _) ?_))
   refine bodyPost_ret (cell_tok rfl _ _ (h+1) _ rfl rfl (setRow_heap _ _ _ _ _ _ HY6V.out)) rfl ⟨rfl,?_⟩
   rw[←HH.out]
   exact below_row8 HV.out (by omega) _
  |true=>
   by_cases hkk:k<k2
   ·have hkd:decide ((k:Int)<(k2:Int))=true:=by simp;omega
    have hkd2:decide (k<k2)=true:=by simp;omega
    obtain⟨u,hu⟩:∃u,u=f a:=⟨_,rfl⟩
    have HU:=Lib.hid hu
    have hres:R=⟨u,0,0⟩:=by rw[HRES.out,if_pos (.inr (by simpa using hkk)),hu]
    clear hu
    subst hres
    refine wp_region_after W3.heap.size W3 (Below.refl _ _) (by kernel_rfl) (by kernel_rfl) ?_
    repeat (first
     |(go_big_quiet_want;with_reducible refine quiet_load_row _ _ rfl _ _ rfl _ _ R7.out Tryz.underlying127 rfl (sztokC _ _ _) ?_;go_big_quiet_on;simp only[Act.put,List.setIfInBounds_toArray,List.set_cons_zero,List.set_cons_succ])
     |(go_big_quiet_want;with_reducible refine quiet_load_row _ _ rfl _ _ rfl _ _ R5.out Tryz.underlying27 rfl (szStyleC' _ _ _ _) ?_;go_big_quiet_on;simp only[Act.put,List.setIfInBounds_toArray,List.set_cons_zero,List.set_cons_succ])
     |(go_big_quiet_want;with_reducible refine quiet_field _ _ _ rfl (.agg #[.int .u8 0,.int .i64 (d2:Int),.int .i64 (k2:Int)]) (.int .i64 (k2:Int)) rfl (fun w=>run_field2 0 (d2:Int) (k2:Int) w) ?_;go_big_quiet_on;simp only[Act.put,List.setIfInBounds_toArray,List.set_cons_zero,List.set_cons_succ])
     |(go_big_quiet_step (first|(with_reducible exact call_after T1.out _)|(with_reducible exact call_after T2.out _))))
    refine wpQuiet_nil ?_
    rintro V ⟨⟨V,hV⟩,rfl⟩
    have HV:=Lib.hid (HB3.out.trans (hV.mono (by have:=HS3.out;omega)))
    have y6:=(hV.block (h+1) (by have:=HS3.out;omega)).trans HY6.out
    have y7:=(hV.block g (by have:=HS3.out;omega)).trans HY7.out
    have HY6V:=Lib.hid y6;have HY7V:=Lib.hid y7
    have hrd:=HR.out.below HV.out (by omega)
    obtain⟨bb,o,rfl,_,hc⟩:=hrd.2 (by omega)
    have x9:=hc a ha
    rw[←HU.out]at x9
    clear hrd hc hV y6 y7
    go_wp2_with (first
     |(refine wpList_buildTo rfl 127 #[(0,.tmp 33)] rfl (some 34) rfl #[.int .u8 (u:Int),.int .i64 0,.int .i64 0] ?_ ?_;focus(simpa[Act.eval]using built_lit (u:Int)))
     |(refine wpList_store_rowTo rfl _ _ _ rfl rfl (h+1) #[.int .u8 (u:Int),.int .i64 0,.int .i64 0] rfl rfl 127 #[.int .u8 0,.int .i64 0,.int .i64 0] HY6V.out (sztokA _ _ _) rfl (one3t _ _ _) ?_))
    refine bodyPost_ret (cell_tok rfl _ _ (h+1) _ rfl rfl (setRow_heap _ _ _ _ _ _ HY6V.out)) rfl ⟨rfl,?_⟩
    rw[←HH.out]
    exact below_row8 HV.out (by omega) _
   ·have hkd:decide ((k:Int)<(k2:Int))=false:=by simp;omega
    have hkd2:decide (k<k2)=false:=by simp;omega
    have hres:R=⟨0,(d:Int),(k:Int)⟩:=by rw[HRES.out,if_neg (by simp;omega)]
    subst hres
    refine wp_region_after W3.heap.size W3 (Below.refl _ _) (by kernel_rfl) (by kernel_rfl) ?_
    repeat (first
     |(go_big_quiet_want;with_reducible refine quiet_load_row _ _ rfl _ _ rfl _ _ R7.out Tryz.underlying127 rfl (sztokC _ _ _) ?_;go_big_quiet_on;simp only[Act.put,List.setIfInBounds_toArray,List.set_cons_zero,List.set_cons_succ])
     |(go_big_quiet_want;with_reducible refine quiet_load_row _ _ rfl _ _ rfl _ _ R5.out Tryz.underlying27 rfl (szStyleC' _ _ _ _) ?_;go_big_quiet_on;simp only[Act.put,List.setIfInBounds_toArray,List.set_cons_zero,List.set_cons_succ])
     |(go_big_quiet_want;with_reducible refine quiet_field _ _ _ rfl (.agg #[.int .u8 0,.int .i64 (d2:Int),.int .i64 (k2:Int)]) (.int .i64 (k2:Int)) rfl (fun w=>run_field2 0 (d2:Int) (k2:Int) w) ?_;go_big_quiet_on;simp only[Act.put,List.setIfInBounds_toArray,List.set_cons_zero,List.set_cons_succ])
     |(go_big_quiet_step (first|(with_reducible exact call_after T1.out _)|(with_reducible exact call_after T2.out _))))
    refine wpQuiet_nil ?_
    rintro V ⟨⟨V,hV⟩,rfl⟩
    have HV:=Lib.hid (HB3.out.trans (hV.mono (by have:=HS3.out;omega)))
    have y6:=(hV.block (h+1) (by have:=HS3.out;omega)).trans HY6.out
    have y7:=(hV.block g (by have:=HS3.out;omega)).trans HY7.out
    have HY6V:=Lib.hid y6;have HY7V:=Lib.hid y7
    clear hV y6 y7
    go_wp2_with (first
     |(refine wpList_load_row rfl _ _ rfl g rfl _ #[.int .u8 0,.int .i64 (d:Int),.int .i64 (k:Int)] (0,0) _ HY7V.out Tryz.underlying127 rfl (sztokA _ _ _) ?_)
     |(refine wpList_store_rowTo rfl _ _ _ rfl rfl (h+1) #[.int .u8 0,.int .i64 (d:Int),.int .i64 (k:Int)] rfl rfl 127 #[.int .u8 0,.int .i64 0,.int .i64 0] HY6V.out (sztokA _ _ _) rfl (one3t _ _ _) ?_))
    refine bodyPost_ret (cell_tok rfl _ _ (h+1) _ rfl rfl (setRow_heap _ _ _ _ _ _ HY6V.out)) rfl ⟨rfl,?_⟩
    rw[←HH.out]
    exact below_row8 HV.out (by omega) _
end Go.Proofs.YtokpcpjnihinfaaGreat
namespace Go.Proofs.YtokpcpjnihinfaaGreat
open Go.RowKit
def SeqMade(F:Fence)(n:Nat)(P:Program)(g:Nat)(lb:Array Value)(encs:Nat→Array Value)(Kp:World→World→Prop)(L:Nat)(w:World):Prop:=
 ∀(l:Nat) (J:Nat→World→Prop) (W:World),Below w.heap.size w W→
  (∀j W1 W2,J j W1→Below W1.heap.size W1 W2→J j W2)→
  (∀j W1,J j W1→j<L→YieldAt F (n-1) P l (encs j) W1 fun e W'=>e=.returned (.bool true)∧J (j+1) W'∧Kp W1 W')→
  J 0 W→CallsIn F n P g (#[.func (.yield l) #[] #[]]++lb) W fun e W'=>(∃v,e=.returned v)∧J L W'
theorem grownBy_below{W W':World}(h:Below W.heap.size W W'):W.grownBy W' none:=⟨h.os,h.tape,h.output,h.size,fun k hk _=>h.block k hk⟩
theorem wpIn_range_made{F:Fence}{n:Nat}{P:Program}{g:Operand}{ps:Array Tmp}{assign body:Code}{Q:Exit→Act→World→Prop}{a:Act}{w:World}
  (hro:F.round=none) (h1:1≤n) {gf:Nat} {lb:Array Value} (hg:a.eval g=.func (.func gf) #[] lb) (hFg:F.fn gf) (eg:∀args w,(callFunc gf args).run P w=.ok (.enter gf args) w)
  {encs:Nat→Array Value} {Kp:World→World→Prop} {L:Nat} (hseq:SeqMade F (n-1) P gf lb encs Kp L w)
  (hKt:∀{A B C:World},Kp A B→Kp B C→Kp A C) (hKb:∀(W:World) (l:Nat) (o o':Obj),w.heap.size≤l→W.heap[l]?=some o→o.isCells=false→o.isWalk=false→Kp W (W.putObj l o')) (hps:∀j,(encs j).size=ps.size)
  (I:Nat→World→Prop) (hI:OwnFrom w.heap.size I) (h0:I 0 w) (I1:Nat→Act→World→Prop) (hI1:∀a₁,OwnFrom w.heap.size (fun j=>I1 j a₁))
  (hassign:∀(l j:Nat) (W:World) (K:Act→World→Prop),I j W→j<L→(∀a₁ W₁,KeepsOthers W W₁→Kp W W₁→I1 j a₁ W₁→K a₁ W₁)→
   assign.wpIn (F.inRound l) (n-1-1) P (Exit.then K (fun _ _ _=>False)) {tmps:=(ps.zip (encs j)).foldl (fun t (p,v)=>t.setIfInBounds p v) a.tmps,defers:=[]} W)
  (hbody:∀(l j:Nat) (a₁:Act) (W:World),I1 j a₁ W→j<L→body.wpIn (F.inRound l) (n-1-1) P (fun e _ W'=>e=.normal∧KeepsOthers W W'∧Kp W W'∧I (j+1) W') a₁ W)
  (hdone:∀(D:Nat) (W:World),w.heap.size≤D→I L W→W.heap[D]?=some (.deferred (some []))→Q .normal {a with defers:={target:=.collected D,args:=#[]}::a.defers} W):
  (Code.rangeFunc g ps assign body).wpIn F n P Q a w:=by
 refine wpIn_rangeFunc fun fn hfn=>?_
 rw[hro]
 obtain⟨rec,hrec⟩:∃rec:LoopState→Loop,rec=fun st=>{state:=st,pending:=none,fn,tmps:=a.tmps,params:=ps,assign,body,defers:=w.heap.size}:=⟨_,rfl⟩
 obtain⟨D,hD⟩:∃D,D=w.heap.size:=⟨_,rfl⟩
 obtain⟨W1,hW1⟩:∃W1,W1=(w.alloc (.deferred (some []))).alloc (.loop (rec .ready)):=⟨_,rfl⟩
 have hL1:W1.heap[D+1]?=some (.loop (rec .ready)):=by
  rw[hW1,hD];have h:=World.alloc_heap_new (w.alloc (.deferred (some []))) (.loop (rec .ready));rwa[World.size_alloc]at h
 have hK1:W1.heap[D]?=some (.deferred (some [])):=by
  rw[hW1,hD];exact(Below.heap_alloc _ _ _ (by simp)).trans (World.alloc_heap_new w _)
 have hI1':I 0 W1:=by rw[hW1];exact hI.alloc _ (hI.alloc _ h0)
 have hb1:Below w.heap.size w W1:=by
  rw[hW1];exact((Below.refl _ w).alloc (Nat.le_refl _) _).alloc (by simp) _
 refine⟨D+1,[{target:=.collected D,args:=#[]}],W1,{target:=.fn (.func gf) lb,args:=#[.func (.yield (D+1)) #[] #[]]},W1,gf,#[.func (.yield (D+1)) #[] #[]]++lb,W1,?_,?_,?_,?_,fun _=>h1,?_⟩
 ·rw[hW1,hrec,hD];exact run_enterLoop_outer _ _ _ _ _
 ·simp only[resolve,hg]
  simp[go_sem]
 ·intro f' hf';simp[Target.leads]at hf';subst hf';exact hFg
 ·simp[invoke,go_sem,eg]
 ·refine(hseq (D+1) (fun j W=>I j W∧W.heap[D+1]?=some (.loop (rec .ready))∧W.heap[D]?=some (.deferred (some []))) W1 hb1 ?_ ?_ ⟨hI1',hL1,hK1⟩).mono ?_
  ·rintro j A B ⟨hi,hl,hk⟩ hb
   exact⟨hI _ _ _ none hi (grownBy_below hb) (fun r e=>by cases e),(hb.block _ (Array.getElem?_eq_some_iff.1 hl).1).trans hl,(hb.block _ (Array.getElem?_eq_some_iff.1 hk).1).trans hk⟩
  ·rintro j W ⟨hi,hl,hk⟩ hj
   have hlt:D+1<W.heap.size:=(Array.getElem?_eq_some_iff.1 hl).1
   have hy:=run_yield (P:=P) (args:=encs j) hl (by rw[hrec];exact hps j)
   rw[hrec]at hy
   refine⟨fn,_,assign,body,hy,roundIn_of_wpIn hfn (hassign _ j W _ hi hj fun a₁ Wa hko hkp hi1=>?_)⟩
   have hla:=hko.same _ _ hl rfl
   have hka:=hko.same _ _ hk rfl
   have hlta:D+1<Wa.heap.size:=(Array.getElem?_eq_some_iff.1 hla).1
   refine⟨_,run_beginRound hla (by rw[hrec]),?_⟩
   have hl2:(Wa.putObj (D+1) (.loop {rec .ready with state:=.busy})).heap[D+1]?=some (.loop {rec .ready with state:=.busy}):=World.putObj_heap_same hlta
   have hk2:(Wa.putObj (D+1) (.loop {rec .ready with state:=.busy})).heap[D]?=some (.deferred (some [])):=(World.putObj_heap_other (by omega)).trans hka
   have hp2:Kp W (Wa.putObj (D+1) (.loop {rec .ready with state:=.busy})):=hKt hkp (hKb Wa _ _ _ (by omega) hla rfl rfl)
   refine wpIn_mono (hbody _ j _ _ ((hI1 a₁).putObj _ hi1 (by omega) hla rfl) hj) ?_
   rintro e a3 W3 ⟨rfl,hk3,hp3,hi3⟩
   have hl3:=hk3.same _ _ hl2 rfl
   have hr:=run_endRound (P:=P) none hl3
   rw[hrec]at hr hl3
   refine⟨_,_,hr,rfl,⟨hI.putObj _ hi3 (by omega) hl3 rfl,?_,(World.putObj_heap_other (by omega)).trans (hk3.same _ _ hk2 rfl)⟩,hKt (hKt hp2 hp3) (hKb W3 _ _ _ (by omega) hl3 rfl rfl)⟩
   rw[World.putObj_heap_same (Array.getElem?_eq_some_iff.1 hl3).1,hrec];rfl
  ·rintro e W2 ⟨⟨v,rfl⟩,hi,hl,hk⟩
   refine⟨none,_,by have h:=run_endLoop (P:=P) hl (by rw[hrec];simp);rw[hrec]at h;exact h,?_⟩
   exact hdone D _ (by omega) (hI.putObj _ hi (by omega) hl rfl) ((World.putObj_heap_other (by omega)).trans hk)
end Go.Proofs.YtokpcpjnihinfaaGreat
namespace Go.Proofs.YtokpcpjnihinfaaGreat
open Go.RowKit Go.Shelf
attribute [local go_sem] Oper.semAt_some
attribute [local simp] wide_fn
theorem cut_fst{f:Nat→Nat}{n z ch:Nat}{lz:Bool}{a:Nat}(ha:a<n):
  cutA f n z ch lz a=fstT f n z ch lz a::cutA f n z ch lz (a+lenT (fstT f n z ch lz a))∧1≤lenT (fstT f n z ch lz a)∧a+lenT (fstT f n z ch lz a)≤n∧
  (if(fstT f n z ch lz a).n<1 then 1 else(fstT f n z ch lz a).n)=((lenT (fstT f n z ch lz a):Nat):Int)∧(fstT f n z ch lz a).x<256∨¬(∀j,f j<256):=by
 by_cases hf:∀j,f j<256
 ·refine .inl ?_
  unfold fstT
  by_cases h:(bstN f n a z a ch 0 0).2=0∨(bstN f n a z a ch 0 0).2<latN f n z ch lz a
  ·rw[if_pos h]
   have e:lenT ⟨f a,0,0⟩=1:=by unfold lenT;rw[if_pos rfl]
   rw[e]
   exact⟨cutA_byte ha h,Nat.le_refl _,by omega,rfl,hf a⟩
  ·rw[if_neg h]
   obtain⟨b1,b2,b3,b4,b5,b6⟩:=bst_is (f:=f) (L:=n) (a:=a) (size:=z) (chain:=ch) (fun q=>h (.inl q))
   have e:lenT ⟨0,((bstN f n a z a ch 0 0).1:Nat),((bstN f n a z a ch 0 0).2:Nat)⟩=(bstN f n a z a ch 0 0).2:=by
    unfold lenT;rw[if_neg (by show¬((((bstN f n a z a ch 0 0).2:Nat):Int)=0);omega)];exact Int.toNat_natCast _
   rw[e]
   have hl:=(b6 ((bstN f n a z a ch 0 0).2-1) (by omega)).1
   refine⟨cutA_copy ha h,by omega,by omega,?_,by show 0<256;omega⟩
   rw[if_neg (by show¬((((bstN f n a z a ch 0 0).2:Nat):Int)<1);omega)]
 ·exact .inr hf
theorem rd_self{w:World}{B n:Nat}{A:Option Addr}{f:Nat→Nat}(h:RdB w B A n f):RdB w w.heap.size A n f:=by
 refine⟨h.1,fun hn=>?_⟩
 obtain⟨b,o,rfl,_,hc⟩:=h.2 hn
 refine⟨b,o,rfl,?_,hc⟩
 have:=hc 0 hn
 rcases Nat.lt_or_ge b w.heap.size with g|g
 ·exact g
 ·simp only[World.cell?]at this
  rw[Array.getElem?_eq_none g]at this
  simp at this
def KpT(S:Nat→Prop)(W W':World):Prop:=KpB S W W'∧(∀(k:Nat) (cs:Array Value),W.heap[k]?=some (.cells cs 127 (0,0))→W'.heap[k]?=some (.cells cs 127 (0,0)))∧W.heap.size≤W'.heap.size
theorem KpT.tr{S:Nat→Prop}{A B C:World}(h:KpT S A B)(k:KpT S B C):KpT S A C:=⟨h.1.tr k.1,fun i cs hi=>k.2.1 i cs (h.2.1 i cs hi),Nat.le_trans h.2.2 k.2.2⟩
theorem kpb_below{S:Nat→Prop}{N:Nat}{W W':World}(hb:Below W.heap.size W W')(hN:N≤W.heap.size)(hS:∀k,S k→k<N):KpB S W W':=fun k hk=>hb.block k (by have:=hS k hk;omega)
def tokV(t:Tok):Value:=.agg #[.int .u8 (t.x:Int),.int .i64 t.d,.int .i64 t.n]
def encT(T:List Tok)(j:Nat):Array Value:=#[tokV (T.getD j tok0)]
theorem toks1_in(fu:Nat)(hfu:1≤fu)(l Bb Ba Bs B N:Nat)(A:Option Addr)(n c a z ch:Nat)(m:Int)(lz:Bool)(f:Nat→Nat)(S:Nat→Prop)(hS:S Bb∧S Ba∧S Bs)(hS2:∀k,k<B→S k)(hS3:∀k,S k→k<N)(ha:a≤n)(hn:n≤131072)(hz1:1≤z)(hz:z≤32768)(hch:ch≤256)
  (T:List Tok) (hT:T=cutA f n z ch lz a) (J:Nat→World→Prop)
  (hd:∀j W1 W2,J j W1→Below W1.heap.size W1 W2→J j W2)
  (hY:∀j W1,J j W1→j<T.length→YieldAt Fence.wide (fu-1) Tryz.prog l (encT T j) W1 fun e W'=>e=.returned (.bool true)∧J (j+1) W'∧KpT S W1 W')
  (W:World) (hN:N≤W.heap.size) (hBb:W.cell? ⟨Bb,0,none⟩=some (.slice A n c)) (hBa:W.cell? ⟨Ba,0,none⟩=some (.int .i64 (a:Int))) (hBs:W.heap[Bs]?=some (.cells #[.int .i64 (z:Int),.int .i64 (ch:Int),.int .i64 m,.bool lz] 27 (0,0))) (hr:ByR W B A n c f) (h0:J 0 W):
  CallsIn Fence.wide fu Tryz.prog 102 #[.func (.yield l) #[] #[],.pointer (some ⟨Ba,0,none⟩),.pointer (some ⟨Bb,0,none⟩),.pointer (some ⟨Bs,0,none⟩)] W fun e W'=>(∃v,e=.returned v)∧J T.length W':=by
 refine callsIn_of_wp Tryz.func102 rfl trivial ?_ rfl
 simp only[Tryz.ntmps102,List.size_toArray,List.length_cons,List.length_nil,Nat.reduceAdd,Nat.reduceSub,Array.replicate_succ,Array.replicate_zero,List.push_toArray,List.append_toArray,List.nil_append,List.cons_append]
 have HR:=Lib.hid hr;have HS2:=Lib.hid hS2;have HS3:=Lib.hid hS3;have HY:=Lib.hid hY;have HD:=Lib.hid hd;have HT:=Lib.hid hT;have HN:=Lib.hid hN;have HBS:=Lib.hid hBs
 clear hr hS2 hS3 hY hd hT hN
 gi_wp2
 gi_loopw [5] (fun av wr=>∃j a':Nat,a'≤n∧av=.int .i64 (a':Int)∧Hid (j≤T.length∧T.drop j=cutA f n z ch lz a')∧Hid (J j wr)∧Hid (KpB S W wr)∧Hid (N≤wr.heap.size)) (fun av _=>n-(intOf av).toNat)
 case atStart=>exact⟨0,a,ha,rfl,Lib.hid ⟨Nat.zero_le _,HT.out⟩,Lib.hid h0,Lib.hid (KpB.refl _ _),HN⟩
 case round=>
  obtain⟨j,a',ha',rfl,HK,HJ,HKP,HNW⟩:=hrel
  have c1:=(HKP.out.cell (p:=⟨Bb,0,none⟩) hS.1).trans hBb
  by_cases hlt:a'<n
  ·have hlti:(a':Int)<(n:Int):=by omega
   have hrow:=(HKP.out Bs hS.2.2).trans HBS.out
   have hrw:ByR wr wr.heap.size A n c f:=⟨rd_self (HR.out.1.kept HKP.out HS2.out),HR.out.2⟩
   have hfi:=first8_any wr A n c f a' z ch m lz hrw hlt hn hz1 hz hch
   rcases cut_fst (f:=f) (n:=n) (z:=z) (ch:=ch) (lz:=lz) hlt with⟨q1,q2,q3,q4,q5⟩|q
   ·obtain⟨t,ht⟩:∃t,t=fstT f n z ch lz a':=⟨_,rfl⟩
    rw[←ht]at hfi q1 q2 q3 q4
    obtain⟨tx,td,tn⟩:=t
    obtain⟨E,hE⟩:∃E,E=lenT ⟨tx,td,tn⟩:=⟨_,rfl⟩
    rw[←hE]at q1 q2 q3 q4
    have hdr:T.drop j=⟨tx,td,tn⟩::cutA f n z ch lz (a'+E):=HK.out.2.trans q1
    have hjl:j<T.length:=by
     rcases Nat.lt_or_ge j T.length with g|g
     ·exact g
     ·rw[List.drop_eq_nil_of_le g]at hdr;cases hdr
    have hget:T.getD j tok0=⟨tx,td,tn⟩:=by
     rw[List.drop_eq_getElem_cons hjl]at hdr
     injection hdr with h1 _
     rw[List.getD_eq_getElem?_getD,List.getElem?_eq_getElem hjl];exact h1
    have hdr2:T.drop (j+1)=cutA f n z ch lz (a'+E):=by
     rw[List.drop_eq_getElem_cons hjl]at hdr
     injection hdr with _ h2
    have hwi:=wide8_any
    have HFI:=Lib.hid hfi;have HDR:=Lib.hid hdr2;have HGET:=Lib.hid hget;have HROW:=Lib.hid hrow;have HQ4:=Lib.hid q4
    clear hfi hdr hdr2 hget hrw ht hE q1 q4 q5 hrow hwi
    gi_wp2_with (refine wpListIn_load_row rfl _ _ rfl Bs rfl _ #[.int .i64 (z:Int),.int .i64 (ch:Int),.int .i64 m,.bool lz] (0,0) _ HROW.out Tryz.underlying27 rfl szStyle ?_)
    refine(callsIn_wide.2 HFI.out).mono ?_
    rintro e w2 ⟨rfl,hb2⟩
    obtain⟨g,hg⟩:∃g,g=w2.heap.size:=⟨_,rfl⟩
    have hb3:Below wr.heap.size wr (w2.alloc (.cells #[.int .u8 (tx:Int),.int .i64 td,.int .i64 tn] 127)):=hb2.alloc hb2.size _
    have hJ3:=HD.out _ _ _ HJ.out hb3
    have hkp3:=HKP.out.tr (kpb_below hb3 HNW.out HS3.out)
    have hn3:N≤(w2.alloc (.cells #[.int .u8 (tx:Int),.int .i64 td,.int .i64 tn] 127)).heap.size:=Nat.le_trans HNW.out hb3.size
    have hrow3:(w2.alloc (.cells #[.int .u8 (tx:Int),.int .i64 td,.int .i64 tn] 127)).heap[g]?=some (.cells #[.int .u8 (tx:Int),.int .i64 td,.int .i64 tn] 127 (0,0)):=by rw[hg];exact heap_alloc_new w2 _
    obtain⟨fn,tmps,assign,body,hy,hRR⟩:=HY.out _ _ hJ3 hjl
    have hen:encT T j=#[.agg #[.int .u8 (tx:Int),.int .i64 td,.int .i64 tn]]:=by unfold encT tokV;rw[HGET.out]
    rw[hen]at hy
    have HKP3:=Lib.hid hkp3;have HN3:=Lib.hid hn3;have HROW3:=Lib.hid hrow3;have HRR:=Lib.hid hRR;have HG:=Lib.hid hg
    clear hb2 hb3 hJ3 hkp3 hn3 hrow3 hRR hen HKP HJ HNW HFI HROW c1 hg
    gi_wp2
    refine HRR.out.mono ?_
    rintro e W4 ⟨rfl,hJ4,hkt⟩
    have HROW4:=Lib.hid (hkt.2.1 g _ HROW3.out)
    have HKP4:=Lib.hid (HKP3.out.tr hkt.1)
    have HN4:=Lib.hid (Nat.le_trans HN3.out hkt.2.2)
    have HJ4:=Lib.hid hJ4
    have hwi:=wide8_any W4 ⟨tx,td,tn⟩
    rw[HQ4.out]at hwi
    have HWI:=Lib.hid hwi
    clear hkt hJ4 hwi hy HROW3 HRR HKP3 HN3
    rw[←HG.out]
    gi_wp2_with (refine wpListIn_load_row rfl _ _ rfl g rfl _ #[.int .u8 (tx:Int),.int .i64 td,.int .i64 tn] (0,0) _ HROW4.out Tryz.underlying127 rfl (sztokA _ _ _) ?_)
    refine(callsIn_wide.2 HWI.out).mono ?_
    rintro e w5 ⟨rfl,hb5⟩
    have HJ5:=Lib.hid (HD.out _ _ _ HJ4.out hb5)
    have HKP5:=Lib.hid (HKP4.out.tr (kpb_below hb5 HN4.out HS3.out))
    have HN5:=Lib.hid (Nat.le_trans HN4.out hb5.size)
    clear hb5
    gi_wp2
    go_roundw
    case rel=>exact⟨j+1,a'+E,q3,by go_num,Lib.hid ⟨hjl,HDR.out⟩,HJ5,HKP5,HN5⟩
    case measure=>simp[intOf];omega
   ·exact absurd HR.out.1.1 q
  ·obtain rfl:a'=n:=by omega
   have hlti:¬(a':Int)<(a':Int):=by omega
   have hfin:j=T.length:=by
    have h1:=HK.out.2
    rw[cutA_end (Nat.le_refl _)]at h1
    have h2:=congrArg List.length h1
    rw[List.length_drop]at h2
    have:=HK.out.1
    simp at h2;omega
   subst hfin
   gi_wp2
   go_end0
   exact⟨⟨_,rfl⟩,HJ.out⟩
theorem tokens_in(n:Nat)(A:Option Addr)(len cap a:Nat)(z ch m:Int)(lz:Bool)(w:World):
  CallsIn Fence.wide n Tryz.prog 81 #[.slice A len cap,.int .i64 (a:Int),.agg #[.int .i64 z,.int .i64 ch,.int .i64 m,.bool lz]] w fun e w'=>e=.returned (.func (.func 102) #[] #[.pointer (some ⟨w.heap.size+1,0,none⟩),.pointer (some ⟨w.heap.size,0,none⟩),.pointer (some ⟨w.heap.size+2,0,none⟩)])∧
   w'=((w.alloc (.cells #[.slice A len cap] 22)).alloc (.cells #[.int .i64 (a:Int)] 3)).alloc (.cells #[.int .i64 z,.int .i64 ch,.int .i64 m,.bool lz] 27):=by
 refine callsIn_of_wp Tryz.func81 rfl trivial ?_ rfl
 simp only[Tryz.ntmps81,List.size_toArray,List.length_cons,List.length_nil,Nat.reduceAdd,Nat.reduceSub,Array.replicate_succ,Array.replicate_zero,List.push_toArray,List.append_toArray,List.nil_append,List.cons_append]
 gi_wp2
 go_ret
 exact⟨rfl,rfl⟩
theorem toks1_made(fu:Nat)(hfu:1≤fu)(Bb Ba Bs B N:Nat)(A:Option Addr)(n c a z ch:Nat)(m:Int)(lz:Bool)(f:Nat→Nat)(S:Nat→Prop)(hS:S Bb∧S Ba∧S Bs)(hS2:∀k,k<B→S k)(hS3:∀k,S k→k<N)(ha:a≤n)(hn:n≤131072)(hz1:1≤z)(hz:z≤32768)(hch:ch≤256)
  (T:List Tok) (hT:T=cutA f n z ch lz a) (w:World) (hN:N≤w.heap.size) (hBb:w.cell? ⟨Bb,0,none⟩=some (.slice A n c)) (hBa:w.cell? ⟨Ba,0,none⟩=some (.int .i64 (a:Int))) (hBs:w.heap[Bs]?=some (.cells #[.int .i64 (z:Int),.int .i64 (ch:Int),.int .i64 m,.bool lz] 27 (0,0))) (hr:ByR w B A n c f) (hB:B≤w.heap.size):
  SeqMade Fence.wide fu Tryz.prog 102 #[.pointer (some ⟨Ba,0,none⟩),.pointer (some ⟨Bb,0,none⟩),.pointer (some ⟨Bs,0,none⟩)] (encT T) (KpT S) T.length w:=fun l J W hW hd hY h0=>
 toks1_in fu hfu l Bb Ba Bs B N A n c a z ch m lz f S hS hS2 hS3 ha hn hz1 hz hch T hT J hd hY W (Nat.le_trans hN hW.size) ((hW.cell (Nat.lt_of_lt_of_le (hS3 _ hS.1) hN)).trans hBb) ((hW.cell (Nat.lt_of_lt_of_le (hS3 _ hS.2.1) hN)).trans hBa) ((hW.block Bs (Nat.lt_of_lt_of_le (hS3 _ hS.2.2) hN)).trans hBs) (hr.below hW hB) h0
end Go.Proofs.YtokpcpjnihinfaaGreat
namespace Go.Proofs.YtokpcpjnihinfaaGreat
open Go.RowKit Go.ChangeShapes Go.WideShapes Go.ChangeAt Go.Joins
attribute [local go_sem] Oper.semAt_some
attribute [local simp] wide_fn
theorem run_oneT_g(w:World)(base:Nat)(A:Option Addr)(n c:Nat)(l:List Tok)(hown:w.ownsRow base 128 3 (.slice A n c) n (toksL l))(t:Tok)(hn:n≤1000000)(hbase:base≤w.heap.size):
  ∃A' c' w',(Builtin.append_ #[79,79] 79 #[.slice A n c,.slice (some ⟨w.heap.size,0,none⟩) 1 1]).run Tryz.prog (w.alloc (.cells #[.int .u8 (t.x:Int),.int .i64 t.d,.int .i64 t.n] 128))=.ok (.slice A' (n+1) c') w'∧
   w'.ownsRow base 128 3 (.slice A' (n+1) c') (n+1) (toksL (l++[t]))∧Below base w w'∧KeepsOthers w w'∧(∀k,k<w.heap.size→(Value.slice A n c).ownBlock≠some k→w'.heap[k]?=w.heap[k]?):=by
 have hb1:Below base w (w.alloc (.cells #[.int .u8 (t.x:Int),.int .i64 t.d,.int .i64 t.n] 128)):=(Below.refl base w).alloc hbase _
 have ho1:=hown.alloc (.cells #[.int .u8 (t.x:Int),.int .i64 t.d,.int .i64 t.n] 128)
 obtain⟨A',c',w',h2,o2,b2⟩:=run_app_g (by_:=24) Tryz.underlying79 infoTok rfl (by decide) (w.alloc (.cells #[.int .u8 (t.x:Int),.int .i64 t.d,.int .i64 t.n] 128)) base _ (.slice A n c) n _ ho1 _ 1 1 _
  (SrcL.new w 3 1 #[.int .u8 (t.x:Int),.int .i64 t.d,.int .i64 t.n] 128 rfl) (fun u hu=>by simp at hu;rcases hu with rfl|rfl|rfl<;>rfl) (by unfold maxLen;omega) (by omega) 79 (fun h=>by cases h) (Nat.le_trans hbase hb1.size)
 refine⟨A',c',w',h2,?_,hb1.trans ((Below.refl base _).grown b2 (Nat.le_trans hbase hb1.size) (own_geS ho1)),(KeepsOthers.alloc w _).trans (KeepsOthers.of_grownBy b2 (own_cells ho1)),fun k hk hne=>?_⟩
 ·rw[toksL_app];exact o2
 ·refine(b2.block k (by simp;omega) (fun e=>hne e.symm)).trans ?_
  exact(Below.refl w.heap.size w).alloc (Nat.le_refl _) (.cells #[.int .u8 (t.x:Int),.int .i64 t.d,.int .i64 t.n] 128)|>.block k hk
def SCut(B b k:Nat):Prop:=k<B∨(b+1≤k∧k<b+4)
def CutI(w u:World)(b:Nat)(T:List Tok)(j:Nat)(W:World):Prop:=
 Below w.heap.size w W∧KpB (SCut w.heap.size b) u W∧u.heap.size≤W.heap.size∧
 ∃(A:Option Addr) (c:Nat),Boxed W b 79 (.slice A j c)∧W.ownsRow (b+4) 128 3 (.slice A j c) j (toksL (T.take j))
theorem CutI.own(w u:World)(b:Nat)(T:List Tok)(hb:w.heap.size≤b)(hu:u.heap.size=b+4):OwnFrom u.heap.size (CutI w u b T):=by
 rintro j W W' row ⟨h1,h2,h3,A,c,h5,h6⟩ hgr hr
 have hk:∀k,k<u.heap.size→W'.heap[k]?=W.heap[k]?:=fun k hk=>hgr.block k (by omega) (fun e=>by have:=(hr k e.symm).1;omega)
 refine⟨h1.grown hgr ?_ (fun r e=>?_),fun k hS=>(hk k ?_).trans (h2 k hS),Nat.le_trans h3 hgr.size,A,c,(hk _ (by omega)).trans h5,own_grown h6 hgr (fun r e=>(hr r e).2)⟩
 ·omega
 ·have:=(hr r e).1;omega
 ·rcases hS with hS|hS<;>omega
def cutF(A:Option Addr)(n c a z ch:Nat)(m:Int)(lz:Bool)(g b x:Nat)(t:Tok):Act:=
 {tmps:=#[.slice A n c,.int .i64 (a:Int),.agg #[.int .i64 (z:Int),.int .i64 (ch:Int),.int .i64 m,.bool lz],undef,undef,.pointer (some ⟨g,0,none⟩),.slice none 0 0,.int .i64 0,.int .i64 0,.pointer (some ⟨b,0,none⟩),.pointer (some ⟨x,0,none⟩),
  .agg #[.int .i64 (z:Int),.int .i64 (ch:Int),.int .i64 m,.bool lz],.int .i64 0,.int .i64 0,.bool false,undef,.slice A n c,.int .i64 (n:Int),.bool false,.int .i64 (a:Int),.bool false,.bool false,.int .i64 (a:Int),.slice A n c,.int .i64 (n:Int),.bool false,.bool false,.slice A n c,.int .i64 (a:Int),
  .agg #[.int .i64 (z:Int),.int .i64 (ch:Int),.int .i64 m,.bool lz],.func (.func 102) #[] #[.pointer (some ⟨b+2,0,none⟩),.pointer (some ⟨b+1,0,none⟩),.pointer (some ⟨b+3,0,none⟩)],.agg #[.int .u8 (t.x:Int),.int .i64 t.d,.int .i64 t.n],undef,undef,undef,undef,undef],defers:=[]}
def CutB(w u:World)(b:Nat)(V:List Tok)(fr:Nat→Tok→Act)(j:Nat)(a₁:Act)(W:World):Prop:=
 ∃x:Nat,a₁=fr x (V.getD j tok0)∧u.heap.size≤x∧W.heap[x]?=some (.cells #[.int .u8 ((V.getD j tok0).x:Int),.int .i64 (V.getD j tok0).d,.int .i64 (V.getD j tok0).n] 127 (0,0))∧CutI w u b V j W
theorem grown_cells{W W':World}{row:Option Nat}{x:Nat}{cs:Array Value}{t:TypeId}{fr:Nat×Nat}(h:W.heap[x]?=some (.cells cs t fr))(hg:W.grownBy W' row)(hr:∀r,row=some r→∃o:Obj,W.heap[r]?=some o∧o.isCells=false):W'.heap[x]?=some (.cells cs t fr):=by
 refine(hg.block x (Array.getElem?_eq_some_iff.1 h).1 fun he=>?_).trans h
 obtain⟨o,ho,hc⟩:=hr x he.symm
 rw[ho]at h
 cases h;cases hc
theorem CutB.own(w u:World)(b:Nat)(V:List Tok)(fr:Nat→Tok→Act)(hb:w.heap.size≤b)(hu:u.heap.size=b+4)(a₁:Act):OwnFrom u.heap.size (fun j=>CutB w u b V fr j a₁):=by
 rintro j W W' row ⟨x,h1,h2,h3,h4⟩ hgr hr
 exact⟨x,h1,h2,grown_cells h3 hgr (fun r e=>(hr r e).2),CutI.own w u b V hb hu j W W' row h4 hgr hr⟩
theorem kpt_put{S:Nat→Prop}{N:Nat}(hS:∀k,S k→k<N)(W:World)(l:Nat)(o o':Obj)(hl:N≤l)(h:W.heap[l]?=some o)(hc:o.isCells=false):KpT S W (W.putObj l o'):=by
 refine⟨fun k hk=>World.putObj_heap_other (by have:=hS k hk;omega),fun k cs hk=>?_,by simp[World.putObj]⟩
 refine(World.putObj_heap_other (fun e=>?_)).trans hk
 subst e
 rw[h]at hk
 cases hk;cases hc
theorem cut8_any(w:World)(A:Option Addr)(n c:Nat)(f:Nat→Nat)(a s h m:Int)(lz:Bool)(hr:ByR w w.heap.size A n c f)(_: -9223372036854775808≤a)(_:a≤9223372036854775807):
  Calls Tryz.prog 64 #[.slice A n c,.int .i64 a,.agg #[.int .i64 s,.int .i64 h,.int .i64 m,.bool lz]] w fun e w'=>∃A' n' c',e=.returned (.tuple #[.slice A' n' c',.int .i64 (cutE n a s h m)])∧TkR w' w'.heap.size A' n' c' (cutV f n a s h m lz)∧Below w.heap.size w w':=by
 obtain⟨E,hE⟩:∃E,E=cutE n a s h m:=⟨_,rfl⟩
 obtain⟨V,hV⟩:∃V,V=cutV f n a s h m lz:=⟨_,rfl⟩
 rw[←hE,←hV]
 unfold cutV at hV
 rw[←hE]at hV
 obtain⟨W1,hW1⟩:∃W1,W1=w.alloc (.cells #[.int .i64 s,.int .i64 h,.int .i64 m,.bool lz] 27):=⟨_,rfl⟩
 have hb1:Below w.heap.size w W1:=by rw[hW1];exact(Below.refl _ _).alloc (Nat.le_refl _) _
 have hs1:W1.heap.size=w.heap.size+1:=by rw[hW1];simp
 have hbx:W1.heap[w.heap.size]?=some (.cells #[.int .i64 s,.int .i64 h,.int .i64 m,.bool lz] 27 (0,0)):=by rw[hW1];exact heap_alloc_new w _
 obtain⟨g,hg⟩:∃g,g=w.heap.size:=⟨_,rfl⟩
 rw[←hg]at hbx hs1
 have hst:=sty8_any W1 s h m lz
 obtain⟨e1,he1⟩:∃e1,e1=styE s h m:=⟨_,rfl⟩
 rw[←he1]at hst
 have HR:=Lib.hid hr;have HE:=Lib.hid hE;have HV:=Lib.hid hV;have HB1:=Lib.hid hb1;have HS1:=Lib.hid hs1;have HBX:=Lib.hid hbx;have HG:=Lib.hid hg;have HST:=Lib.hid hst;have HE1:=Lib.hid he1;have HW1:=Lib.hid hW1
 clear hr hE hV hb1 hs1 hbx hg hst he1 hW1
 by_cases hE0:E=0
 ·have hin:mayS s h m=true∧n≤131072∧0≤a∧a≤(n:Int):=by
   have:=HE.out
   rw[hE0]at this
   unfold cutE at this
   by_cases q1:mayS s h m=true
   ·rw[if_neg (by rw[q1];decide)]at this
    by_cases q2:131072<n
    ·rw[if_pos q2]at this;omega
    ·rw[if_neg q2]at this
     by_cases q3:0≤a∧a≤(n:Int)
     ·exact⟨q1,by omega,q3.1,q3.2⟩
     ·rw[if_neg q3]at this;omega
   ·rw[if_pos (by simpa using q1)]at this;omega
  subst hE0
  obtain⟨hms,hn,ha0,han⟩:=hin
  obtain⟨m1,m2,m3,m4,m5,m6⟩:=mayS_is hms
  obtain rfl:e1=0:=by rw[HE1.out];unfold styE;rw[if_pos hms]
  obtain⟨a,rfl⟩:=Int.eq_ofNat_of_zero_le ha0
  obtain⟨z,rfl⟩:=Int.eq_ofNat_of_zero_le (show 0≤s by omega)
  obtain⟨ch,rfl⟩:=Int.eq_ofNat_of_zero_le (show 0≤h by omega)
  have hV2:V=cutA f n z ch lz a:=by rw[HV.out,if_pos rfl,Int.toNat_natCast,Int.toNat_natCast,Int.toNat_natCast]
  have HV2:=Lib.hid hV2
  clear hV2 HE HV HE1 hms
  have d1:decide (131072<(n:Int))=false:=by simp;omega
  have d2:decide ((a:Int)<0)=false:=by simp
  have d3:decide ((n:Int)<(a:Int))=false:=by simp;omega
  have d4:decide (n<a)=false:=by simp;omega
  refine(callsIn_wide (n:=5)).1 ?_
  refine callsIn_of_wp_marks Tryz.func64 rfl trivial ?_ rfl
  simp only[Tryz.ntmps64,List.size_toArray,List.length_cons,List.length_nil,Nat.reduceAdd,Nat.reduceSub,Array.replicate_succ,Array.replicate_zero,List.push_toArray,List.append_toArray,List.nil_append,List.cons_append]
  gi_wp2_with fail
  rw[←HW1.out,←HG.out]
  refine(callsIn_wide.2 HST.out).mono ?_
  rintro e w2 ⟨rfl,hb2⟩
  have hr2:=(hb2.block g (by have:=HS1.out;omega)).trans HBX.out
  have HB2:=Lib.hid (HB1.out.trans (hb2.mono HB1.out.size));have HR2:=Lib.hid hr2
  obtain⟨b,hb⟩:∃b,b=w2.heap.size:=⟨_,rfl⟩
  have hgb:g<b:=by have:=hb2.size;have:=HS1.out;omega
  have hr3:(w2.alloc (.cells #[.slice none 0 0] 79)).heap[g]?=some (.cells #[.int .i64 (z:Int),.int .i64 (ch:Int),.int .i64 m,.bool lz] 27 (0,0)):=(Below.heap_alloc _ _ _ (by omega)).trans hr2
  have HR3:=Lib.hid hr3
  clear hb2 hr2 hr3
  gi_wp2_with (first
   |(refine wpListIn_load_row rfl _ _ rfl g rfl _ #[.int .i64 (z:Int),.int .i64 (ch:Int),.int .i64 m,.bool lz] (0,0) _ HR3.out Tryz.underlying27 rfl szStyle ?_)
   |(gi_at_call 81;refine(tokens_in _ _ _ _ _ _ _ _ _ _).mono ?_;rintro e w' ⟨rfl,rfl⟩))
  obtain⟨u,hu⟩:∃u,u=(((w2.alloc (.cells #[.slice none 0 0] 79)).alloc (.cells #[.slice A n c] 22)).alloc (.cells #[.int .i64 (a:Int)] 3)).alloc (.cells #[.int .i64 (z:Int),.int .i64 (ch:Int),.int .i64 m,.bool lz] 27):=⟨_,rfl⟩
  have hus:u.heap.size=b+4:=by rw[hu,hb];simp
  have hwu:Below b w2 u:=by
   rw[hu,hb];exact((((Below.refl w2.heap.size w2).alloc (Nat.le_refl _) _).alloc (by simp) _).alloc (by simp;omega) _).alloc (by simp;omega) _
  have hub:Below w.heap.size w u:=HB2.out.trans (hwu.mono (by have:=HG.out;omega))
  have bx0:Boxed u b 79 (.slice none 0 0):=by
   rw[hu,hb];exact(((Boxed.new w2 _ _).alloc _).alloc _).alloc _
  have bx1:Boxed u (b+1) 22 (.slice A n c):=by
   have:=((Boxed.new (w2.alloc (.cells #[.slice none 0 0] 79)) 22 (.slice A n c)).alloc (.cells #[.int .i64 (a:Int)] 3)).alloc (.cells #[.int .i64 (z:Int),.int .i64 (ch:Int),.int .i64 m,.bool lz] 27)
   rw[World.size_alloc,←hb]at this
   rw[hu];exact this
  have bx2:Boxed u (b+2) 3 (.int .i64 (a:Int)):=by
   have:=(Boxed.new ((w2.alloc (.cells #[.slice none 0 0] 79)).alloc (.cells #[.slice A n c] 22)) 3 (.int .i64 (a:Int))).alloc (.cells #[.int .i64 (z:Int),.int .i64 (ch:Int),.int .i64 m,.bool lz] 27)
   rw[World.size_alloc,World.size_alloc,←hb]at this
   rw[hu];exact this
  have bx3:u.heap[b+3]?=some (.cells #[.int .i64 (z:Int),.int .i64 (ch:Int),.int .i64 m,.bool lz] 27 (0,0)):=by
   have:=heap_alloc_new (((w2.alloc (.cells #[.slice none 0 0] 79)).alloc (.cells #[.slice A n c] 22)).alloc (.cells #[.int .i64 (a:Int)] 3)) (.cells #[.int .i64 (z:Int),.int .i64 (ch:Int),.int .i64 m,.bool lz] 27)
   rw[World.size_alloc,World.size_alloc,World.size_alloc,←hb]at this
   rw[hu];exact this
  have HU:=Lib.hid hu;have HB:=Lib.hid hb;have HUS:=Lib.hid hus;have HUB:=Lib.hid hub;have BX0:=Lib.hid bx0;have BX1:=Lib.hid bx1;have BX2:=Lib.hid bx2;have BX3:=Lib.hid bx3
  clear hu hus hwu hub bx0 bx1 bx2 bx3 HR3 HR2 hb
  rw[←HU.out]
  simp only[Nat.add_assoc,Nat.reduceAdd]
  rw[←HB.out]
  refine wpIn_range_made (L:=V.length) rfl (by omega) (gf:=102) (lb:=#[.pointer (some ⟨b+2,0,none⟩),.pointer (some ⟨b+1,0,none⟩),.pointer (some ⟨b+3,0,none⟩)]) rfl trivial (enters_of Tryz.func102 (by kernel_rfl) rfl)
   (toks1_made _ (by omega) (b+1) (b+2) (b+3) w.heap.size (b+4) A n c a z ch m lz f (SCut w.heap.size b) ⟨.inr (by omega),.inr (by omega),.inr (by omega)⟩ (fun k hk=>.inl hk) (fun k hk=>by rcases hk with hk|hk<;>have:=HG.out<;>omega) (by omega) hn (by omega) (by omega) (by omega) V HV2.out u (by rw[HUS.out];exact Nat.le_refl _) BX1.out.cell BX2.out.cell BX3.out (HR.out.below HUB.out (Nat.le_refl _)) HUB.out.size)
   (fun h k=>h.tr k) ?keep (fun _=>rfl)
   (CutI w u b V) (CutI.own w u b V (by have:=HG.out;omega) HUS.out) ?start
   (CutB w u b V (cutF A n c a z ch m lz g b)) (fun a₁=>CutB.own w u b V _ (by have:=HG.out;omega) HUS.out a₁) ?assign ?body ?done
  case keep=>
   intro W l o o' hl ho hc _
   exact kpt_put (N:=u.heap.size) (fun k hk=>by rw[HUS.out];rcases hk with hk|hk<;>have:=HG.out<;>omega) W l o o' hl ho hc
  case start=>exact⟨HUB.out,KpB.refl _ _,Nat.le_refl _,none,0,BX0.out,World.ownsRow_nil _ _ _ _⟩
  case assign=>
   intro l j W K hI hj hK
   have hb:Below W.heap.size W (W.alloc (.cells #[.int .u8 ((V.getD j tok0).x:Int),.int .i64 (V.getD j tok0).d,.int .i64 (V.getD j tok0).n] 127)):=(Below.refl _ _).alloc (Nat.le_refl _) _
   have hn:(W.alloc (.cells #[.int .u8 ((V.getD j tok0).x:Int),.int .i64 (V.getD j tok0).d,.int .i64 (V.getD j tok0).n] 127)).heap[W.heap.size]?=some (.cells #[.int .u8 ((V.getD j tok0).x:Int),.int .i64 (V.getD j tok0).d,.int .i64 (V.getD j tok0).n] 127 (0,0)):=heap_alloc_new W _
   have hown:=(CutI.own w u b V (by have:=HG.out;omega) HUS.out).alloc (.cells #[.int .u8 ((V.getD j tok0).x:Int),.int .i64 (V.getD j tok0).d,.int .i64 (V.getD j tok0).n] 127) hI
   have hko:KeepsOthers W (W.alloc (.cells #[.int .u8 ((V.getD j tok0).x:Int),.int .i64 (V.getD j tok0).d,.int .i64 (V.getD j tok0).n] 127)):=KeepsOthers.alloc W _
   have hkt:KpT (SCut w.heap.size b) W (W.alloc (.cells #[.int .u8 ((V.getD j tok0).x:Int),.int .i64 (V.getD j tok0).d,.int .i64 (V.getD j tok0).n] 127)):=
    ⟨kpb_below hb hI.2.2.1 (fun k hk=>by rw[HUS.out];rcases hk with hk|hk<;>have:=HG.out<;>omega),fun k cs hk=>(hb.block k (Array.getElem?_eq_some_iff.1 hk).1).trans hk,hb.size⟩
   have hux:=hI.2.2.1
   obtain⟨t,ht⟩:∃t,t=V.getD j tok0:=⟨_,rfl⟩
   have hgoal:=hK (cutF A n c a z ch m lz g b W.heap.size (V.getD j tok0)) _ hko hkt ⟨W.heap.size,rfl,hux,hn,hown⟩
   simp only[encT,tokV]
   rw[←ht]at hgoal⊢
   obtain⟨tx,td,tn⟩:=t
   have HGOAL:=Lib.hid hgoal
   clear hgoal hK hko hkt hown hn hb hI ht hux
   gi_wp2
   exact HGOAL.out
  case body=>
   rintro l j a₁ W ⟨x,rfl,hx,hrow,h1,h2,h3,A1,c1,h5,h6⟩ hj
   have htk:V.take (j+1)=V.take j++[V.getD j tok0]:=by
    rw[List.take_succ_eq_append_getElem hj,List.getD_eq_getElem?_getD,List.getElem?_eq_getElem hj];rfl
   have hVl:V.length≤n-a:=by rw[HV2.out];exact(cut_reach lz (by omega) _ _ (by omega)).1
   obtain⟨t,ht⟩:∃t,t=V.getD j tok0:=⟨_,rfl⟩
   rw[←ht]at hrow htk⊢
   obtain⟨A',c',w3,hrun,hown3,hb3,hko3,hkk⟩:=run_oneT_g W (b+4) A1 j c1 _ h6 t (by omega) (by rw[←HUS.out];exact h3)
   obtain⟨tx,td,tn⟩:=t
   have htype:=own_type h6 hrow (by kernel_rfl)
   have hxs:=(Array.getElem?_eq_some_iff.1 hrow).1
   have hsz3:u.heap.size≤w3.heap.size:=by have:=hb3.size;omega
   have hfr:∀k,k<b+4→w3.heap[k]?=W.heap[k]?:=fun k hk=>hb3.block k hk
   have hbx:=(hfr b (by omega)).trans h5
   have cl:=h5.cell
   have cl3:=Boxed.cell hbx
   have fz3:=Boxed.frozen hbx
   have hgb2:g<b:=hgb
   have HROW:=Lib.hid hrow;have HRUN:=Lib.hid hrun;have HOWN:=Lib.hid hown3;have HB3:=Lib.hid hb3;have HKO:=Lib.hid hko3;have HKK:=Lib.hid hkk;have H1:=Lib.hid h1;have H2:=Lib.hid h2;have HTK:=Lib.hid htk;have HBX:=Lib.hid hbx;have H6:=Lib.hid h6;have HUS3:=Lib.hid hsz3
   have HTY:=Lib.hid htype;have HX:=Lib.hid hx;have HXS:=Lib.hid hxs
   clear hrow hrun hown3 hb3 hko3 hkk h1 h2 htk hbx h6 hfr htype ht hVl hsz3 hx hxs
   unfold cutF
   gi_wp2_with (first
    |(refine wpListIn_load_row rfl _ _ rfl x rfl _ #[.int .u8 (tx:Int),.int .i64 td,.int .i64 tn] (0,0) _ HROW.out Tryz.underlying127 rfl (sztokA _ _ _) ?_)
    |(gi_at_builtin;refine wpListIn_append_run rfl (.tmp 32) (.tmp 34) 79 rfl (.slice A1 j c1) (.slice (some ⟨W.heap.size,0,none⟩) 1 1) (.slice A' (j+1) c') w3 rfl rfl HRUN.out ?_))
   have hset:=Boxed.set (.slice A' (j+1) c') HBX.out
   obtain⟨Y,hY⟩:∃Y,Y=w3.setCell ⟨b,0,none⟩ (.slice A' (j+1) c'):=⟨_,rfl⟩
   have hYs:Y.heap.size=w3.heap.size:=by rw[hY];simp[World.setCell]
   have hYo:∀k,k≠b→Y.heap[k]?=w3.heap[k]?:=fun k hk=>by rw[hY];exact Below.heap_setCell w3 _ _ k (by show k≠b;exact hk)
   have hYk:KeepsOthers w3 Y:=by rw[hY];exact KeepsOthers.setCell _ _ _
   have hYb:Below w.heap.size w Y:=by rw[hY];exact(H1.out.trans (HB3.out.mono (by have:=HG.out;omega))).setCell (p:=⟨b,0,none⟩) (by show w.heap.size≤b;have:=HG.out;omega) _
   have hYown:=ownsRow_setCell_below HOWN.out (a:=⟨b,0,none⟩) (by show b<_;omega) (.slice A' (j+1) c')
   rw[←hY]at hset hYown⊢
   have hkp:KpB (SCut w.heap.size b) W Y:=fun k hS=>(hYo k (by have:=HG.out;rcases hS with hS|hS<;>omega)).trans (HB3.out.block k (by have:=HG.out;rcases hS with hS|hS<;>omega))
   refine⟨HKO.out.trans hYk,⟨hkp,fun k cs hk=>?_,by rw[hYs];exact HB3.out.size⟩,hYb,fun k hS=>(hkp k hS).trans (H2.out k hS),by rw[hYs];exact HUS3.out,A',c',hset,?_⟩
   ·have hkb:k≠b:=fun e=>by
     subst e
     have:=cl
     have h9:=HB3.out.block k (by omega)
     rw[HBX.out]at h9
     rw[hk]at h9
     injection h9 with h9
     injection h9 with _ h9 _
     exact absurd h9 (by decide)
    exact(hYo k hkb).trans ((HKK.out k (Array.getElem?_eq_some_iff.1 hk).1 (own_type H6.out hk (by kernel_rfl))).trans hk)
   ·rw[HTK.out];exact hYown
  case done=>
   rintro D W hD ⟨h1,h2,h3,A1,c1,h5,h6⟩ hK
   rw[List.take_length]at h6
   have cl:=h5.cell
   have H1:=Lib.hid h1;have H6:=Lib.hid h6;have HK:=Lib.hid hK
   clear h1 h2 h3 h5 h6 hK
   gi_wp2
   refine⟨by simp,.inl ⟨_,_,rfl,run_takeDeferred HK.out,?_⟩⟩
   refine⟨_,(by simp[results,Tryz.results64,go_sem]),A1,V.length,c1,rfl,?_,?_⟩
   ·have ho:=own_grown H6.out (grownBy_putObj' W D (.deferred none)) (fun r e=>by cases e;exact⟨_,HK.out,rfl⟩)
    exact TkR.of_own ho
   ·exact H1.out.grown (grownBy_putObj' W D _) H1.out.size (fun r e=>by cases e;rw[HUS.out]at hD;have:=HG.out;omega)
 ·have hV2:V=[]:=by rw[HV.out,if_neg hE0]
  subst hV2
  have hE:=HE.out
  have he1:=HE1.out
  clear HV HBX
  unfold cutE at hE
  unfold styE at he1
  by_cases q1:mayS s h m=false
  ·rw[if_pos q1]at hE
   rw[if_neg (by rw[q1];decide)]at he1
   subst hE;subst he1
   clear hE0 HE HE1
   go_enter Tryz.func64,Tryz.ntmps64
   go_wp2_with fail
   rw[←HW1.out,←HG.out]
   refine HST.out.mono ?_
   rintro e w2 ⟨rfl,hb2⟩
   have HB2:=Lib.hid (HB1.out.trans (hb2.mono HB1.out.size))
   clear hb2
   go_wp2
   go_ret2
   exact⟨none,0,0,rfl,TkR.nil _ _,HB2.out⟩
  rw[if_neg q1]at hE
  rw[if_pos (by simpa using q1)]at he1
  subst he1
  by_cases q2:131072<n
  ·rw[if_pos q2]at hE
   subst hE
   have d1:decide (131072<(n:Int))=true:=by simp;omega
   clear hE0 HE HE1
   go_enter Tryz.func64,Tryz.ntmps64
   go_wp2_with fail
   rw[←HW1.out,←HG.out]
   refine HST.out.mono ?_
   rintro e w2 ⟨rfl,hb2⟩
   have HB2:=Lib.hid (HB1.out.trans (hb2.mono HB1.out.size))
   clear hb2
   go_wp2
   go_ret2
   exact⟨none,0,0,rfl,TkR.nil _ _,HB2.out⟩
  rw[if_neg q2]at hE
  have d1:decide (131072<(n:Int))=false:=by simp;omega
  by_cases q3:a<0
  ·rw[if_neg (by omega)]at hE
   subst hE
   have d2:decide (a<0)=true:=by simp;omega
   clear hE0 HE HE1
   go_enter Tryz.func64,Tryz.ntmps64
   go_wp2_with fail
   rw[←HW1.out,←HG.out]
   refine HST.out.mono ?_
   rintro e w2 ⟨rfl,hb2⟩
   have HB2:=Lib.hid (HB1.out.trans (hb2.mono HB1.out.size))
   clear hb2
   go_wp2
   go_ret2
   exact⟨none,0,0,rfl,TkR.nil _ _,HB2.out⟩
  have d2:decide (a<0)=false:=by simp;omega
  by_cases q4:(n:Int)<a
  ·rw[if_neg (by omega)]at hE
   subst hE
   have d3:decide ((n:Int)<a)=true:=by simp;omega
   clear hE0 HE HE1
   go_enter Tryz.func64,Tryz.ntmps64
   go_wp2_with fail
   rw[←HW1.out,←HG.out]
   refine HST.out.mono ?_
   rintro e w2 ⟨rfl,hb2⟩
   have HB2:=Lib.hid (HB1.out.trans (hb2.mono HB1.out.size))
   clear hb2
   go_wp2
   go_ret2
   exact⟨none,0,0,rfl,TkR.nil _ _,HB2.out⟩
  ·rw[if_pos (by omega)]at hE
   exact absurd hE hE0
end Go.Proofs.YtokpcpjnihinfaaGreat
