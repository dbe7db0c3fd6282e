/-
  Words and walks.
-/
import Derived.Lib.SliceRun
import Derived.Great.BuildSlice
import Derived.Laws.Tables
import Derived.Maps.AppendAt
import Derived.Laws.Slices
import Derived.Handy
import Derived.WalkKit
import Derived.ProofKit
import Derived.Lib.Hide
import Derived.OpenShut
import Derived.Laws.BytesArg
import Derived.Deep.AppendLies
import Derived.Deep.QuietTactic
import Derived.BigQuiet
import Derived.Laws.CopyOwn
import Derived.StillTailTactics
import Derived.Laws.Rows
import Derived.BigRegion
import Derived.Deep.RegionLaw
import Derived.Lib.AppendZeros
import Derived.OneCell
import Derived.Deep.MidRow
import Derived.Deep.SlicePairs
import Derived.Lib.SmallJoins
import Derived.Test.YtcmpmighjglnpaaGreattaaa
import Derived.Test.YtcmpmighjglnpaaGreattaab
set_option maxRecDepth 100000
set_option maxHeartbeats 16000000
namespace Go.Proofs.YtcmpmighjglnpaaGreat
open Go.RowKit Go.ChangeShapes Go.WideShapes Go.ChangeAt Go.Joins
def cpyT(t:Tok):Bool:=t.n !=0||t.d !=0
theorem copies8_any(w:World)(t:Tok):Calls Tryz.prog 97 #[.agg #[.int .u8 (t.x:Int),.int .i64 t.d,.int .i64 t.n]] w fun e w'=>e=.returned (.bool (cpyT t))∧Below w.heap.size w w':=by
 obtain⟨x,d,n⟩:=t
 have HB:=Lib.hid ((Below.refl w.heap.size w).alloc (Nat.le_refl _) (.cells #[.int .u8 (x:Int),.int .i64 d,.int .i64 n] 125))
 by_cases h0:n=0
 ·subst h0
  have e:cpyT ⟨x,d,0⟩=(d !=0):=by simp[cpyT]
  rw[e]
  clear e
  go_enter Tryz.func97,Tryz.ntmps97
  go_wp2
  go_ret
  exact⟨rfl,HB.out⟩
 ·have e0:(n !=0)=true:=by simp[h0]
  have e:cpyT ⟨x,d,n⟩=true:=by simp[cpyT,h0]
  rw[e]
  clear e
  go_enter Tryz.func97,Tryz.ntmps97
  go_wp2
  go_ret
  exact⟨rfl,HB.out⟩
theorem tok8_any(w:World)(t:Tok)(_:TokIn t):Calls Tryz.prog 79 #[.agg #[.int .u8 (t.x:Int),.int .i64 t.d,.int .i64 t.n]] w fun e w'=>e=.returned (.int .i64 (tokE t))∧Below w.heap.size w w':=by
 obtain⟨x,d,n⟩:=t
 obtain⟨W1,hW1⟩:∃W1,W1=w.alloc (.cells #[.int .u8 (x:Int),.int .i64 d,.int .i64 n] 82):=⟨_,rfl⟩
 have HW1:=Lib.hid hW1
 have hb1:Below w.heap.size w W1:=by rw[hW1];exact(Below.refl _ _).alloc (Nat.le_refl _) _
 have hs1:W1.heap.size=w.heap.size+1:=by rw[hW1];simp
 have hrow:W1.heap[w.heap.size]?=some (.cells #[.int .u8 (x:Int),.int .i64 d,.int .i64 n] 82 (0,0)):=by rw[hW1];exact heap_alloc_new w _
 have HB1:=Lib.hid hb1;have HS1:=Lib.hid hs1;have HROW:=Lib.hid hrow
 have HM:=Lib.hid (copies8_any W1 ⟨x,d,n⟩)
 clear hW1 hb1 hs1 hrow
 obtain⟨E,hE⟩:∃E,E=tokE ⟨x,d,n⟩:=⟨_,rfl⟩
 rw[←hE]
 obtain⟨b,hb⟩:∃b,b=cpyT ⟨x,d,n⟩:=⟨_,rfl⟩
 rw[←hb]at HM
 have HE:=Lib.hid hE;have HBB:=Lib.hid hb
 clear hE hb
 go_enter Tryz.func79,Tryz.ntmps79
 go_wp2_with fail
 rw[←HW1.out]
 refine HM.out.mono ?_
 rintro e w2 ⟨rfl,hb2⟩
 have HB2:=Lib.hid (HB1.out.trans (hb2.mono HB1.out.size))
 have hr2:w2.heap[w.heap.size]?=some (.cells #[.int .u8 (x:Int),.int .i64 d,.int .i64 n] 82 (0,0)):=(hb2.block _ (by have:=HS1.out;omega)).trans HROW.out
 have x0:w2.cell? ⟨w.heap.size,0,none⟩=some (.int .u8 (x:Int)):=(cell_of_row w2 _ 0 _ _ (0,0) hr2).trans rfl
 have x1:w2.cell? ⟨w.heap.size,1,none⟩=some (.int .i64 d):=(cell_of_row w2 _ 1 _ _ (0,0) hr2).trans rfl
 have x2:w2.cell? ⟨w.heap.size,2,none⟩=some (.int .i64 n):=(cell_of_row w2 _ 2 _ _ (0,0) hr2).trans rfl
 clear hb2 hr2
 cases b with
 |false=>
  have hz:n=0∧d=0:=by have h:=HBB.out.symm;simp[cpyT]at h;exact h
  obtain rfl:E=0:=by rw[HE.out];unfold tokE;rw[if_pos];simp[mayT,hz.1,hz.2]
  go_wp2
  go_ret
  exact⟨rfl,HB2.out⟩
 |true=>
  have hz:¬(n=0∧d=0):=by have h:=HBB.out.symm;simp[cpyT]at h;omega
  have key:∀P:Prop,(mayT ⟨x,d,n⟩=true↔P)→(¬P→E=8)∧(P→E=0):=fun P hP=>⟨fun h=>by rw[HE.out];unfold tokE;rw[if_neg (fun g=>h (hP.1 g))],fun h=>by rw[HE.out];unfold tokE;rw[if_pos (hP.2 h)]⟩
  have hk:=key (¬n<3∧¬258<n∧¬d<1∧¬32768<d∧x=0) (by unfold mayT;simp only[decide_eq_true_eq];omega)
  clear key
  by_cases y0:n<3
  ·have d0:decide (n<3)=true:=by simp;omega
   obtain rfl:E=8:=hk.1 (by omega)
   clear hk
   go_wp2
   go_ret
   exact⟨rfl,HB2.out⟩
  have d0:decide (n<3)=false:=by simp;omega
  by_cases y1:258<n
  ·have d1:decide (258<n)=true:=by simp;omega
   obtain rfl:E=8:=hk.1 (by omega)
   clear hk
   go_wp2
   go_ret
   exact⟨rfl,HB2.out⟩
  have d1:decide (258<n)=false:=by simp;omega
  by_cases y2:d<1
  ·have d2:decide (d<1)=true:=by simp;omega
   obtain rfl:E=8:=hk.1 (by omega)
   clear hk
   go_wp2
   go_ret
   exact⟨rfl,HB2.out⟩
  have d2:decide (d<1)=false:=by simp;omega
  by_cases y3:32768<d
  ·have d3:decide (32768<d)=true:=by simp;omega
   obtain rfl:E=8:=hk.1 (by omega)
   clear hk
   go_wp2
   go_ret
   exact⟨rfl,HB2.out⟩
  have d3:decide (32768<d)=false:=by simp;omega
  by_cases y4:x=0
  ·subst y4
   have d4:(((0:Nat):Int) !=0)=false:=by decide
   obtain rfl:E=0:=hk.2 (by omega)
   clear hk
   go_wp2
   go_ret
   exact⟨rfl,HB2.out⟩
  ·have d4:((x:Int) !=0)=true:=by simp;omega
   obtain rfl:E=8:=hk.1 (by omega)
   clear hk
   go_wp2
   go_ret
   exact⟨rfl,HB2.out⟩
theorem clone8_any(w:World)(A:Option Addr)(n c:Nat)(f:Nat→Nat)(hr:ByR w w.heap.size A n c f)(hn:n≤2000000):
  Calls Tryz.prog 78 #[.slice A n c] w fun e w'=>∃A' c',e=.returned (.slice A' n c')∧w'.ownsRow w.heap.size 5 1 (.slice A' n c') n (bytesL n f)∧Below w.heap.size w w':=by
 rcases A with _|ad
 ·obtain rfl:=hr.2.1 rfl
  have h0:n=0:=by have:=hr.2.2.1;omega
  subst h0
  clear hr
  have q22:∀(w:World) (a:Option Addr) (n c n' c':Nat),(binOp .eql 22 (.slice a n c) (.slice none n' c')).run Tryz.prog w=.ok (.bool a.isNone) w:=fun w a n c n' c'=>Lib.run_eql_slice_nil w _ _ a n c n' c' Tryz.underlying22
  go_enter Tryz.func78,Tryz.ntmps78
  go_wp2
  go_ret
  exact⟨none,0,rfl,World.ownsRow_nil _ _ _ _,Below.refl _ _⟩
 ·have q22:∀(w:World) (a:Option Addr) (n c n' c':Nat),(binOp .eql 22 (.slice a n c) (.slice none n' c')).run Tryz.prog w=.ok (.bool a.isNone) w:=fun w a n c n' c'=>Lib.run_eql_slice_nil w _ _ a n c n' c' Tryz.underlying22
  have hb1:Below w.heap.size w (w.alloc (.cells #[] 5)):=(Below.refl _ _).alloc (Nat.le_refl _) _
  have hown:(w.alloc (.cells #[] 5)).ownsRow w.heap.size 5 1 (.slice (some ⟨w.heap.size,0,none⟩) 0 0) 0 (bytesL 0 f):=World.ownsRow_made w #[] 0 (Nat.le_refl _) (Nat.zero_le _) rfl
  obtain⟨A',c',w',h1,h2,h3⟩:=run_more _ w.heap.size (w.alloc (.cells #[] 5)).heap.size _ 0 f hown (some ad) n c f ((hr.1.below hb1 (Nat.le_refl _)).more hb1.size) (by omega) 22 (fun h=>by cases h) hb1.size
  rw[Nat.zero_add]at h1 h2
  have e:cat f 0 f=f:=by funext j;unfold cat;rw[if_neg (by omega)];rfl
  rw[e]at h2
  have HRUN:=Lib.hid h1;have HOWN:=Lib.hid h2;have HB:=Lib.hid (hb1.trans h3)
  clear h1 h2 h3 hown hb1 hr e
  go_enter Tryz.func78,Tryz.ntmps78
  go_wp2_with (at_builtin;refine wpList_append_run rfl (.tmp 5) (.tmp 6) 22 rfl (.slice (some ⟨w.heap.size,0,none⟩) 0 0) (.slice (some ad) n c) (.slice A' n c') w' rfl rfl HRUN.out ?_)
  go_ret
  exact⟨A',c',rfl,HOWN.out,HB.out⟩
theorem run_oneB_g(w:World)(base:Nat)(A:Option Addr)(n c:Nat)(F:Nat→Nat)(hown:w.ownsRow base 5 1 (.slice A n c) n (bytesL n F))(x:Nat)(hx:x=F n)(hn:n≤1000000000)(hbase:base≤w.heap.size):
  ∃A' c' w',(Builtin.append_ #[22,22] 22 #[.slice A n c,.slice (some ⟨w.heap.size,0,none⟩) 1 1]).run Tryz.prog (w.alloc (.cells #[.int .u8 (x:Int)] 5))=.ok (.slice A' (n+1) c') w'∧
   w'.ownsRow base 5 1 (.slice A' (n+1) c') (n+1) (bytesL (n+1) F)∧Below base w w'∧(∀k,k<w.heap.size→(Value.slice A n c).ownBlock≠some k→w'.heap[k]?=w.heap[k]?):=by
 subst hx
 have hb1:Below base w (w.alloc (.cells #[.int .u8 (F n:Int)] 5)):=(Below.refl base w).alloc hbase _
 have ho1:=hown.alloc (.cells #[.int .u8 (F n:Int)] 5)
 obtain⟨A',c',w',h2,o2,b2⟩:=run_app_g (z:=.int .u8 0) (by_:=1) Tryz.underlying22 infoU8 rfl (by decide) (w.alloc (.cells #[.int .u8 (F n:Int)] 5)) base _ (.slice A n c) n _ ho1 _ 1 1 _
  (SrcL.new w 1 1 #[.int .u8 (F n:Int)] 5 rfl) (fun u hu=>by simp at hu;subst hu;rfl) (by unfold maxLen;omega) (by omega) 22 (fun h=>by cases h) (Nat.le_trans hbase hb1.size)
 refine⟨A',c',w',h2,?_,hb1.trans ((Below.refl base _).grown b2 (Nat.le_trans hbase hb1.size) (own_geS ho1)),fun k hk hne=>?_⟩
 ·have e:bytesL n F++(#[Value.int .u8 (F n:Int)]:Array Value).toList=bytesL (n+1) F:=by
   unfold bytesL;rw[List.range_succ,List.map_append];rfl
  rw[e]at o2
  exact o2
 ·refine(b2.block k (by simp;omega) (fun e=>hne e.symm)).trans ?_
  exact(Below.refl w.heap.size w).alloc (Nat.le_refl _) (.cells #[.int .u8 (F n:Int)] 5)|>.block k hk
theorem own_type{w:World}{base sz n h:Nat}{e t:TypeId}{v:Value}{xs:List Value}{cs:Array Value}(ho:w.ownsRow base e sz v n xs)(hh:w.heap[h]?=some (.cells cs t (0,0)))(hne:(e==t)=false):v.ownBlock≠some h:=fun hk=>by
 rcases ho.2 with⟨rfl,_⟩|⟨g,cap,cur,rfl,_,hg,_⟩
 ·simp[Value.ownBlock]at hk
 ·simp[Value.ownBlock]at hk
  subst hk
  rw[hg]at hh
  injection hh with hh
  injection hh with _ h2 _
  rw[h2]at hne;simp at hne
theorem tokA_one(t:Tok):(tokC t).toArray.all (·.oneCell')=true:=by simp[tokC,Value.oneCell']
theorem szTokA(t:Tok):(Tryz.prog.info? 82).map (·.size)=some (tokC t).toArray.size:=szTok
theorem cop_next{q d k:Nat}{L:List Nat}(hq:q=L.length)(hd:1≤d)(hdq:d≤q):lst (L++copL L d k) (q+k-d)=lst (L++copL L d (k+1)) (q+k):=by
 subst hq
 have h1:=cop_ahead (n:=L.length) (d:=d) (i:=k) (f:=lst L) hd hdq
 have g:∀m j,j<m→lst (L++copL L d m) (L.length+j)=copF L.length (lst L) d j:=fun m j hj=>by
  unfold lst copL
  rw[List.getD_eq_getElem?_getD,List.getElem?_append_right (by omega),Nat.add_sub_cancel_left]
  simp[hj]
  unfold copF
  rfl
 rw[g (k+1) k (by omega),h1]
 unfold cat
 by_cases h:L.length+k-d<L.length
 ·rw[if_pos h]
  unfold lst
  rw[List.getD_eq_getElem?_getD,List.getD_eq_getElem?_getD,List.getElem?_append_left h]
 ·rw[if_neg h]
  have h2:=g k (L.length+k-d-L.length) (by omega)
  rw[show L.length+(L.length+k-d-L.length)=L.length+k-d by omega]at h2
  exact h2
theorem copL_ext{q d k:Nat}{L:List Nat}(hq:q=L.length):bytesL (q+k) (lst (L++copL L d k))=bytesL (q+k) (lst (L++copL L d (k+1))):=by
 subst hq
 refine bytesL_ext fun j hj=>?_
 unfold lst copL
 rw[List.getD_eq_getElem?_getD,List.getD_eq_getElem?_getD]
 rcases Nat.lt_or_ge j L.length with h|h
 ·rw[List.getElem?_append_left h,List.getElem?_append_left h]
 ·rw[List.getElem?_append_right h,List.getElem?_append_right h]
  have h2:j-L.length<k:=by omega
  have h3:j-L.length<k+1:=by omega
  simp[h2,h3]
theorem behind8_any(w:World)(base:Nat)(t:Tok)(At:Option Addr)(ct q:Nat)(L:List Nat)(hq:q=L.length)(hL:∀x∈L,x<256)(hx:t.x<256)(hown:w.ownsRow base 5 1 (.slice At q ct) q (bytesL q (lst L)))(hbase:base≤w.heap.size)(hqb:q≤1000000)
  (hm:mayT t=true) (hd:t.d≤(q:Int)):
  Calls Tryz.prog 80 #[.agg #[.int .u8 (t.x:Int),.int .i64 t.d,.int .i64 t.n],.slice At q ct] w fun e w'=>∃A' q' c',e=.returned (.slice A' q' c')∧q'=(stpT L t).length∧w'.ownsRow base 5 1 (.slice A' q' c') q' (bytesL q' (lst (stpT L t)))∧Below base w w':=by
 obtain⟨x,d,n⟩:=t
 obtain⟨W1,hW1⟩:∃W1,W1=w.alloc (.cells #[.int .u8 (x:Int),.int .i64 d,.int .i64 n] 125):=⟨_,rfl⟩
 have HW1:=Lib.hid hW1
 have hb1:Below w.heap.size w W1:=by rw[hW1];exact(Below.refl _ _).alloc (Nat.le_refl _) _
 have hs1:W1.heap.size=w.heap.size+1:=by rw[hW1];simp
 have hrow:W1.heap[w.heap.size]?=some (.cells #[.int .u8 (x:Int),.int .i64 d,.int .i64 n] 125 (0,0)):=by rw[hW1];exact heap_alloc_new w _
 have HB1:=Lib.hid hb1;have HS1:=Lib.hid hs1;have HROW:=Lib.hid hrow
 have HM:=Lib.hid (copies8_any W1 ⟨x,d,n⟩)
 have HL:=Lib.hid hL;have HQ:=Lib.hid hq
 have hown1:=own_keep hown hb1
 have HO1:=Lib.hid hown1
 obtain⟨h,hh⟩:∃h,h=w.heap.size:=⟨_,rfl⟩
 have HH:=Lib.hid hh
 have hbh:base≤h:=by omega
 clear hW1 hb1 hs1 hrow hown hown1 hL hq hh
 obtain⟨b,hb⟩:∃b,b=cpyT ⟨x,d,n⟩:=⟨_,rfl⟩
 rw[←hb]at HM
 have hz:b=false↔n=0:=by
  rw[hb];simp only[cpyT,Bool.or_eq_false_iff,bne_eq_false_iff_eq]
  have:=mayT_is hm;simp at this;omega
 have HZ:=Lib.hid hz;have HMT:=Lib.hid hm
 clear hz hb hm
 go_enter Tryz.func80,Tryz.ntmps80
 go_wp2_with fail
 rw[←HW1.out,←HH.out]
 refine HM.out.mono ?_
 rintro e w2 ⟨rfl,hb2⟩
 have hb02:=HB1.out.trans (hb2.mono HB1.out.size)
 have HB2:=Lib.hid (show Below base w w2 from hb02.mono (by rw[←HH.out];exact hbh))
 have hr2:w2.heap[h]?=some (.cells #[.int .u8 (x:Int),.int .i64 d,.int .i64 n] 125 (0,0)):=by rw[HH.out];exact(hb2.block _ (by have:=HS1.out;omega)).trans HROW.out
 have HO2:=Lib.hid (own_keep HO1.out hb2)
 have hs2:h<w2.heap.size:=by have:=hb2.size;have:=HS1.out;have:=HH.out;omega
 have HR2:=Lib.hid hr2
 have x0:w2.cell? ⟨h,0,none⟩=some (.int .u8 (x:Int)):=(cell_of_row w2 _ 0 _ _ (0,0) hr2).trans rfl
 have x2:w2.cell? ⟨h,2,none⟩=some (.int .i64 n):=(cell_of_row w2 _ 2 _ _ (0,0) hr2).trans rfl
 clear hb2 hr2 hb02 HM HROW HB1 HW1 HO1
 cases b with
 |false=>
  obtain rfl:n=0:=HZ.out.1 rfl
  obtain⟨q1,q2⟩:=lst_one L x
  have hstp:stpT L ⟨x,d,0⟩=L++[x]:=by unfold stpT;rw[if_pos rfl]
  have hL2:∀y∈L++[x],y<256:=by rw[←hstp];exact stp_lt HL.out hx
  rw[←HQ.out]at q1 q2
  obtain⟨A',c',w',hr2,ho2,hb3⟩:=run_oneB w2 base At q ct (lst (L++[x])) (lst_lt hL2) (by rw[←q1];exact HO2.out) x q2.symm (by omega) (by omega)
  have hq1:q+1=(stpT L ⟨x,d,0⟩).length:=by rw[hstp,List.length_append,←HQ.out];rfl
  rw[←hstp]at ho2
  have HRUN:=Lib.hid hr2;have HO3:=Lib.hid ho2;have HB3:=Lib.hid (HB2.out.trans hb3);have HQ1:=Lib.hid hq1
  clear hr2 ho2 hb3 hq1 hL2 q1 q2 hstp
  go_wp2_with (at_builtin;refine wpList_append_run rfl (.tmp 8) (.tmp 11) 22 rfl (.slice At q ct) (.slice (some ⟨w2.heap.size,0,none⟩) 1 1) (.slice A' (q+1) c') w' rfl rfl HRUN.out ?_)
  go_ret
  exact⟨A',q+1,c',rfl,HQ1.out,HO3.out,HB3.out⟩
 |true=>
  have hn0:n≠0:=fun e=>by have:=HZ.out.2 e;cases this
  have hmt:x=0∧3≤n∧n≤258∧1≤d∧d≤32768:=by
   have:=mayT_is HMT.out;simp at this;omega
  obtain⟨N,hN⟩:∃N:Nat,(N:Int)=n:=⟨n.toNat,Int.toNat_of_nonneg (by omega)⟩
  obtain⟨D,hD⟩:∃D:Nat,(D:Int)=d:=⟨d.toNat,Int.toNat_of_nonneg (by omega)⟩
  subst hN;subst hD
  have hN1:3≤N∧N≤258:=by omega
  have hD1:1≤D∧D≤32768∧D≤q:=by simp at hd;omega
  have hstp:stpT L ⟨x,(D:Int),(N:Int)⟩=L++copL L D N:=by unfold stpT;rw[if_neg (by simpa using hn0)];rfl
  have HSTP:=Lib.hid hstp
  have hlt6:∀k,∀j,lst (L++copL L D k) j<256:=fun k=>lst_lt fun y hy=>by
   rw[List.mem_append]at hy
   rcases hy with hy|hy
   ·exact HL.out y hy
   ·unfold copL at hy;rw[List.mem_map]at hy;obtain⟨i,_,rfl⟩:=hy;exact lst_lt HL.out _
  have HLT:=Lib.hid hlt6
  have ho0:w2.ownsRow base 5 1 (.slice At q ct) q (bytesL q (lst (L++copL L D 0))):=by
   have e:L++copL L D 0=L:=by simp[copL]
   rw[e];exact HO2.out
  have HO0:=Lib.hid ho0
  clear hstp hlt6 ho0 hmt hn0 hd HO2
  go_wp2
  go_loopw [1,15] (fun bv iv wr=>∃(i p:Nat) (Ai:Option Addr) (ci:Nat),i≤N∧p=q+i∧bv=.slice Ai p ci∧iv=.int .i64 (i:Int)∧Hid (wr.ownsRow base 5 1 (.slice Ai p ci) p (bytesL p (lst (L++copL L D i))))∧Hid (Below base w wr)∧Hid (wr.heap[h]?=some (.cells #[.int .u8 (x:Int),.int .i64 (D:Int),.int .i64 (N:Int)] 125 (0,0)))) (fun _ iv _=>N-(intOf iv).toNat)
  case atStart=>exact⟨0,q,At,ct,Nat.zero_le _,rfl,rfl,rfl,HO0,HB2,HR2⟩
  case round=>
   obtain⟨i,p,Ai,ci,hi,hp,rfl,rfl,HO,HB,HRW⟩:=hrel
   by_cases hlt:i<N
   ·have hlti:(i:Int)<(N:Int):=by omega
    have hby:=ByR.of_own HO.out (HLT.out i)
    obtain⟨bb,o,rfl,hbl,hc⟩:=hby.1.2 (by omega)
    have z1:wr.cell? ⟨h,1,none⟩=some (.int .i64 (D:Int)):=(cell_of_row wr _ 1 _ _ (0,0) HRW.out).trans rfl
    obtain⟨r,hr⟩:∃r,r=p-D:=⟨_,rfl⟩
    have er:(p:Int)-(D:Int)=(r:Int):=by omega
    have z2:=hc r (by omega)
    have hnx:=cop_next (k:=i) HQ.out hD1.1 hD1.2.2
    rw[show q+i-D=r by omega,←hp]at hnx
    rw[hnx]at z2
    have hex:=copL_ext (d:=D) (k:=i) HQ.out
    rw[←hp]at hex
    obtain⟨A',c',w',hr2,ho2,hb3,hkk⟩:=run_oneB_g wr base (some ⟨bb,o,none⟩) p ci (lst (L++copL L D (i+1))) (by rw[←hex];exact HO.out) _ rfl (by omega) (by have:=(Array.getElem?_eq_some_iff.1 HRW.out).1;omega)
    obtain⟨u,hu⟩:∃u,u=lst (L++copL L D (i+1)) p:=⟨_,rfl⟩
    rw[←hu]at z2 hr2
    have hrp:r<p:=by omega
    have hri:(r:Int)<(p:Int):=by omega
    have hr0:(0:Int)≤(r:Int):=by omega
    have hpb:p≤2000000:=by omega
    have HRUN:=Lib.hid hr2;have HO3:=Lib.hid ho2;have HB3:=Lib.hid (HB.out.trans hb3)
    have hq1:p+1=q+(i+1):=by omega
    have HQ1:=Lib.hid hq1
    have HRW2:Hid (w'.heap[h]?=some (.cells #[.int .u8 (x:Int),.int .i64 (D:Int),.int .i64 (N:Int)] 125 (0,0))):=Lib.hid ((hkk h (Array.getElem?_eq_some_iff.1 HRW.out).1 (own_type HO.out HRW.out (by kernel_rfl))).trans HRW.out)
    clear hr2 ho2 hb3 hc hby hnx hex hu hr hp hq1 hkk
    go_wp2_with (at_builtin;refine wpList_append_run rfl (.tmp 17) (.tmp 26) 22 rfl (.slice (some ⟨bb,o,none⟩) p ci) (.slice (some ⟨wr.heap.size,0,none⟩) 1 1) (.slice A' (p+1) c') w' rfl rfl HRUN.out ?_)
    go_roundw
    case rel=>exact⟨i+1,p+1,A',c',by omega,HQ1.out,rfl,by go_num,HO3,HB3,HRW2⟩
    case measure=>simp[intOf];omega
   ·obtain rfl:i=N:=by omega
    have hlti:¬(i:Int)<(i:Int):=by omega
    have hfin:p=(stpT L ⟨x,(D:Int),(i:Int)⟩).length:=by rw[HSTP.out,List.length_append,←HQ.out,hp];simp[copL]
    have hown3:wr.ownsRow base 5 1 (.slice Ai p ci) p (bytesL p (lst (stpT L ⟨x,(D:Int),(i:Int)⟩))):=by rw[HSTP.out];exact HO.out
    subst hp
    have HFIN:=Lib.hid hfin;have HO3:=Lib.hid hown3
    clear hfin hown3
    go_wp2
    go_ret
    exact⟨Ai,q+i,ci,rfl,HFIN.out,HO3.out,HB.out⟩
end Go.Proofs.YtcmpmighjglnpaaGreat
namespace Go.Proofs.YtcmpmighjglnpaaGreat
open Go.RowKit
theorem intoW_any(w:World)(S:Nat)(hS1:1≤S)(hS:S≤32768)(A:Option Addr)(n c:Nat)(f:Nat→Nat)(hr:ByR w w.heap.size A n c f)(hn:n≤S)(A2:Option Addr)(m c2:Nat)(g:Nat→Nat)(hg:ByR w w.heap.size A2 m c2 g)(_hm:m≤1000000)(l:Nat)(hl:l=inSN S n m):
  Calls Tryz.prog 85 #[.agg #[.int .i64 (S:Int),.slice A n c],.slice A2 m c2] w fun e w'=>∃A',e=.returned (.agg #[.int .i64 (S:Int),.slice A' l l])∧ByR w' w'.heap.size A' l l (inF S n f m g)∧Below w.heap.size w w'∧NewB w' w.heap.size A' l:=by
 have hb0:=((Below.refl w.heap.size w).alloc (Nat.le_refl _) (.cells #[.int .i64 (S:Int),.slice A n c] 30)).alloc (by simp) (.cells #[.int .i64 0,.slice none 0 0] 30)
 obtain⟨W1,hW1⟩:∃W1,W1=(w.alloc (.cells #[.int .i64 (S:Int),.slice A n c] 30)).alloc (.cells #[.int .i64 0,.slice none 0 0] 30):=⟨_,rfl⟩
 have hsz:W1.heap.size=w.heap.size+2:=by rw[hW1];simp
 rw[←hW1]at hb0
 have p1:W1.heap[w.heap.size]?=some (.cells #[.int .i64 (S:Int),.slice A n c] 30 (0,0)):=by
  rw[hW1,heap_alloc_old _ _ (by simp)];exact heap_alloc_new w _
 have p2:W1.heap[w.heap.size+1]?=some (.cells #[.int .i64 0,.slice none 0 0] 30 (0,0)):=by
  rw[hW1];have:=heap_alloc_new (w.alloc (.cells #[.int .i64 (S:Int),.slice A n c] 30)) (.cells #[.int .i64 0,.slice none 0 0] 30);simpa using this
 have HR:=Lib.hid ((hr.below hb0 (Nat.le_refl _)).more hb0.size);have HG:=Lib.hid ((hg.below hb0 (Nat.le_refl _)).more hb0.size);have HB0:=Lib.hid hb0;have HW1:=Lib.hid hW1;have HP1:=Lib.hid p1;have HP2:=Lib.hid p2;have HL:=Lib.hid hl
 have a1:W1.cell? ⟨w.heap.size,0,none⟩=some (.int .i64 (S:Int)):=(cell_of_row W1 _ 0 _ _ (0,0) p1).trans rfl
 have a2:W1.cell? ⟨w.heap.size,1,none⟩=some (.slice A n c):=(cell_of_row W1 _ 1 _ _ (0,0) p1).trans rfl
 have hwz:w.heap.size<W1.heap.size:=by omega
 have HSZ:=Lib.hid hsz
 clear hr hg hb0 hW1 p1 p2 hl hsz
 go_enter Tryz.func85,Tryz.ntmps85
 go_wp2_with fail
 rw[←HW1.out]
 go_wp2_with fail
 refine(last_any W1 A2 m c2 g HG.out S (by omega)).mono ?_
 rintro e w' ⟨A3,c3,rfl,rfl,h3⟩
 have H3:=Lib.hid h3
 clear h3
 obtain⟨m',hm'⟩:∃m',m'=m-(m-S):=⟨_,rfl⟩
 rw[←hm']at H3⊢
 have HM:=Lib.hid hm'
 obtain⟨t,ht⟩:∃t,t=S-m':=⟨_,rfl⟩
 have et:(S:Int)-(m':Int)=(t:Int):=by omega
 have HT:=Lib.hid ht
 have hm2:m'≤S:=by omega
 clear hm' ht
 go_wp2_with fail
 refine(last_any W1 A n c f HR.out t (by omega)).mono ?_
 rintro e w' ⟨A4,c4,rfl,rfl,h4⟩
 have H4:=Lib.hid h4
 clear h4
 obtain⟨n',hn'⟩:∃n',n'=n-(n-t):=⟨_,rfl⟩
 rw[←hn']at H4⊢
 have HN:=Lib.hid hn'
 clear hn'
 obtain⟨W2,hW2⟩:∃W2,W2=W1.alloc (.cells #[.slice A4 n' c4,.slice A3 m' c3] 22):=⟨_,rfl⟩
 have hb2:Below W1.heap.size W1 W2:=by rw[hW2];exact(Below.refl _ _).alloc (Nat.le_refl _) _
 have q2:W2.heap[W1.heap.size]?=some (.cells #[.slice A4 n' c4,.slice A3 m' c3] 22 (0,0)):=by rw[hW2];exact heap_alloc_new W1 _
 have hsz2:W2.heap.size=w.heap.size+3:=by rw[hW2];simp[HSZ.out]
 have hff:∀i j,two (fun j=>f (j+(n-t))) (fun j=>g (j+(m-S))) i j<256:=by
  intro i j
  cases i with
  |zero=>exact H4.out.1.1 j
  |succ i=>exact H3.out.1.1 j
 have hrows:RowsB W2 W2.heap.size (some ⟨W1.heap.size,0,none⟩) 2 (two n' m') (two (fun j=>f (j+(n-t))) (fun j=>g (j+(m-S)))):=by
  refine fun _=>⟨W1.heap.size,0,rfl,by have:=HSZ.out;omega,fun i hi=>?_⟩
  have e:i=0∨i=1:=by omega
  rcases e with rfl|rfl
  ·exact⟨A4,c4,(cell_of_row W2 _ 0 _ _ (0,0) q2).trans rfl,(H4.out.1.below hb2 (Nat.le_refl _)).more hb2.size,H4.out.2.1⟩
  ·exact⟨A3,c3,(cell_of_row W2 _ 1 _ _ (0,0) q2).trans rfl,(H3.out.1.below hb2 (Nat.le_refl _)).more hb2.size,H3.out.2.1⟩
 have hsum:sumU (two n' m') 2=l:=by rw[HL.out,HN.out,HT.out,HM.out];exact in_sum hn
 have hl3:l≤32768:=by rw[HL.out];exact Nat.le_trans (inN_le S n m) hS
 have hcn:=concatu_any W2 (some ⟨W1.heap.size,0,none⟩) 2 2 (two n' m') _ hff hrows (by omega) (by rw[hsum];omega)
 rw[hsum]at hcn
 have hwz2:w.heap.size<W2.heap.size:=by omega
 have hwz3:w.heap.size+1<W2.heap.size:=by omega
 have HSZ2:=Lib.hid hsz2
 have HFF:=Lib.hid hff;have HCN:=Lib.hid hcn;have HW2:=Lib.hid hW2;have HB2:=Lib.hid (HB0.out.trans (hb2.mono (by have:=HSZ.out;omega)))
 have hP1:W2.heap[w.heap.size]?=_:=(hb2.block w.heap.size (by omega)).trans HP1.out
 have hP2:W2.heap[w.heap.size+1]?=_:=(hb2.block (w.heap.size+1) (by have:=HSZ.out;omega)).trans HP2.out
 have HQ1:=Lib.hid hP1;have HQ2:=Lib.hid hP2
 clear hff hrows hsum hcn hW2 q2 hP1 hP2 hb2 hsz2
 go_wp2_with fail
 rw[←HW2.out]
 refine HCN.out.mono ?_
 rintro e w3 ⟨A5,c5,rfl,o5,hb5⟩
 have h5:=ByR.of_own o5 (catU_lt HFF.out 2)
 have hge:∀b,A5.map (·.block)=some b→W2.heap.size≤b:=fun b hb=>by
  rcases o5.2 with⟨hv,_⟩|⟨g',cap,cur,hv,hg',hh,_⟩
  ·injection hv with h1;rw[h1]at hb;cases hb
  ·injection hv with h1;rw[h1]at hb;injection hb with hb;have hb':g'=b:=hb;omega
 have hnew:NewB w3 W2.heap.size A5 l:=fun h0=>by
  rcases o5.2 with⟨hv,h9⟩|⟨g',cap,cur,hv,hg',hh,_⟩
  ·injection hv with h1 h2;omega
  ·injection hv with h1;exact⟨g',0,cur,h1,hg',hh⟩
 have hp1:=(hb5.block w.heap.size hwz2).trans HQ1.out
 have hp2:=(hb5.block (w.heap.size+1) hwz3).trans HQ2.out
 have b1:w3.cell? ⟨w.heap.size,0,none⟩=some (.int .i64 (S:Int)):=(cell_of_row w3 _ 0 _ _ (0,0) hp1).trans rfl
 have d1:w3.cell? ⟨w.heap.size+1,0,none⟩=some (.int .i64 0):=(cell_of_row w3 _ 0 _ _ (0,0) hp2).trans rfl
 have d2:w3.cell? ⟨w.heap.size+1,1,none⟩=some (.slice none 0 0):=(cell_of_row w3 _ 1 _ _ (0,0) hp2).trans rfl
 have f1:w3.frozen? ⟨w.heap.size+1,0,none⟩=false:=frozen_of_row w3 _ 0 _ _ hp2
 have f2:w3.frozen? ⟨w.heap.size+1,1,none⟩=false:=frozen_of_row w3 _ 1 _ _ hp2
 have hlc:=h5.2.2.1
 have hcm:=h5.2.2.2
 unfold maxLen at hcm
 have hfin:ByR w3 w3.heap.size A5 l l (inF S n f m g):=by
  refine(h5.cut l (Nat.le_refl _) hlc).ext (inF_lt HR.out.1.1 HG.out.1.1) fun j hj=>?_
  rw[HL.out]at hj
  rw[←in_cat hn hj,HN.out,HT.out,HM.out]
 have HF:=Lib.hid hfin;have HB5:=Lib.hid (HB2.out.trans (hb5.mono (by have:=HSZ2.out;omega)));have HGE:=Lib.hid hge;have HNEW:=Lib.hid hnew
 clear h5 hb5 hge hnew o5 hp1 hp2 hfin a1 a2
 have e1:((w3.setCell ⟨w.heap.size+1,0,none⟩ (.int .i64 (S:Int))).setCell ⟨w.heap.size+1,1,none⟩ (.slice A5 l l)).cell? ⟨w.heap.size+1,0,none⟩=some (.int .i64 (S:Int)):=(World.cell?_setCell_other _ _ _ _ (by simp)).trans (World.cell?_setCell_same _ _ _ d1)
 have e2:((w3.setCell ⟨w.heap.size+1,0,none⟩ (.int .i64 (S:Int))).setCell ⟨w.heap.size+1,1,none⟩ (.slice A5 l l)).cell? ⟨w.heap.size+1,1,none⟩=some (.slice A5 l l):=World.cell?_setCell_same _ _ _ ((World.cell?_setCell_other _ _ _ _ (by simp)).trans d2)
 go_wp2
 go_region
 go_wp2
 refine bodyPost_ret (v:=.agg #[.int .i64 (S:Int),.slice A5 l l]) (by simp[results,Tryz.results85,go_sem,e1,e2]) rfl ⟨A5,rfl,?_,?_,fun h0=>?_⟩
 ·have hlt:=HSZ2.out
  exact(((HF.out.other ⟨w.heap.size+1,0,none⟩ (.int .i64 (S:Int)) (fun b hb=>by have:=HGE.out b hb;show b≠w.heap.size+1;omega)).other ⟨w.heap.size+1,1,none⟩ (.slice A5 l l) (fun b hb=>by have:=HGE.out b hb;show b≠w.heap.size+1;omega)).drew).more (by simp)
 ·exact((HB5.out.setCell (p:=⟨w.heap.size+1,0,none⟩) (Nat.le_succ _) _).setCell (p:=⟨w.heap.size+1,1,none⟩) (Nat.le_succ _) _).drew
 ·obtain⟨g',o,cur,k1,k2,k3⟩:=HNEW.out h0
  have hlt:=HSZ2.out
  refine⟨g',o,cur,k1,by omega,?_⟩
  have q1:=Below.heap_setCell (w3.setCell ⟨w.heap.size+1,0,none⟩ (.int .i64 (S:Int))) ⟨w.heap.size+1,1,none⟩ (.slice A5 l l) g' (by show g'≠w.heap.size+1;omega)
  have q2:=Below.heap_setCell w3 ⟨w.heap.size+1,0,none⟩ (.int .i64 (S:Int)) g' (by show g'≠w.heap.size+1;omega)
  exact(q1.trans q2).trans k3
def PushW(S:Int)(n:Nat)(f:Nat→Nat)(m:Nat)(g:Nat→Nat)(B:Nat)(e:Ending)(w':World):Prop:=
 ∃S' A' l' c' F',e=.returned (.tuple #[.agg #[.int .i64 S',.slice A' l' c'],.int .i64 (pushE S n m)])∧ByR w' w'.heap.size A' l' c' F'∧NewB w' B A' l'∧if pushE S n m=0 then S'=S∧l'=inSN S.toNat n m∧F'=inF S.toNat n f m g else S'=0∧l'=0
theorem NewB.set2W{w:World}{B B' l X:Nat}{A:Option Addr}{p q:Value}(h:NewB w B A l)(hX:X<B)(hB:B'≤B):NewB ((w.setCell ⟨X,0,none⟩ p).setCell ⟨X,1,none⟩ q) B' A l:=fun h0=>by
 obtain⟨g',o,cur,k1,k2,k3⟩:=h h0
 refine⟨g',o,cur,k1,by omega,?_⟩
 have q1:=Below.heap_setCell (w.setCell ⟨X,0,none⟩ p) ⟨X,1,none⟩ q g' (by show g'≠X;omega)
 have q2:=Below.heap_setCell w ⟨X,0,none⟩ p g' (by show g'≠X;omega)
 exact(q1.trans q2).trans k3
theorem ByR.set2W{w:World}{B B' l c X:Nat}{A:Option Addr}{f:Nat→Nat}{p q:Value}(h:ByR w B A l c f)(hn:NewB w B' A l)(hX:X<B'):ByR ((w.setCell ⟨X,0,none⟩ p).setCell ⟨X,1,none⟩ q) B A l c f:=by
 rcases Nat.eq_zero_or_pos l with h0|h0
 ·exact⟨⟨h.1.1,fun h1=>absurd h0 (by omega)⟩,h.2⟩
 ·obtain⟨g',o,cur,k1,k2,k3⟩:=hn h0
  exact h.set2 p q fun b hb=>by rw[k1]at hb;injection hb with hb;have hb':g'=b:=hb;omega
theorem spushW_any(w:World)(S:Int)(A:Option Addr)(n c:Nat)(f:Nat→Nat)(hr:ByR w w.heap.size A n c f)(h1: -9223372036854775808≤S)(h2:S≤9223372036854775807)(A2:Option Addr)(m c2:Nat)(g:Nat→Nat)(hg:ByR w w.heap.size A2 m c2 g):
  Calls Tryz.prog 64 #[.agg #[.int .i64 S,.slice A n c],.slice A2 m c2] w fun e w'=>PushW S n f m g w.heap.size e w'∧Below w.heap.size w w':=by
 obtain⟨W1,hW1⟩:∃W1,W1=(w.alloc (.cells #[.int .i64 S,.slice A n c] 30)).alloc (.cells #[.int .i64 0,.slice none 0 0] 30):=⟨_,rfl⟩
 obtain⟨a1,a2,a3,a4,a5,a6,hb1,hsz,hs2⟩:=win_blocks hW1 (Below.refl W1.heap.size W1)
 have hck:=schk_any W1 S A n c h1 h2
 have HR:=Lib.hid ((hr.below hb1 (Nat.le_refl _)).more hb1.size);have HG:=Lib.hid ((hg.below hb1 (Nat.le_refl _)).more hb1.size)
 have HW1:=Lib.hid hW1;have HCK:=Lib.hid hck
 clear hr hg hW1 hb1 hs2 hck a3 a4 a5 a6
 go_enter Tryz.func64,Tryz.ntmps64
 go_wp2_with fail
 rw[←HW1.out]
 go_wp2_with fail
 refine HCK.out.mono ?_
 rintro e w2 ⟨rfl,hb2⟩
 have HR2:=Lib.hid ((HR.out.below hb2 (Nat.le_refl _)).more hb2.size);have HG2:=Lib.hid ((HG.out.below hb2 (Nat.le_refl _)).more hb2.size)
 obtain⟨a1,a2,a3,a4,a5,a6,hb1,hsz2,hs2⟩:=win_blocks HW1.out hb2
 have HB1:=Lib.hid hb1
 clear hb2 hb1 hs2 HR HG HCK
 rcases winE_cases S n with⟨he,hS1,hS2,hnS⟩|he
 ·have hpe:=pushE_eq (m:=m) he
  rw[if_pos rfl]at hpe
  rw[he]
  obtain⟨s,rfl⟩:=Int.eq_ofNat_of_zero_le (show 0≤S by omega)
  by_cases hm:131072<m
  ·rw[if_pos hm]at hpe
   have HPE:=Lib.hid hpe
   have hd:(131072:Int)<(m:Int):=by omega
   clear he hpe
   obtain⟨e1,e2⟩:=set2_cells (p:=.int .i64 0) (q:=.slice none 0 0) a3 a4
   go_wp2
   refine bodyPost_ret (v:=.tuple #[.agg #[.int .i64 0,.slice none 0 0],.int .i64 4]) (by simp[results,Tryz.results64,go_sem,e1,e2]) rfl ⟨?_,below_set2 HB1.out (Nat.le_succ _) _ _⟩
   exact⟨0,none,0,0,fun _=>0,by rw[HPE.out],ByR.nil _ _ _ zero_lt256,NewB.nil _ _ _,by rw[HPE.out,if_neg (by decide)];exact⟨rfl,rfl⟩⟩
  ·rw[if_neg hm]at hpe
   have HPE:=Lib.hid hpe
   have hd:¬(131072:Int)<(m:Int):=by omega
   have hin:=intoW_any w2 s (by omega) (by omega) A n c f HR2.out (by omega) A2 m c2 g HG2.out (by omega) (inSN s n m) rfl
   obtain⟨l,hl⟩:∃l,l=inSN s n m:=⟨_,rfl⟩
   rw[←hl]at hin
   have HIN:=Lib.hid hin;have HL:=Lib.hid hl
   clear he hpe hin hl
   go_wp2_with fail
   refine HIN.out.mono ?_
   rintro e w3 ⟨A3,rfl,h3,hb3,hge⟩
   have d3:=(hb3.cell (p:=⟨w.heap.size+1,0,none⟩) hsz2).trans a3
   have d4:=(hb3.cell (p:=⟨w.heap.size+1,1,none⟩) hsz2).trans a4
   have d5:=(hb3.frozen (p:=⟨w.heap.size+1,0,none⟩) hsz2).trans a5
   have d6:=(hb3.frozen (p:=⟨w.heap.size+1,1,none⟩) hsz2).trans a6
   have HGE:=Lib.hid hge;have H3:=Lib.hid h3;have HB3:=Lib.hid (HB1.out.trans (hb3.mono (by omega)))
   clear hge h3 hb3 a1 a2 a3 a4 a5 a6
   obtain⟨e1,e2⟩:=set2_cells (p:=.int .i64 (s:Int)) (q:=.slice A3 l l) d3 d4
   go_wp2
   refine bodyPost_ret (v:=.tuple #[.agg #[.int .i64 (s:Int),.slice A3 l l],.int .i64 0]) (by simp[results,Tryz.results64,go_sem,e1,e2]) rfl ⟨?_,below_set2 HB3.out (Nat.le_succ _) _ _⟩
   refine⟨(s:Int),A3,l,l,inF s n f m g,by rw[HPE.out],(ByR.set2W H3.out HGE.out hsz2).more (by simp),NewB.set2W HGE.out hsz2 (by omega),?_⟩
   rw[HPE.out,if_pos rfl]
   exact⟨rfl,HL.out,rfl⟩
 ·have hpe:=pushE_eq (m:=m) he
  rw[if_neg (by decide)]at hpe
  rw[he]
  have HPE:=Lib.hid hpe
  clear he hpe
  obtain⟨e1,e2⟩:=set2_cells (p:=.int .i64 0) (q:=.slice none 0 0) a3 a4
  go_wp2
  refine bodyPost_ret (v:=.tuple #[.agg #[.int .i64 0,.slice none 0 0],.int .i64 8]) (by simp[results,Tryz.results64,go_sem,e1,e2]) rfl ⟨?_,below_set2 HB1.out (Nat.le_succ _) _ _⟩
  exact⟨0,none,0,0,fun _=>0,by rw[HPE.out],ByR.nil _ _ _ zero_lt256,NewB.nil _ _ _,by rw[HPE.out,if_neg (by decide)];exact⟨rfl,rfl⟩⟩
theorem clone14_any(w:World)(A:Option Addr)(n c:Nat)(f:Nat→Nat)(hr:ByR w w.heap.size A n c f)(hn:n≤2000000):
  Calls Tryz.prog 41 #[.slice A n c] w fun e w'=>∃A' c',e=.returned (.slice A' n c')∧w'.ownsRow w.heap.size 5 1 (.slice A' n c') n (bytesL n f)∧Below w.heap.size w w':=by
 rcases A with _|ad
 ·obtain rfl:=hr.2.1 rfl
  have h0:n=0:=by have:=hr.2.2.1;omega
  subst h0
  clear hr
  have q22:∀(w:World) (a:Option Addr) (n c n' c':Nat),(binOp .eql 22 (.slice a n c) (.slice none n' c')).run Tryz.prog w=.ok (.bool a.isNone) w:=fun w a n c n' c'=>Lib.run_eql_slice_nil w _ _ a n c n' c' Tryz.underlying22
  go_enter Tryz.func41,Tryz.ntmps41
  go_wp2
  go_ret
  exact⟨none,0,rfl,World.ownsRow_nil _ _ _ _,Below.refl _ _⟩
 ·have q22:∀(w:World) (a:Option Addr) (n c n' c':Nat),(binOp .eql 22 (.slice a n c) (.slice none n' c')).run Tryz.prog w=.ok (.bool a.isNone) w:=fun w a n c n' c'=>Lib.run_eql_slice_nil w _ _ a n c n' c' Tryz.underlying22
  have hb1:Below w.heap.size w (w.alloc (.cells #[] 5)):=(Below.refl _ _).alloc (Nat.le_refl _) _
  have hown:(w.alloc (.cells #[] 5)).ownsRow w.heap.size 5 1 (.slice (some ⟨w.heap.size,0,none⟩) 0 0) 0 (bytesL 0 f):=World.ownsRow_made w #[] 0 (Nat.le_refl _) (Nat.zero_le _) rfl
  obtain⟨A',c',w',h1,h2,h3⟩:=run_more _ w.heap.size (w.alloc (.cells #[] 5)).heap.size _ 0 f hown (some ad) n c f ((hr.1.below hb1 (Nat.le_refl _)).more hb1.size) (by omega) 22 (fun h=>by cases h) hb1.size
  rw[Nat.zero_add]at h1 h2
  have e:cat f 0 f=f:=by funext j;unfold cat;rw[if_neg (by omega)];rfl
  rw[e]at h2
  have HRUN:=Lib.hid h1;have HOWN:=Lib.hid h2;have HB:=Lib.hid (hb1.trans h3)
  clear h1 h2 h3 hown hb1 hr e
  go_enter Tryz.func41,Tryz.ntmps41
  go_wp2_with (at_builtin;refine wpList_append_run rfl (.tmp 5) (.tmp 6) 22 rfl (.slice (some ⟨w.heap.size,0,none⟩) 0 0) (.slice (some ad) n c) (.slice A' n c') w' rfl rfl HRUN.out ?_)
  go_ret
  exact⟨A',c',rfl,HOWN.out,HB.out⟩
end Go.Proofs.YtcmpmighjglnpaaGreat
namespace Go.Proofs.YtcmpmighjglnpaaGreat
def sm(g:Nat→Nat):Nat→Nat
 |0=>0
 |t+1=>sm g t+g t
section
variable {n m:Nat} {w p:Nat→Nat}
end
end Go.Proofs.YtcmpmighjglnpaaGreat
namespace Go.Proofs.YtcmpmighjglnpaaGreat
def pt(m:Nat):Nat:=32768/2^m
theorem pt_mul{a b:Nat}(h:a≤b)(hb:b≤15):pt a=pt b*2^(b-a):=by
 unfold pt
 have e:(32768:Nat)=2^(15-b)*2^b:=by rw[←Nat.pow_add,show 15-b+b=15 by omega]
 have e2:(2:Nat)^b=2^(b-a)*2^a:=by rw[←Nat.pow_add,show b-a+a=b by omega]
 have ha:0<2^a:=Nat.two_pow_pos a
 have hb0:0<2^b:=Nat.two_pow_pos b
 rw[e,Nat.mul_div_cancel _ hb0]
 rw[e2,←Nat.mul_assoc,Nat.mul_div_cancel _ ha]
theorem pt_pos{m:Nat}(h:m≤15):0<pt m:=by
 have:=pt_mul h (Nat.le_refl 15)
 rw[this];exact Nat.mul_pos (by decide) (Nat.two_pow_pos _)
theorem pt_dvd{a b:Nat}(h:a≤b)(hb:b≤15):pt b∣pt a:=⟨2^(b-a),pt_mul h hb⟩
def allN(f:Nat→Nat):Nat→Nat
 |0=>0
 |n+1=>allN f n+if 0<f n then pt (f n)else 0
def usedN(f:Nat→Nat):Nat→Nat
 |0=>0
 |n+1=>usedN f n+if 0<f n then 1 else 0
def inN(f:Nat→Nat)(m:Nat):Nat→Nat
 |0=>0
 |n+1=>inN f m n+if f n=m then pt m else 0
def sumTo(f:Nat→Nat)(n:Nat):Nat→Nat
 |0=>0
 |m+1=>sumTo f n m+inN f (m+1) n
def stN(f:Nat→Nat)(n m i:Nat):Nat:=sumTo f n (m-1)+inN f m i
def codeB(f:Nat→Nat)(n i:Nat):Nat:=if f i=0 then 0 else stN f n (f i) i/pt (f i)
theorem inN_mono(f:Nat→Nat)(m:Nat){a b:Nat}(h:a≤b):inN f m a≤inN f m b:=by
 induction b with
 |zero=>rw[show a=0 by omega];exact Nat.le_refl _
 |succ b ih=>
  rcases Nat.eq_or_lt_of_le h with h|h
  ·subst h;exact Nat.le_refl _
  ·exact Nat.le_trans (ih (by omega)) (Nat.le_add_right _ _)
theorem inN_step{f:Nat→Nat}{m a b:Nat}(h:a<b)(hf:f a=m):inN f m a+pt m≤inN f m b:=by
 have:=inN_mono f m (show a+1≤b by omega)
 simp only[inN,hf,if_true]at this
 exact this
theorem sumTo_mono(f:Nat→Nat)(n:Nat){a b:Nat}(h:a≤b):sumTo f n a≤sumTo f n b:=by
 induction b with
 |zero=>rw[show a=0 by omega];exact Nat.le_refl _
 |succ b ih=>
  rcases Nat.eq_or_lt_of_le h with h|h
  ·subst h;exact Nat.le_refl _
  ·exact Nat.le_trans (ih (by omega)) (Nat.le_add_right _ _)
theorem sumTo_more(f:Nat→Nat)(n:Nat):∀M,sumTo f (n+1) M=sumTo f n M+if 0<f n∧f n≤M then pt (f n)else 0
 |0=>by rw[if_neg (by omega)];rfl
 |M+1=>by
  simp only[sumTo,inN]
  rw[sumTo_more f n M]
  by_cases h1:f n=M+1
  ·rw[if_pos h1,if_neg (by omega),if_pos (by omega),h1];omega
  ·by_cases h2:0<f n∧f n≤M
   ·rw[if_neg h1,if_pos h2,if_pos (by omega)];omega
   ·rw[if_neg h1,if_neg h2,if_neg (by omega)];omega
theorem sumTo_none(f:Nat→Nat):∀M,sumTo f 0 M=0
 |0=>rfl
 |M+1=>by simp only[sumTo,inN];rw[sumTo_none f M]
theorem allN_sum(f:Nat→Nat):∀n,(∀j,j<n→f j≤15)→allN f n=sumTo f n 15
 |0,_=>(sumTo_none f 15).symm
 |n+1,h=>by
  rw[sumTo_more,←allN_sum f n (fun j hj=>h j (by omega))]
  simp only[allN]
  have:=h n (by omega)
  by_cases h1:0<f n
  ·rw[if_pos h1,if_pos ⟨h1,this⟩]
  ·rw[if_neg h1,if_neg (fun g=>h1 g.1)]
theorem st_end{f:Nat→Nat}{n m i:Nat}(hi:i<n)(hf:f i=m)(hm:0<m):stN f n m i+pt m≤sumTo f n m:=by
 obtain⟨k,rfl⟩:∃k,m=k+1:=⟨m-1,by omega⟩
 have:=inN_step hi hf
 unfold stN
 rw[Nat.add_sub_cancel]
 simp only[sumTo];omega
theorem st_all{f:Nat→Nat}{n i:Nat}(hi:i<n)(h:∀j,j<n→f j≤15)(hp:0<f i):stN f n (f i) i+pt (f i)≤allN f n:=by
 rw[allN_sum f n h]
 exact Nat.le_trans (st_end hi rfl hp) (sumTo_mono f n (h i hi))
theorem inN_dvd(f:Nat→Nat)(m:Nat):∀n,pt m∣inN f m n
 |0=>⟨0,rfl⟩
 |n+1=>by
  simp only[inN]
  refine Nat.dvd_add (inN_dvd f m n) ?_
  split
  ·exact Nat.dvd_refl _
  ·exact⟨0,rfl⟩
theorem sumTo_dvd(f:Nat→Nat)(n:Nat){b:Nat}(hb:b≤15):∀m,m≤b→pt b∣sumTo f n m
 |0,_=>⟨0,rfl⟩
 |m+1,h=>Nat.dvd_add (sumTo_dvd f n hb m (by omega)) (Nat.dvd_trans (pt_dvd h hb) (inN_dvd f (m+1) n))
theorem st_dvd(f:Nat→Nat)(n i:Nat){m:Nat}(hm:m≤15):pt m∣stN f n m i:=
 Nat.dvd_add (sumTo_dvd f n hm (m-1) (by omega)) (inN_dvd f m i)
theorem codeB_st{f:Nat→Nat}{n i:Nat}(hp:0<f i)(h:f i≤15):codeB f n i*pt (f i)=stN f n (f i) i:=by
 unfold codeB
 rw[if_neg (by omega)]
 exact Nat.div_mul_cancel (st_dvd f n i h)
theorem in_cover(f:Nat→Nat)(m:Nat):∀n r,r<inN f m n→∃i,i<n∧f i=m∧inN f m i≤r∧r<inN f m i+pt m
 |0,r,h=>by simp[inN]at h
 |n+1,r,h=>by
  by_cases h1:r<inN f m n
  ·obtain⟨i,hi,h2,h3⟩:=in_cover f m n r h1
   exact⟨i,by omega,h2,h3⟩
  ·simp only[inN]at h
   split at h
   ·rename_i hf
    exact⟨n,by omega,hf,by omega,h⟩
   ·omega
theorem sum_cover(f:Nat→Nat)(n:Nat):∀M r,r<sumTo f n M→∃i,i<n∧0<f i∧f i≤M∧stN f n (f i) i≤r∧r<stN f n (f i) i+pt (f i)
 |0,r,h=>by simp[sumTo]at h
 |M+1,r,h=>by
  by_cases h1:r<sumTo f n M
  ·obtain⟨i,hi,h2,h3,h4⟩:=sum_cover f n M r h1
   exact⟨i,hi,h2,by omega,h4⟩
  ·simp only[sumTo]at h
   obtain⟨i,hi,hf,h2,h3⟩:=in_cover f (M+1) n (r-sumTo f n M) (by omega)
   refine⟨i,hi,by omega,by omega,?_,?_⟩<;>(unfold stN;rw[hf,Nat.add_sub_cancel];omega)
def bigB(f:Nat→Nat)(n:Nat)(most:Int):Bool:=decide (∃j,j<n∧most<(f j:Int))
def endE(all used:Nat):Int:=if 32768<all then 30 else if all=32768∨used=0∨(used=1∧all=16384)then 0 else 31
def checkE(f:Nat→Nat)(n:Nat)(most:Int):Int:=
 if most<1∨15<most then 2 else if 320<n then 4 else if bigB f n most=true then 2 else endE (allN f n) (usedN f n)
theorem bigB_false{f:Nat→Nat}{n:Nat}{most:Int}(h:bigB f n most=false):∀j,j<n→(f j:Int)≤most:=by
 intro j hj
 have:=of_decide_eq_false h
 have h2:¬(most<(f j:Int)):=fun g=>this ⟨j,hj,g⟩
 omega
theorem check_ok{f:Nat→Nat}{n:Nat}{most:Int}(h:checkE f n most=0):
  1≤most∧most≤15∧n≤320∧(∀j,j<n→(f j:Int)≤most)∧allN f n≤32768∧(allN f n=32768∨usedN f n=0∨(usedN f n=1∧allN f n=16384)):=by
 unfold checkE at h
 by_cases h1:most<1∨15<most
 ·rw[if_pos h1]at h;cases h
 ·rw[if_neg h1]at h
  by_cases h2:320<n
  ·rw[if_pos h2]at h;cases h
  ·rw[if_neg h2]at h
   cases h3:bigB f n most with
   |true=>rw[h3,if_pos rfl]at h;cases h
   |false=>
    rw[h3,if_neg (by decide)]at h
    unfold endE at h
    by_cases h4:32768<allN f n
    ·rw[if_pos h4]at h;cases h
    ·rw[if_neg h4]at h
     by_cases h5:allN f n=32768∨usedN f n=0∨(usedN f n=1∧allN f n=16384)
     ·exact⟨by omega,by omega,by omega,bigB_false h3,by omega,h5⟩
     ·rw[if_neg h5]at h;cases h
theorem fits_code{f:Nat→Nat}{n i:Nat}(hi:i<n)(h:∀j,j<n→f j≤15)(ha:allN f n≤32768):codeB f n i<2^f i:=by
 by_cases h0:0<f i
 ·have h1:=st_all hi h h0
  have h2:=codeB_st (n:=n) h0 (h i hi)
  have h3:=pt_mul (h i hi) (Nat.le_refl 15)
  have h4:pt (f i)*2^f i=32768:=by
   rw[h3,show pt 15=1 from rfl,Nat.one_mul,←Nat.pow_add,show 15-f i+f i=15 by have:=h i hi;omega]
  have hp:=pt_pos (h i hi)
  rw[←h2]at h1
  refine Nat.lt_of_mul_lt_mul_right (a:=pt (f i)) ?_
  rw[Nat.mul_comm (2^f i),h4]
  omega
 ·have:f i=0:=by omega
  unfold codeB
  rw[if_pos this,this];decide
theorem used_le(f:Nat→Nat):∀n,usedN f n≤n
 |0=>Nat.le_refl _
 |n+1=>by have:=used_le f n;simp only[usedN];split<;>omega
theorem used_none{f:Nat→Nat}:∀n,usedN f n=0→∀j,j<n→f j=0
 |0,_,j,hj=>by omega
 |n+1,h,j,hj=>by
  simp only[usedN]at h
  have h1:¬0<f n:=fun g=>by rw[if_pos g]at h;omega
  rcases Nat.eq_or_lt_of_le (Nat.le_of_lt_succ hj)with e|e
  ·subst e;omega
  ·exact used_none n (by omega) j e
theorem bigB_mk{f:Nat→Nat}{n:Nat}{most:Int}(h:∀j,j<n→(f j:Int)≤most):bigB f n most=false:=by
 apply decide_eq_false
 rintro⟨j,hj,hl⟩
 have:=h j hj;omega
theorem bigB_yes{f:Nat→Nat}{n k:Nat}{most:Int}(hk:k<n)(h:most<(f k:Int)):bigB f n most=true:=decide_eq_true ⟨k,hk,h⟩
end Go.Proofs.YtcmpmighjglnpaaGreat
namespace Go.Proofs.YtcmpmighjglnpaaGreat
def bitsR(s:Int):Nat:=if s=16 then 2 else if s=17 then 3 else if s=18 then 7 else 0
def timesR(s x:Int):Nat:=if s=16∨s=17 then x.toNat+3 else if s=18 then x.toNat+11 else 1
def valR(s:Int)(out:List Nat):Nat:=if s=16 then out.getLast?.getD 0 else if s<16 then s.toNat else 0
def strR(n:Nat):List (Int×Int)→List Nat→Int×List Nat
 |[],out=>if out.length=n then(0,out)else(100,[])
 |(s,x)::rs,out=>if s<0∨18<s∨x<0∨(2^bitsR s:Nat)≤x then(8,[])else
   if(s=16∧out=[])∨n<out.length+timesR s x then(100,[])else strR n rs (out++List.replicate (timesR s x) (valR s out))
end Go.Proofs.YtcmpmighjglnpaaGreat
namespace Go.Proofs.YtcmpmighjglnpaaGreat
def bitE(s:Int):Int:=if 0≤s∧s≤18 then 0 else 2
def bitV(s:Int):Int:=if 0≤s∧s≤18 then(bitsR s:Nat)else 0
def strO(l:List (Int×Int))(n:Int):Int×List Nat:=if n<0∨320<n then(2,[])else strR n.toNat l []
end Go.Proofs.YtcmpmighjglnpaaGreat
namespace Go.Proofs.YtcmpmighjglnpaaGreat
open Go.RowKit
def bitAt(f:Nat→Nat)(k:Nat):Nat:=f (k/8)/2^(k%8)%2
theorem bitAt_lt(f:Nat→Nat)(k:Nat):bitAt f k<2:=Nat.mod_lt _ (by omega)
def numN(f:Nat→Nat)(at_:Nat):Nat→Nat
 |0=>0
 |i+1=>numN f at_ i+bitAt f (at_+i)*2^i
theorem numN_lt(f:Nat→Nat)(at_:Nat):∀i,numN f at_ i<2^i
 |0=>by simp[numN]
 |i+1=>by
  have:=numN_lt f at_ i
  have h2:=bitAt_lt f (at_+i)
  have:bitAt f (at_+i)*2^i≤1*2^i:=Nat.mul_le_mul_right _ (by omega)
  simp only[numN,Nat.pow_succ];omega
theorem bit_any(w:World)(B:Nat)(A:Option Addr)(n c:Nat)(f:Nat→Nat)(k:Nat)(hr:RdB w B A n f)(hk:k<8*n)(hn:n≤9223372036854775807/8):
  Calls Tryz.prog 137 #[.slice A n c,.int .i64 (k:Int)] w fun e w'=>e=.returned (.int .u32 (bitAt f k:Nat))∧w=w':=by
 obtain⟨hf,hc⟩:=hr
 obtain⟨b,o,rfl,hb,hc⟩:=hc (by omega)
 have hcell:=hc (k/8) (by omega)
 have hlt:k/8<n:=by omega
 have hf8:=hf (k/8)
 clear hc
 go_enter Tryz.func137,Tryz.ntmps137
 go_wp2
 go_ret
 refine⟨ret_int ?_,rfl⟩
 have h5:f (k/8)/2^(k%8)<256:=Nat.lt_of_le_of_lt (Nat.div_le_self _ _) hf8
 rw[cast_shr,emod_u32 _ (by omega),u32_and_one _ (by omega)]
 rfl
theorem take_arg(w:World)(A:Option Addr)(l c:Nat)(a n:Int)(h:a<0∨n<0∨32<n):
  Calls Tryz.prog 124 #[.slice A l c,.int .i64 a,.int .i64 n] w fun e w'=>e=.returned (.tuple #[.int .u32 0,.int .i64 2])∧w=w':=by
 by_cases h1:a<0
 ·go_enter Tryz.func124,Tryz.ntmps124
  go_wp2
  go_ret2
  exact⟨rfl,rfl⟩
 ·by_cases h2:n<0
  ·go_enter Tryz.func124,Tryz.ntmps124
   go_wp2
   go_ret2
   exact⟨rfl,rfl⟩
  ·have h3:32<n:=by omega
   clear h
   go_enter Tryz.func124,Tryz.ntmps124
   go_wp2
   go_ret2
   exact⟨rfl,rfl⟩
theorem take_end(w:World)(A:Option Addr)(l c:Nat)(a n:Nat)(ha:a≤9223372036854775807)(hn:n≤32)(hl:l≤1000000000000)(h:8*l<a+n):
  Calls Tryz.prog 124 #[.slice A l c,.int .i64 (a:Int),.int .i64 (n:Int)] w fun e w'=>e=.returned (.tuple #[.int .u32 0,.int .i64 10])∧w=w':=by
 go_enter Tryz.func124,Tryz.ntmps124
 go_wp2
 go_ret2
 exact⟨rfl,rfl⟩
theorem take_ok(w:World)(B:Nat)(A:Option Addr)(l c:Nat)(f:Nat→Nat)(a n:Nat)(hr:RdB w B A l f)(hn:n≤32)(hl:l≤1000000000000)(h:a+n≤8*l):
  Calls Tryz.prog 124 #[.slice A l c,.int .i64 (a:Int),.int .i64 (n:Int)] w fun e w'=>e=.returned (.tuple #[.int .u32 (numN f a n:Nat),.int .i64 0])∧w=w':=by
 have HR:=Lib.hid hr
 clear hr
 go_enter Tryz.func124,Tryz.ntmps124
 go_wp2
 go_loop [8,9,31] (fun t _ i=>∃k:Nat,k≤n∧i=.int .i64 k∧t=.int .u32 (numN f a k:Nat)) (fun _ _ i=>n-(intOf i).toNat)
 case atStart=>exact⟨0,Nat.zero_le _,rfl,rfl⟩
 case round=>
  obtain⟨k,hk,rfl,rfl⟩:=hrel
  have hb:=numN_lt f a k
  have hb2:numN f a k<4294967296:=lt_32 hb (by omega)
  have h4:=bitAt_lt f (a+k)
  by_cases hlt:k<n
  ·go_wp2_with (go_at_call 137;refine(bit_any _ B _ _ _ f (a+k) HR.out (by omega) (by omega)).mono ?_;rintro e w' ⟨rfl,rfl⟩)
   refine⟨⟨k+1,hlt,by go_num,val_int ?_⟩,by simp[intOf];omega⟩
   have h6:bitAt f (a+k)*2^k≤1*2^k:=Nat.mul_le_mul_right _ (by omega)
   have h7:=pow_le_32 (k:=k+1) (by omega)
   rw[Nat.pow_succ]at h7
   have h8:bitAt f (a+k)*2^k<4294967296:=by omega
   rw[cast_shl,emod_u32 _ h8,u32_or_add' _ _ k hb2 h8 hb (Nat.dvd_mul_left _ _)]
   rfl
  ·go_wp2
   go_ret2
   exact⟨ret_two (by rw[show k=n by omega]) rfl,rfl⟩
end Go.Proofs.YtcmpmighjglnpaaGreat
namespace Go.Proofs.YtcmpmighjglnpaaGreat
open Go.RowKit Go.ChangeShapes Go.WideShapes Go.ChangeAt
open Go.ChangeMaps (open_string shut_string)
def takeV(f:Nat→Nat)(l:Nat)(a n:Int):Nat:=if a<0∨n<0∨32<n then 0 else if 8*(l:Int)<a+n then 0 else numN f a.toNat n.toNat
def takeE(l:Nat)(a n:Int):Int:=if a<0∨n<0∨32<n then 2 else if 8*(l:Int)<a+n then 10 else 0
theorem take_cases{P:Int→Int→Prop}(f:Nat→Nat)(l:Nat)(a n:Int)
  (h1:a<0∨n<0∨32<n→P 0 2) (h2:∀x y:Nat,a=x→n=y→y≤32→8*l<x+y→P 0 10)
  (h3:∀x y:Nat,a=x→n=y→y≤32→x+y≤8*l→P (numN f x y:Nat) 0):P (takeV f l a n:Nat) (takeE l a n):=by
 unfold takeV takeE
 by_cases c1:a<0∨n<0∨32<n
 ·rw[if_pos c1,if_pos c1];exact h1 c1
 ·rw[if_neg c1,if_neg c1]
  obtain⟨x,rfl⟩:=Int.eq_ofNat_of_zero_le (show 0≤a by omega)
  obtain⟨y,rfl⟩:=Int.eq_ofNat_of_zero_le (show 0≤n by omega)
  by_cases c2:8*(l:Int)<(x:Int)+(y:Int)
  ·rw[if_pos c2,if_pos c2];exact h2 x y rfl rfl (by omega) (by omega)
  ·rw[if_neg c2,if_neg c2];exact h3 x y rfl rfl (by omega) (by omega)
theorem take_any(w:World)(B:Nat)(A:Option Addr)(l c:Nat)(f:Nat→Nat)(a n:Int)(hr:RdB w B A l f)(hl:l≤1000000000000)(ha:a≤9223372036854775807):
  Calls Tryz.prog 124 #[.slice A l c,.int .i64 a,.int .i64 n] w fun e w'=>e=.returned (.tuple #[.int .u32 (takeV f l a n:Nat),.int .i64 (takeE l a n)])∧w=w':=by
 refine take_cases (P:=fun x y=>Calls Tryz.prog 124 #[.slice A l c,.int .i64 a,.int .i64 n] w fun e w'=>e=.returned (.tuple #[.int .u32 x,.int .i64 y])∧w=w') f l a n ?_ ?_ ?_
 ·intro h;exact take_arg w A l c a n h
 ·rintro x y rfl rfl h1 h2;exact take_end w A l c x y (by omega) h1 hl h2
 ·rintro x y rfl rfl h1 h2;exact take_ok w B A l c f x y hr h1 hl h2
end Go.Proofs.YtcmpmighjglnpaaGreat
namespace Go.Proofs.YtcmpmighjglnpaaGreat
open Go.RowKit
theorem sz5:(Tryz.prog.info? 5).map (·.size)=some 1:=by kernel_rfl
end Go.Proofs.YtcmpmighjglnpaaGreat
namespace Go.Proofs.YtcmpmighjglnpaaGreat
open Go.RowKit
def Clean(f:Nat→Nat)(k:Nat):Prop:=(∀j,f j<256)∧(∀j,k/8<j→f j=0)∧f (k/8)<2^(k%8)
end Go.Proofs.YtcmpmighjglnpaaGreat
namespace Go.Proofs.YtcmpmighjglnpaaGreat
def fixA(i:Nat):Nat:=if 256≤i∧i≤279 then 7 else if 144≤i∧i≤255 then 9 else 8
def fixB(_:Nat):Nat:=5
def ordN(i:Nat):Nat:=[16,17,18,0,8,7,9,6,10,5,11,4,12,3,13,2,14,1,15].getD i 0
end Go.Proofs.YtcmpmighjglnpaaGreat
namespace Go.Proofs.YtcmpmighjglnpaaGreat
open Go.RowKit Go.ChangeShapes Go.WideShapes Go.ChangeAt Go.Joins
theorem own_keepG{w w':World}{base:Nat}{e:TypeId}{sz:Nat}{v:Value}{n:Nat}{xs:List Value}(h:w.ownsRow base e sz v n xs)(hb:Below w.heap.size w w'):w'.ownsRow base e sz v n xs:=by
 obtain⟨h1,h2⟩:=h
 refine⟨h1,?_⟩
 rcases h2 with h2|⟨g,cap,cur,hv,hg,hh,r⟩
 ·exact .inl h2
 ·exact .inr ⟨g,cap,cur,hv,hg,(hb.block g (Array.getElem?_eq_some_iff.1 hh).1).trans hh,r⟩
end Go.Proofs.YtcmpmighjglnpaaGreat
