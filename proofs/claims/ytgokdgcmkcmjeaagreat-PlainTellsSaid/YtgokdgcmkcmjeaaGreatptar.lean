/-
  Words and walks.
-/
import Derived.Great.BuildSlice
import Derived.Deep.DeepCutAuto
import Derived.Deep.RegionLaw
import Derived.Lib.AppendZeros
import Derived.Lib.SliceRun
import Derived.Laws.Tables
import Derived.Test.YtgokdgcmkcmjeaaGreatptaa
import Derived.Test.YtgokdgcmkcmjeaaGreatptab
import Derived.Test.YtgokdgcmkcmjeaaGreatptac
import Derived.Test.YtgokdgcmkcmjeaaGreatptad
import Derived.Test.YtgokdgcmkcmjeaaGreatptae
import Derived.Test.YtgokdgcmkcmjeaaGreatptai
import Derived.Test.YtgokdgcmkcmjeaaGreatptaq
set_option maxRecDepth 100000
set_option maxHeartbeats 16000000
namespace Go.Proofs.YtgokdgcmkcmjeaaGreat
open Go.RowKit Go.ChangeShapes Go.WideShapes Go.ChangeAt Go.Joins
def TkR(w:World)(B:Nat)(A:Option Addr)(n c:Nat)(l:List Tok):Prop:=n=l.length∧RdT w B A l∧(A=none→c=0)∧n≤c∧c≤maxLen
theorem TkR.nil(w:World)(B:Nat):TkR w B none 0 0 []:=⟨rfl,RdT.nil w B none,fun _=>rfl,Nat.le_refl _,by unfold maxLen;omega⟩
theorem TkR.of_own{w:World}{base n c:Nat}{A:Option Addr}{l:List Tok}(h:w.ownsRow base 36 3 (.slice A n c) n (toksL l)):TkR w w.heap.size A n c l:=by
 obtain⟨h1,h2⟩:=RdT.of_own h
 refine⟨h1,h2,?_⟩
 rcases h.2 with⟨hv,h0⟩|⟨g,cap,cur,hv,_,_,k1,k2,_⟩
 ·injection hv with h3 h4 h5
  exact⟨fun _=>h5,by omega,by unfold maxLen;omega⟩
 ·injection hv with h3 h4 h5
  exact⟨(fun h=>by rw[h]at h3;cases h3),by omega,by omega⟩
end Go.Proofs.YtgokdgcmkcmjeaaGreat
namespace Go.Proofs.YtgokdgcmkcmjeaaGreat
open Go.RowKit Go.ChangeShapes Go.WideShapes Go.ChangeAt Go.Joins Go.Deep
def TokIn(t:Tok):Prop:=t.x<256∧(-9223372036854775808≤t.d∧t.d≤9223372036854775807)∧(-9223372036854775808≤t.n∧t.n≤9223372036854775807)
end Go.Proofs.YtgokdgcmkcmjeaaGreat
namespace Go.Proofs.YtgokdgcmkcmjeaaGreat
def copF(n:Nat)(f:Nat→Nat)(d i:Nat):Nat:=f (n-d+i%d)
theorem copF_lt{n d:Nat}{f:Nat→Nat}(hf:∀j,f j<256)(i:Nat):copF n f d i<256:=hf _
theorem cop_ahead{n d i:Nat}{f:Nat→Nat}(_hd:1≤d)(hdn:d≤n):copF n f d i=cat f n (copF n f d) (n+i-d):=by
 unfold cat
 by_cases h:n+i-d<n
 ·rw[if_pos h]
  unfold copF
  rw[Nat.mod_eq_of_lt (by omega)]
  congr 1;omega
 ·rw[if_neg h]
  unfold copF
  have e:n+i-d-n=i-d:=by omega
  rw[e,Nat.mod_eq_sub_mod (by omega:i≥d)]
end Go.Proofs.YtgokdgcmkcmjeaaGreat
namespace Go.Proofs.YtgokdgcmkcmjeaaGreat
open Go.RowKit Go.ChangeShapes Go.WideShapes Go.ChangeAt Go.Joins
theorem lst_copy(L:List Nat)(d n:Nat):bytesL (L.length+n) (cat (lst L) L.length (copF L.length (lst L) d))=bytesL (L.length+n) (lst (L++copL L d n)):=by
 refine bytesL_ext fun j hj=>?_
 unfold cat lst copL
 split
 ·rename_i h;rw[List.getD_eq_getElem?_getD,List.getD_eq_getElem?_getD,List.getElem?_append_left h]
 ·rename_i h
  rw[List.getD_eq_getElem?_getD,List.getElem?_append_right (by omega)]
  have hm:j-L.length<n:=by omega
  simp[hm]
  unfold copF
  rfl
theorem stp_lt{L:List Nat}{t:Tok}(h:∀x∈L,x<256)(hx:t.x<256):∀x∈stpT L t,x<256:=by
 intro x hm
 unfold stpT at hm
 split at hm
 ·rw[List.mem_append]at hm
  rcases hm with hm|hm
  ·exact h x hm
  ·simp at hm;omega
 ·rw[List.mem_append]at hm
  rcases hm with hm|hm
  ·exact h x hm
  ·unfold copL at hm
   rw[List.mem_map]at hm
   obtain⟨i,_,rfl⟩:=hm
   exact lst_lt h _
theorem preL_lst(f:Nat→Nat)(n:Nat):bytesL n f=bytesL n (lst (preL f n)):=bytesL_ext fun _ hj=>(preL_get f hj).symm
theorem plyR_step{A:Nat}{l:List Tok}{i:Nat}(h:i<l.length)(L:List Nat):plyR A (l.drop i) L=
  if mayT (l.getD i tok0)=false then(8,[])else if(L.length:Int)<(l.getD i tok0).d then(60,[])else if 131072<L.length-A+lenT (l.getD i tok0)then(4,[])else plyR A (l.drop (i+1)) (stpT L (l.getD i tok0)):=by
 have e:l.drop i=l.getD i tok0::l.drop (i+1):=by
  rw[List.drop_eq_getElem_cons h,List.getD_eq_getElem?_getD,List.getElem?_eq_getElem h];rfl
 rw[e];rfl
def plyO(f:Nat→Nat)(n:Nat)(l:List Tok):Int×List Nat:=if 131072<n∨131072<l.length then(4,[])else plyR n l (preL f n)
theorem mayT_is{t:Tok}(h:mayT t=true):(t.n=0∧t.d=0)∨(t.n≠0∧t.x=0∧3≤t.n∧t.n≤258∧1≤t.d∧t.d≤32768):=by unfold mayT at h;exact of_decide_eq_true h
end Go.Proofs.YtgokdgcmkcmjeaaGreat
namespace Go.Proofs.YtgokdgcmkcmjeaaGreat
open Go.RowKit Go.ChangeShapes Go.WideShapes Go.ChangeAt Go.Joins
def tokE(t:Tok):Int:=if mayT t=true then 0 else 8
end Go.Proofs.YtgokdgcmkcmjeaaGreat
namespace Go.Proofs.YtgokdgcmkcmjeaaGreat
open Go.RowKit Go.ChangeShapes Go.WideShapes Go.ChangeAt Go.Joins
def cpyT(t:Tok):Bool:=t.n !=0||t.d !=0
theorem copies8_any(w:World)(t:Tok):Calls Tryz.prog 122 #[.agg #[.int .u8 (t.x:Int),.int .i64 t.d,.int .i64 t.n]] w fun e w'=>e=.returned (.bool (cpyT t))∧Below w.heap.size w w':=by
 obtain⟨x,d,n⟩:=t
 have HB:=Lib.hid ((Below.refl w.heap.size w).alloc (Nat.le_refl _) (.cells #[.int .u8 (x:Int),.int .i64 d,.int .i64 n] 182))
 by_cases h0:n=0
 ·subst h0
  have e:cpyT ⟨x,d,0⟩=(d !=0):=by simp[cpyT]
  rw[e]
  clear e
  go_enter Tryz.func122,Tryz.ntmps122
  go_wp2
  go_ret
  exact⟨rfl,HB.out⟩
 ·have e0:(n !=0)=true:=by simp[h0]
  have e:cpyT ⟨x,d,n⟩=true:=by simp[cpyT,h0]
  rw[e]
  clear e
  go_enter Tryz.func122,Tryz.ntmps122
  go_wp2
  go_ret
  exact⟨rfl,HB.out⟩
theorem tok8_any(w:World)(t:Tok)(_:TokIn t):Calls Tryz.prog 83 #[.agg #[.int .u8 (t.x:Int),.int .i64 t.d,.int .i64 t.n]] w fun e w'=>e=.returned (.int .i64 (tokE t))∧Below w.heap.size w w':=by
 obtain⟨x,d,n⟩:=t
 obtain⟨W1,hW1⟩:∃W1,W1=w.alloc (.cells #[.int .u8 (x:Int),.int .i64 d,.int .i64 n] 36):=⟨_,rfl⟩
 have HW1:=Lib.hid hW1
 have hb1:Below w.heap.size w W1:=by rw[hW1];exact(Below.refl _ _).alloc (Nat.le_refl _) _
 have hs1:W1.heap.size=w.heap.size+1:=by rw[hW1];simp
 have hrow:W1.heap[w.heap.size]?=some (.cells #[.int .u8 (x:Int),.int .i64 d,.int .i64 n] 36 (0,0)):=by rw[hW1];exact heap_alloc_new w _
 have HB1:=Lib.hid hb1;have HS1:=Lib.hid hs1;have HROW:=Lib.hid hrow
 have HM:=Lib.hid (copies8_any W1 ⟨x,d,n⟩)
 clear hW1 hb1 hs1 hrow
 obtain⟨E,hE⟩:∃E,E=tokE ⟨x,d,n⟩:=⟨_,rfl⟩
 rw[←hE]
 obtain⟨b,hb⟩:∃b,b=cpyT ⟨x,d,n⟩:=⟨_,rfl⟩
 rw[←hb]at HM
 have HE:=Lib.hid hE;have HBB:=Lib.hid hb
 clear hE hb
 go_enter Tryz.func83,Tryz.ntmps83
 go_wp2_with fail
 rw[←HW1.out]
 refine HM.out.mono ?_
 rintro e w2 ⟨rfl,hb2⟩
 have HB2:=Lib.hid (HB1.out.trans (hb2.mono HB1.out.size))
 have hr2:w2.heap[w.heap.size]?=some (.cells #[.int .u8 (x:Int),.int .i64 d,.int .i64 n] 36 (0,0)):=(hb2.block _ (by have:=HS1.out;omega)).trans HROW.out
 have x0:w2.cell? ⟨w.heap.size,0,none⟩=some (.int .u8 (x:Int)):=(cell_of_row w2 _ 0 _ _ (0,0) hr2).trans rfl
 have x1:w2.cell? ⟨w.heap.size,1,none⟩=some (.int .i64 d):=(cell_of_row w2 _ 1 _ _ (0,0) hr2).trans rfl
 have x2:w2.cell? ⟨w.heap.size,2,none⟩=some (.int .i64 n):=(cell_of_row w2 _ 2 _ _ (0,0) hr2).trans rfl
 clear hb2 hr2
 cases b with
 |false=>
  have hz:n=0∧d=0:=by have h:=HBB.out.symm;simp[cpyT]at h;exact h
  obtain rfl:E=0:=by rw[HE.out];unfold tokE;rw[if_pos];simp[mayT,hz.1,hz.2]
  go_wp2
  go_ret
  exact⟨rfl,HB2.out⟩
 |true=>
  have hz:¬(n=0∧d=0):=by have h:=HBB.out.symm;simp[cpyT]at h;omega
  have key:∀P:Prop,(mayT ⟨x,d,n⟩=true↔P)→(¬P→E=8)∧(P→E=0):=fun P hP=>⟨fun h=>by rw[HE.out];unfold tokE;rw[if_neg (fun g=>h (hP.1 g))],fun h=>by rw[HE.out];unfold tokE;rw[if_pos (hP.2 h)]⟩
  have hk:=key (¬n<3∧¬258<n∧¬d<1∧¬32768<d∧x=0) (by unfold mayT;simp only[decide_eq_true_eq];omega)
  clear key
  by_cases y0:n<3
  ·have d0:decide (n<3)=true:=by simp;omega
   obtain rfl:E=8:=hk.1 (by omega)
   clear hk
   go_wp2
   go_ret
   exact⟨rfl,HB2.out⟩
  have d0:decide (n<3)=false:=by simp;omega
  by_cases y1:258<n
  ·have d1:decide (258<n)=true:=by simp;omega
   obtain rfl:E=8:=hk.1 (by omega)
   clear hk
   go_wp2
   go_ret
   exact⟨rfl,HB2.out⟩
  have d1:decide (258<n)=false:=by simp;omega
  by_cases y2:d<1
  ·have d2:decide (d<1)=true:=by simp;omega
   obtain rfl:E=8:=hk.1 (by omega)
   clear hk
   go_wp2
   go_ret
   exact⟨rfl,HB2.out⟩
  have d2:decide (d<1)=false:=by simp;omega
  by_cases y3:32768<d
  ·have d3:decide (32768<d)=true:=by simp;omega
   obtain rfl:E=8:=hk.1 (by omega)
   clear hk
   go_wp2
   go_ret
   exact⟨rfl,HB2.out⟩
  have d3:decide (32768<d)=false:=by simp;omega
  by_cases y4:x=0
  ·subst y4
   have d4:(((0:Nat):Int) !=0)=false:=by decide
   obtain rfl:E=0:=hk.2 (by omega)
   clear hk
   go_wp2
   go_ret
   exact⟨rfl,HB2.out⟩
  ·have d4:((x:Int) !=0)=true:=by simp;omega
   obtain rfl:E=8:=hk.1 (by omega)
   clear hk
   go_wp2
   go_ret
   exact⟨rfl,HB2.out⟩
theorem clone8_any(w:World)(A:Option Addr)(n c:Nat)(f:Nat→Nat)(hr:ByR w w.heap.size A n c f)(hn:n≤2000000):
  Calls Tryz.prog 84 #[.slice A n c] w fun e w'=>∃A' c',e=.returned (.slice A' n c')∧w'.ownsRow w.heap.size 5 1 (.slice A' n c') n (bytesL n f)∧Below w.heap.size w w':=by
 rcases A with _|ad
 ·obtain rfl:=hr.2.1 rfl
  have h0:n=0:=by have:=hr.2.2.1;omega
  subst h0
  clear hr
  have q22:∀(w:World) (a:Option Addr) (n c n' c':Nat),(binOp .eql 22 (.slice a n c) (.slice none n' c')).run Tryz.prog w=.ok (.bool a.isNone) w:=fun w a n c n' c'=>Lib.run_eql_slice_nil w _ _ a n c n' c' Tryz.underlying22
  go_enter Tryz.func84,Tryz.ntmps84
  go_wp2
  go_ret
  exact⟨none,0,rfl,World.ownsRow_nil _ _ _ _,Below.refl _ _⟩
 ·have q22:∀(w:World) (a:Option Addr) (n c n' c':Nat),(binOp .eql 22 (.slice a n c) (.slice none n' c')).run Tryz.prog w=.ok (.bool a.isNone) w:=fun w a n c n' c'=>Lib.run_eql_slice_nil w _ _ a n c n' c' Tryz.underlying22
  have hb1:Below w.heap.size w (w.alloc (.cells #[] 5)):=(Below.refl _ _).alloc (Nat.le_refl _) _
  have hown:(w.alloc (.cells #[] 5)).ownsRow w.heap.size 5 1 (.slice (some ⟨w.heap.size,0,none⟩) 0 0) 0 (bytesL 0 f):=World.ownsRow_made w #[] 0 (Nat.le_refl _) (Nat.zero_le _) rfl
  obtain⟨A',c',w',h1,h2,h3⟩:=run_more _ w.heap.size (w.alloc (.cells #[] 5)).heap.size _ 0 f hown (some ad) n c f ((hr.1.below hb1 (Nat.le_refl _)).more hb1.size) (by omega) 22 (fun h=>by cases h) hb1.size
  rw[Nat.zero_add]at h1 h2
  have e:cat f 0 f=f:=by funext j;unfold cat;rw[if_neg (by omega)];rfl
  rw[e]at h2
  have HRUN:=Lib.hid h1;have HOWN:=Lib.hid h2;have HB:=Lib.hid (hb1.trans h3)
  clear h1 h2 h3 hown hb1 hr e
  go_enter Tryz.func84,Tryz.ntmps84
  go_wp2_with (at_builtin;refine wpList_append_run rfl (.tmp 5) (.tmp 6) 22 rfl (.slice (some ⟨w.heap.size,0,none⟩) 0 0) (.slice (some ad) n c) (.slice A' n c') w' rfl rfl HRUN.out ?_)
  go_ret
  exact⟨A',c',rfl,HOWN.out,HB.out⟩
theorem run_oneB_g(w:World)(base:Nat)(A:Option Addr)(n c:Nat)(F:Nat→Nat)(hown:w.ownsRow base 5 1 (.slice A n c) n (bytesL n F))(x:Nat)(hx:x=F n)(hn:n≤1000000000)(hbase:base≤w.heap.size):
  ∃A' c' w',(Builtin.append_ #[22,22] 22 #[.slice A n c,.slice (some ⟨w.heap.size,0,none⟩) 1 1]).run Tryz.prog (w.alloc (.cells #[.int .u8 (x:Int)] 5))=.ok (.slice A' (n+1) c') w'∧
   w'.ownsRow base 5 1 (.slice A' (n+1) c') (n+1) (bytesL (n+1) F)∧Below base w w'∧(∀k,k<w.heap.size→(Value.slice A n c).ownBlock≠some k→w'.heap[k]?=w.heap[k]?):=by
 subst hx
 have hb1:Below base w (w.alloc (.cells #[.int .u8 (F n:Int)] 5)):=(Below.refl base w).alloc hbase _
 have ho1:=hown.alloc (.cells #[.int .u8 (F n:Int)] 5)
 obtain⟨A',c',w',h2,o2,b2⟩:=run_app_g (z:=.int .u8 0) (by_:=1) Tryz.underlying22 infoU8 rfl (by decide) (w.alloc (.cells #[.int .u8 (F n:Int)] 5)) base _ (.slice A n c) n _ ho1 _ 1 1 _
  (SrcL.new w 1 1 #[.int .u8 (F n:Int)] 5 rfl) (fun u hu=>by simp at hu;subst hu;rfl) (by unfold maxLen;omega) (by omega) 22 (fun h=>by cases h) (Nat.le_trans hbase hb1.size)
 refine⟨A',c',w',h2,?_,hb1.trans ((Below.refl base _).grown b2 (Nat.le_trans hbase hb1.size) (own_geS ho1)),fun k hk hne=>?_⟩
 ·have e:bytesL n F++(#[Value.int .u8 (F n:Int)]:Array Value).toList=bytesL (n+1) F:=by
   unfold bytesL;rw[List.range_succ,List.map_append];rfl
  rw[e]at o2
  exact o2
 ·refine(b2.block k (by simp;omega) (fun e=>hne e.symm)).trans ?_
  exact(Below.refl w.heap.size w).alloc (Nat.le_refl _) (.cells #[.int .u8 (F n:Int)] 5)|>.block k hk
theorem own_type{w:World}{base sz n h:Nat}{e t:TypeId}{v:Value}{xs:List Value}{cs:Array Value}(ho:w.ownsRow base e sz v n xs)(hh:w.heap[h]?=some (.cells cs t (0,0)))(hne:(e==t)=false):v.ownBlock≠some h:=fun hk=>by
 rcases ho.2 with⟨rfl,_⟩|⟨g,cap,cur,rfl,_,hg,_⟩
 ·simp[Value.ownBlock]at hk
 ·simp[Value.ownBlock]at hk
  subst hk
  rw[hg]at hh
  injection hh with hh
  injection hh with _ h2 _
  rw[h2]at hne;simp at hne
theorem tokA_one(t:Tok):(tokC t).toArray.all (·.oneCell')=true:=by simp[tokC,Value.oneCell']
theorem szTokA(t:Tok):(Tryz.prog.info? 36).map (·.size)=some (tokC t).toArray.size:=szTok
theorem cop_next{q d k:Nat}{L:List Nat}(hq:q=L.length)(hd:1≤d)(hdq:d≤q):lst (L++copL L d k) (q+k-d)=lst (L++copL L d (k+1)) (q+k):=by
 subst hq
 have h1:=cop_ahead (n:=L.length) (d:=d) (i:=k) (f:=lst L) hd hdq
 have g:∀m j,j<m→lst (L++copL L d m) (L.length+j)=copF L.length (lst L) d j:=fun m j hj=>by
  unfold lst copL
  rw[List.getD_eq_getElem?_getD,List.getElem?_append_right (by omega),Nat.add_sub_cancel_left]
  simp[hj]
  unfold copF
  rfl
 rw[g (k+1) k (by omega),h1]
 unfold cat
 by_cases h:L.length+k-d<L.length
 ·rw[if_pos h]
  unfold lst
  rw[List.getD_eq_getElem?_getD,List.getD_eq_getElem?_getD,List.getElem?_append_left h]
 ·rw[if_neg h]
  have h2:=g k (L.length+k-d-L.length) (by omega)
  rw[show L.length+(L.length+k-d-L.length)=L.length+k-d by omega]at h2
  exact h2
theorem copL_ext{q d k:Nat}{L:List Nat}(hq:q=L.length):bytesL (q+k) (lst (L++copL L d k))=bytesL (q+k) (lst (L++copL L d (k+1))):=by
 subst hq
 refine bytesL_ext fun j hj=>?_
 unfold lst copL
 rw[List.getD_eq_getElem?_getD,List.getD_eq_getElem?_getD]
 rcases Nat.lt_or_ge j L.length with h|h
 ·rw[List.getElem?_append_left h,List.getElem?_append_left h]
 ·rw[List.getElem?_append_right h,List.getElem?_append_right h]
  have h2:j-L.length<k:=by omega
  have h3:j-L.length<k+1:=by omega
  simp[h2,h3]
theorem behind8_any(w:World)(base:Nat)(t:Tok)(At:Option Addr)(ct q:Nat)(L:List Nat)(hq:q=L.length)(hL:∀x∈L,x<256)(hx:t.x<256)(hown:w.ownsRow base 5 1 (.slice At q ct) q (bytesL q (lst L)))(hbase:base≤w.heap.size)(hqb:q≤1000000)
  (hm:mayT t=true) (hd:t.d≤(q:Int)):
  Calls Tryz.prog 115 #[.agg #[.int .u8 (t.x:Int),.int .i64 t.d,.int .i64 t.n],.slice At q ct] w fun e w'=>∃A' q' c',e=.returned (.slice A' q' c')∧q'=(stpT L t).length∧w'.ownsRow base 5 1 (.slice A' q' c') q' (bytesL q' (lst (stpT L t)))∧Below base w w':=by
 obtain⟨x,d,n⟩:=t
 obtain⟨W1,hW1⟩:∃W1,W1=w.alloc (.cells #[.int .u8 (x:Int),.int .i64 d,.int .i64 n] 182):=⟨_,rfl⟩
 have HW1:=Lib.hid hW1
 have hb1:Below w.heap.size w W1:=by rw[hW1];exact(Below.refl _ _).alloc (Nat.le_refl _) _
 have hs1:W1.heap.size=w.heap.size+1:=by rw[hW1];simp
 have hrow:W1.heap[w.heap.size]?=some (.cells #[.int .u8 (x:Int),.int .i64 d,.int .i64 n] 182 (0,0)):=by rw[hW1];exact heap_alloc_new w _
 have HB1:=Lib.hid hb1;have HS1:=Lib.hid hs1;have HROW:=Lib.hid hrow
 have HM:=Lib.hid (copies8_any W1 ⟨x,d,n⟩)
 have HL:=Lib.hid hL;have HQ:=Lib.hid hq
 have hown1:=own_keep hown hb1
 have HO1:=Lib.hid hown1
 obtain⟨h,hh⟩:∃h,h=w.heap.size:=⟨_,rfl⟩
 have HH:=Lib.hid hh
 have hbh:base≤h:=by omega
 clear hW1 hb1 hs1 hrow hown hown1 hL hq hh
 obtain⟨b,hb⟩:∃b,b=cpyT ⟨x,d,n⟩:=⟨_,rfl⟩
 rw[←hb]at HM
 have hz:b=false↔n=0:=by
  rw[hb];simp only[cpyT,Bool.or_eq_false_iff,bne_eq_false_iff_eq]
  have:=mayT_is hm;simp at this;omega
 have HZ:=Lib.hid hz;have HMT:=Lib.hid hm
 clear hz hb hm
 go_enter Tryz.func115,Tryz.ntmps115
 go_wp2_with fail
 rw[←HW1.out,←HH.out]
 refine HM.out.mono ?_
 rintro e w2 ⟨rfl,hb2⟩
 have hb02:=HB1.out.trans (hb2.mono HB1.out.size)
 have HB2:=Lib.hid (show Below base w w2 from hb02.mono (by rw[←HH.out];exact hbh))
 have hr2:w2.heap[h]?=some (.cells #[.int .u8 (x:Int),.int .i64 d,.int .i64 n] 182 (0,0)):=by rw[HH.out];exact(hb2.block _ (by have:=HS1.out;omega)).trans HROW.out
 have HO2:=Lib.hid (own_keep HO1.out hb2)
 have hs2:h<w2.heap.size:=by have:=hb2.size;have:=HS1.out;have:=HH.out;omega
 have HR2:=Lib.hid hr2
 have x0:w2.cell? ⟨h,0,none⟩=some (.int .u8 (x:Int)):=(cell_of_row w2 _ 0 _ _ (0,0) hr2).trans rfl
 have x2:w2.cell? ⟨h,2,none⟩=some (.int .i64 n):=(cell_of_row w2 _ 2 _ _ (0,0) hr2).trans rfl
 clear hb2 hr2 hb02 HM HROW HB1 HW1 HO1
 cases b with
 |false=>
  obtain rfl:n=0:=HZ.out.1 rfl
  obtain⟨q1,q2⟩:=lst_one L x
  have hstp:stpT L ⟨x,d,0⟩=L++[x]:=by unfold stpT;rw[if_pos rfl]
  have hL2:∀y∈L++[x],y<256:=by rw[←hstp];exact stp_lt HL.out hx
  rw[←HQ.out]at q1 q2
  obtain⟨A',c',w',hr2,ho2,hb3⟩:=run_oneB w2 base At q ct (lst (L++[x])) (lst_lt hL2) (by rw[←q1];exact HO2.out) x q2.symm (by omega) (by omega)
  have hq1:q+1=(stpT L ⟨x,d,0⟩).length:=by rw[hstp,List.length_append,←HQ.out];rfl
  rw[←hstp]at ho2
  have HRUN:=Lib.hid hr2;have HO3:=Lib.hid ho2;have HB3:=Lib.hid (HB2.out.trans hb3);have HQ1:=Lib.hid hq1
  clear hr2 ho2 hb3 hq1 hL2 q1 q2 hstp
  go_wp2_with (at_builtin;refine wpList_append_run rfl (.tmp 8) (.tmp 11) 22 rfl (.slice At q ct) (.slice (some ⟨w2.heap.size,0,none⟩) 1 1) (.slice A' (q+1) c') w' rfl rfl HRUN.out ?_)
  go_ret
  exact⟨A',q+1,c',rfl,HQ1.out,HO3.out,HB3.out⟩
 |true=>
  have hn0:n≠0:=fun e=>by have:=HZ.out.2 e;cases this
  have hmt:x=0∧3≤n∧n≤258∧1≤d∧d≤32768:=by
   have:=mayT_is HMT.out;simp at this;omega
  obtain⟨N,hN⟩:∃N:Nat,(N:Int)=n:=⟨n.toNat,Int.toNat_of_nonneg (by omega)⟩
  obtain⟨D,hD⟩:∃D:Nat,(D:Int)=d:=⟨d.toNat,Int.toNat_of_nonneg (by omega)⟩
  subst hN;subst hD
  have hN1:3≤N∧N≤258:=by omega
  have hD1:1≤D∧D≤32768∧D≤q:=by simp at hd;omega
  have hstp:stpT L ⟨x,(D:Int),(N:Int)⟩=L++copL L D N:=by unfold stpT;rw[if_neg (by simpa using hn0)];rfl
  have HSTP:=Lib.hid hstp
  have hlt6:∀k,∀j,lst (L++copL L D k) j<256:=fun k=>lst_lt fun y hy=>by
   rw[List.mem_append]at hy
   rcases hy with hy|hy
   ·exact HL.out y hy
   ·unfold copL at hy;rw[List.mem_map]at hy;obtain⟨i,_,rfl⟩:=hy;exact lst_lt HL.out _
  have HLT:=Lib.hid hlt6
  have ho0:w2.ownsRow base 5 1 (.slice At q ct) q (bytesL q (lst (L++copL L D 0))):=by
   have e:L++copL L D 0=L:=by simp[copL]
   rw[e];exact HO2.out
  have HO0:=Lib.hid ho0
  clear hstp hlt6 ho0 hmt hn0 hd HO2
  go_wp2
  go_loopw [1,15] (fun bv iv wr=>∃(i p:Nat) (Ai:Option Addr) (ci:Nat),i≤N∧p=q+i∧bv=.slice Ai p ci∧iv=.int .i64 (i:Int)∧Hid (wr.ownsRow base 5 1 (.slice Ai p ci) p (bytesL p (lst (L++copL L D i))))∧Hid (Below base w wr)∧Hid (wr.heap[h]?=some (.cells #[.int .u8 (x:Int),.int .i64 (D:Int),.int .i64 (N:Int)] 182 (0,0)))) (fun _ iv _=>N-(intOf iv).toNat)
  case atStart=>exact⟨0,q,At,ct,Nat.zero_le _,rfl,rfl,rfl,HO0,HB2,HR2⟩
  case round=>
   obtain⟨i,p,Ai,ci,hi,hp,rfl,rfl,HO,HB,HRW⟩:=hrel
   by_cases hlt:i<N
   ·have hlti:(i:Int)<(N:Int):=by omega
    have hby:=ByR.of_own HO.out (HLT.out i)
    obtain⟨bb,o,rfl,hbl,hc⟩:=hby.1.2 (by omega)
    have z1:wr.cell? ⟨h,1,none⟩=some (.int .i64 (D:Int)):=(cell_of_row wr _ 1 _ _ (0,0) HRW.out).trans rfl
    obtain⟨r,hr⟩:∃r,r=p-D:=⟨_,rfl⟩
    have er:(p:Int)-(D:Int)=(r:Int):=by omega
    have z2:=hc r (by omega)
    have hnx:=cop_next (k:=i) HQ.out hD1.1 hD1.2.2
    rw[show q+i-D=r by omega,←hp]at hnx
    rw[hnx]at z2
    have hex:=copL_ext (d:=D) (k:=i) HQ.out
    rw[←hp]at hex
    obtain⟨A',c',w',hr2,ho2,hb3,hkk⟩:=run_oneB_g wr base (some ⟨bb,o,none⟩) p ci (lst (L++copL L D (i+1))) (by rw[←hex];exact HO.out) _ rfl (by omega) (by have:=(Array.getElem?_eq_some_iff.1 HRW.out).1;omega)
    obtain⟨u,hu⟩:∃u,u=lst (L++copL L D (i+1)) p:=⟨_,rfl⟩
    rw[←hu]at z2 hr2
    have hrp:r<p:=by omega
    have hri:(r:Int)<(p:Int):=by omega
    have hr0:(0:Int)≤(r:Int):=by omega
    have hpb:p≤2000000:=by omega
    have HRUN:=Lib.hid hr2;have HO3:=Lib.hid ho2;have HB3:=Lib.hid (HB.out.trans hb3)
    have hq1:p+1=q+(i+1):=by omega
    have HQ1:=Lib.hid hq1
    have HRW2:Hid (w'.heap[h]?=some (.cells #[.int .u8 (x:Int),.int .i64 (D:Int),.int .i64 (N:Int)] 182 (0,0))):=Lib.hid ((hkk h (Array.getElem?_eq_some_iff.1 HRW.out).1 (own_type HO.out HRW.out (by kernel_rfl))).trans HRW.out)
    clear hr2 ho2 hb3 hc hby hnx hex hu hr hp hq1 hkk
    go_wp2_with (at_builtin;refine wpList_append_run rfl (.tmp 17) (.tmp 26) 22 rfl (.slice (some ⟨bb,o,none⟩) p ci) (.slice (some ⟨wr.heap.size,0,none⟩) 1 1) (.slice A' (p+1) c') w' rfl rfl HRUN.out ?_)
    go_roundw
    case rel=>exact⟨i+1,p+1,A',c',by omega,HQ1.out,rfl,by go_num,HO3,HB3,HRW2⟩
    case measure=>simp[intOf];omega
   ·obtain rfl:i=N:=by omega
    have hlti:¬(i:Int)<(i:Int):=by omega
    have hfin:p=(stpT L ⟨x,(D:Int),(i:Int)⟩).length:=by rw[HSTP.out,List.length_append,←HQ.out,hp];simp[copL]
    have hown3:wr.ownsRow base 5 1 (.slice Ai p ci) p (bytesL p (lst (stpT L ⟨x,(D:Int),(i:Int)⟩))):=by rw[HSTP.out];exact HO.out
    subst hp
    have HFIN:=Lib.hid hfin;have HO3:=Lib.hid hown3
    clear hfin hown3
    go_wp2
    go_ret
    exact⟨Ai,q+i,ci,rfl,HFIN.out,HO3.out,HB.out⟩
end Go.Proofs.YtgokdgcmkcmjeaaGreat
namespace Go.Proofs.YtgokdgcmkcmjeaaGreat
open Go.RowKit
theorem run_app_s{T E:TypeId}{z:Value}{sz by_:Nat}(hT:Tryz.prog.underlying T=some (.slice E))(hI:(Tryz.prog.info? E).map (fun i=>(i.zero,i.size,i.bytes))=some (some z,sz,by_))(hz:z.cells.size=sz)(hsz:0<sz)
  (w:World) (base B:Nat) (v0:Value) (n:Nat) (xs:List Value) (hown:w.ownsRow base E sz v0 n xs) (A:Option Addr) (m c:Nat) (ys:List Value) (hr:SrcL w B sz A m ys) (h1:∀u∈ys,u.oneCell'=true)
  (hnm:n+m≤maxLen) (hby:(n+m)*by_≤140737488355328) (ty:TypeId) (hA:A=none→c=0) (hbase:base≤w.heap.size):
  ∃A' c' w',(Builtin.append_ #[T,T] ty #[v0,.slice A m c]).run Tryz.prog w=.ok (.slice A' (n+m) c') w'∧w'.ownsRow base E sz (.slice A' (n+m) c') (n+m) (xs++ys)∧w.grownBy w' v0.ownBlock∧((Value.slice A' (n+m) c').ownBlock=v0.ownBlock∨(Value.slice A' (n+m) c').ownBlock=some w.heap.size):=by
 obtain⟨i0,hi,hz0,hz1,hz2⟩:=info_parts hI
 have key:∃v' w',(Builtin.append_ #[T,T] ty #[v0,.slice A m c]).run Tryz.prog w=.ok v' w'∧w'.ownsRow base E sz v' (n+m) (xs++ys)∧w.grownBy w' v0.ownBlock∧(v'.ownBlock=v0.ownBlock∨v'.ownBlock=some w.heap.size):=by
  rcases A with _|ad
  ·have h0:m=0:=by
    rcases Nat.eq_zero_or_pos m with h|h
    ·exact h
    ·obtain⟨b,o,h,_⟩:=hr.2 h;cases h
   subst h0
   obtain rfl:=hA rfl
   have hy:ys=[]:=List.length_eq_zero_iff.1 (by have:=hr.1;omega)
   subst hy
   refine⟨v0,w,run_append_owned_none (P:=Tryz.prog) (w:=w) base T ty E i0 sz hT hi v0 n _ hown,?_,World.grownBy.refl _ _,.inl rfl⟩
   simpa using hown
  ·have hcells:∀j u,ys[j]?=some u→w.cell? (ad.add j)=some u:=by
    intro j u hu
    have hm:0<m:=by
     rcases Nat.eq_zero_or_pos m with h|h
     ·have hy:ys=[]:=List.length_eq_zero_iff.1 (by have:=hr.1;rw[h]at this;omega)
      rw[hy]at hu;cases hu
     ·exact h
    obtain⟨b,o,h,_,hc⟩:=hr.2 hm
    injection h with h
    subst h
    have e:(⟨b,o,none⟩:Addr).add j=⟨b,o+j,none⟩:=by unfold Addr.add;split<;>simp_all
    rw[e];exact hc j u hu
   obtain⟨v',w',h1,h2,h3,_,h5⟩:=run_append_own_at (P:=Tryz.prog) w base T ty E i0 z sz by_ hT hi hz0 hz1 hz2 hz hsz v0 n xs hown ad m c ys hr.1 hcells h1 hnm hby hbase
   exact⟨v',w',h1,h2,h3,h5⟩
 obtain⟨v',w',h1,h2,h3,h5⟩:=key
 have hv:∃A' c',v'=.slice A' (n+m) c':=by
  rcases h2.2 with⟨rfl,h⟩|⟨g,cap,cur,rfl,_⟩
  ·exact⟨none,0,by rw[h]⟩
  ·exact⟨_,_,rfl⟩
 obtain⟨A',c',rfl⟩:=hv
 exact⟨A',c',w',h1,h2,h3,h5⟩
theorem run_oneB_s(w:World)(base:Nat)(A:Option Addr)(n c:Nat)(F:Nat→Nat)(hown:w.ownsRow base 5 1 (.slice A n c) n (bytesL n F))(x:Nat)(hx:x=F n)(hn:n≤1000000000)(hbase:base≤w.heap.size):
  ∃A' c' w',(Builtin.append_ #[22,22] 22 #[.slice A n c,.slice (some ⟨w.heap.size,0,none⟩) 1 1]).run Tryz.prog (w.alloc (.cells #[.int .u8 (x:Int)] 5))=.ok (.slice A' (n+1) c') w'∧
   w'.ownsRow base 5 1 (.slice A' (n+1) c') (n+1) (bytesL (n+1) F)∧Below base w w'∧(∀k,k<w.heap.size→(Value.slice A n c).ownBlock≠some k→w'.heap[k]?=w.heap[k]?)∧(∀j,(Value.slice A' (n+1) c').ownBlock=some j→(Value.slice A n c).ownBlock=some j∨w.heap.size≤j):=by
 subst hx
 have hb1:Below base w (w.alloc (.cells #[.int .u8 (F n:Int)] 5)):=(Below.refl base w).alloc hbase _
 have ho1:=hown.alloc (.cells #[.int .u8 (F n:Int)] 5)
 obtain⟨A',c',w',h2,o2,b2,h5⟩:=run_app_s (z:=.int .u8 0) (by_:=1) Tryz.underlying22 infoU8 rfl (by decide) (w.alloc (.cells #[.int .u8 (F n:Int)] 5)) base _ (.slice A n c) n _ ho1 _ 1 1 _
  (SrcL.new w 1 1 #[.int .u8 (F n:Int)] 5 rfl) (fun u hu=>by simp at hu;subst hu;rfl) (by unfold maxLen;omega) (by omega) 22 (fun h=>by cases h) (Nat.le_trans hbase hb1.size)
 refine⟨A',c',w',h2,?_,hb1.trans ((Below.refl base _).grown b2 (Nat.le_trans hbase hb1.size) (own_geS ho1)),fun k hk hne=>?_,fun j hj=>?_⟩
 ·have e:bytesL n F++(#[Value.int .u8 (F n:Int)]:Array Value).toList=bytesL (n+1) F:=by
   unfold bytesL;rw[List.range_succ,List.map_append];rfl
  rw[e]at o2
  exact o2
 ·refine(b2.block k (by simp;omega) (fun e=>hne e.symm)).trans ?_
  exact(Below.refl w.heap.size w).alloc (Nat.le_refl _) (.cells #[.int .u8 (F n:Int)] 5)|>.block k hk
 ·rcases h5 with h5|h5
  ·exact .inl (h5▸hj)
  ·rw[h5]at hj
   injection hj with hj
   simp at hj
   exact .inr (by omega)
end Go.Proofs.YtgokdgcmkcmjeaaGreat
