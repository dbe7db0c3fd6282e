/-
  Words and walks.
-/
import Derived.Lib.SliceRun
import Derived.Great.BuildSlice
import Derived.Laws.Tables
import Derived.BigRegion
import Derived.Deep.RegionLaw
import Derived.Test.YtokpcpjnihinfaaGreatpnaa
import Derived.Test.YtokpcpjnihinfaaGreatpnab
import Derived.Test.YtokpcpjnihinfaaGreatpnac
import Derived.Test.YtokpcpjnihinfaaGreatpnad
import Derived.Test.YtokpcpjnihinfaaGreatpnag
import Derived.Test.YtokpcpjnihinfaaGreatpnaj
set_option maxRecDepth 100000
set_option maxHeartbeats 16000000
namespace Go.Proofs.YtokpcpjnihinfaaGreat
open Go.RowKit Go.ChangeShapes Go.WideShapes Go.ChangeAt Go.Joins
theorem sty8_any(w:World)(s h m:Int)(z:Bool):Calls Tryz.prog 31 #[.agg #[.int .i64 s,.int .i64 h,.int .i64 m,.bool z]] w fun e w'=>e=.returned (.int .i64 (styE s h m))∧Below w.heap.size w w':=by
 have HB:=Lib.hid ((Below.refl w.heap.size w).alloc (Nat.le_refl _) (.cells #[.int .i64 s,.int .i64 h,.int .i64 m,.bool z] 27))
 by_cases y0:s<1
 ·have d0:decide (s<1)=true:=by simp;omega
  have e:styE s h m=8:=by unfold styE;rw[if_neg];unfold mayS;simp;omega
  rw[e]
  go_enter Tryz.func31,Tryz.ntmps31
  go_wp2
  go_ret
  exact⟨rfl,HB.out⟩
 have d0:decide (s<1)=false:=by simp;omega
 by_cases y1:32768<s
 ·have d1:decide (32768<s)=true:=by simp;omega
  have e:styE s h m=8:=by unfold styE;rw[if_neg];unfold mayS;simp;omega
  rw[e]
  go_enter Tryz.func31,Tryz.ntmps31
  go_wp2
  go_ret
  exact⟨rfl,HB.out⟩
 have d1:decide (32768<s)=false:=by simp;omega
 by_cases y2:h<0
 ·have d2:decide (h<0)=true:=by simp;omega
  have e:styE s h m=8:=by unfold styE;rw[if_neg];unfold mayS;simp;omega
  rw[e]
  go_enter Tryz.func31,Tryz.ntmps31
  go_wp2
  go_ret
  exact⟨rfl,HB.out⟩
 have d2:decide (h<0)=false:=by simp;omega
 by_cases y3:256<h
 ·have d3:decide (256<h)=true:=by simp;omega
  have e:styE s h m=8:=by unfold styE;rw[if_neg];unfold mayS;simp;omega
  rw[e]
  go_enter Tryz.func31,Tryz.ntmps31
  go_wp2
  go_ret
  exact⟨rfl,HB.out⟩
 have d3:decide (256<h)=false:=by simp;omega
 by_cases y4:m<1
 ·have d4:decide (m<1)=true:=by simp;omega
  have e:styE s h m=8:=by unfold styE;rw[if_neg];unfold mayS;simp;omega
  rw[e]
  go_enter Tryz.func31,Tryz.ntmps31
  go_wp2
  go_ret
  exact⟨rfl,HB.out⟩
 have d4:decide (m<1)=false:=by simp;omega
 by_cases y5:65535<m
 ·have d5:decide (65535<m)=true:=by simp;omega
  have e:styE s h m=8:=by unfold styE;rw[if_neg];unfold mayS;simp;omega
  rw[e]
  go_enter Tryz.func31,Tryz.ntmps31
  go_wp2
  go_ret
  exact⟨rfl,HB.out⟩
 have d5:decide (65535<m)=false:=by simp;omega
 have e:styE s h m=0:=by unfold styE;rw[if_pos];unfold mayS;simp;omega
 rw[e]
 go_enter Tryz.func31,Tryz.ntmps31
 go_wp2
 go_ret
 exact⟨rfl,HB.out⟩
def cpyT(t:Tok):Bool:=t.n !=0||t.d !=0
theorem copies8_any(w:World)(t:Tok):Calls Tryz.prog 124 #[.agg #[.int .u8 (t.x:Int),.int .i64 t.d,.int .i64 t.n]] w fun e w'=>e=.returned (.bool (cpyT t))∧Below w.heap.size w w':=by
 obtain⟨x,d,n⟩:=t
 have HB:=Lib.hid ((Below.refl w.heap.size w).alloc (Nat.le_refl _) (.cells #[.int .u8 (x:Int),.int .i64 d,.int .i64 n] 127))
 by_cases h0:n=0
 ·subst h0
  have e:cpyT ⟨x,d,0⟩=(d !=0):=by simp[cpyT]
  rw[e]
  clear e
  go_enter Tryz.func124,Tryz.ntmps124
  go_wp2
  go_ret
  exact⟨rfl,HB.out⟩
 ·have e0:(n !=0)=true:=by simp[h0]
  have e:cpyT ⟨x,d,n⟩=true:=by simp[cpyT,h0]
  rw[e]
  clear e
  go_enter Tryz.func124,Tryz.ntmps124
  go_wp2
  go_ret
  exact⟨rfl,HB.out⟩
theorem wide8_any(w:World)(t:Tok):Calls Tryz.prog 104 #[.agg #[.int .u8 (t.x:Int),.int .i64 t.d,.int .i64 t.n]] w fun e w'=>e=.returned (.int .i64 (if t.n<1 then 1 else t.n))∧Below w.heap.size w w':=by
 obtain⟨x,d,n⟩:=t
 have HB:=Lib.hid ((Below.refl w.heap.size w).alloc (Nat.le_refl _) (.cells #[.int .u8 (x:Int),.int .i64 d,.int .i64 n] 127))
 by_cases h0:n<1
 ·rw[if_pos h0]
  go_enter Tryz.func104,Tryz.ntmps104
  go_wp2
  go_ret
  exact⟨rfl,HB.out⟩
 ·rw[if_neg h0]
  go_enter Tryz.func104,Tryz.ntmps104
  go_wp2
  go_ret
  exact⟨rfl,HB.out⟩
theorem tok8_any(w:World)(t:Tok)(_:TokIn t):Calls Tryz.prog 98 #[.agg #[.int .u8 (t.x:Int),.int .i64 t.d,.int .i64 t.n]] w fun e w'=>e=.returned (.int .i64 (tokE t))∧Below w.heap.size w w':=by
 obtain⟨x,d,n⟩:=t
 obtain⟨W1,hW1⟩:∃W1,W1=w.alloc (.cells #[.int .u8 (x:Int),.int .i64 d,.int .i64 n] 128):=⟨_,rfl⟩
 have HW1:=Lib.hid hW1
 have hb1:Below w.heap.size w W1:=by rw[hW1];exact(Below.refl _ _).alloc (Nat.le_refl _) _
 have hs1:W1.heap.size=w.heap.size+1:=by rw[hW1];simp
 have hrow:W1.heap[w.heap.size]?=some (.cells #[.int .u8 (x:Int),.int .i64 d,.int .i64 n] 128 (0,0)):=by rw[hW1];exact heap_alloc_new w _
 have HB1:=Lib.hid hb1;have HS1:=Lib.hid hs1;have HROW:=Lib.hid hrow
 have HM:=Lib.hid (copies8_any W1 ⟨x,d,n⟩)
 clear hW1 hb1 hs1 hrow
 obtain⟨E,hE⟩:∃E,E=tokE ⟨x,d,n⟩:=⟨_,rfl⟩
 rw[←hE]
 obtain⟨b,hb⟩:∃b,b=cpyT ⟨x,d,n⟩:=⟨_,rfl⟩
 rw[←hb]at HM
 have HE:=Lib.hid hE;have HBB:=Lib.hid hb
 clear hE hb
 go_enter Tryz.func98,Tryz.ntmps98
 go_wp2_with fail
 rw[←HW1.out]
 refine HM.out.mono ?_
 rintro e w2 ⟨rfl,hb2⟩
 have HB2:=Lib.hid (HB1.out.trans (hb2.mono HB1.out.size))
 have hr2:w2.heap[w.heap.size]?=some (.cells #[.int .u8 (x:Int),.int .i64 d,.int .i64 n] 128 (0,0)):=(hb2.block _ (by have:=HS1.out;omega)).trans HROW.out
 have x0:w2.cell? ⟨w.heap.size,0,none⟩=some (.int .u8 (x:Int)):=(cell_of_row w2 _ 0 _ _ (0,0) hr2).trans rfl
 have x1:w2.cell? ⟨w.heap.size,1,none⟩=some (.int .i64 d):=(cell_of_row w2 _ 1 _ _ (0,0) hr2).trans rfl
 have x2:w2.cell? ⟨w.heap.size,2,none⟩=some (.int .i64 n):=(cell_of_row w2 _ 2 _ _ (0,0) hr2).trans rfl
 clear hb2 hr2
 cases b with
 |false=>
  have hz:n=0∧d=0:=by have h:=HBB.out.symm;simp[cpyT]at h;exact h
  obtain rfl:E=0:=by rw[HE.out];unfold tokE;rw[if_pos];simp[mayT,hz.1,hz.2]
  go_wp2
  go_ret
  exact⟨rfl,HB2.out⟩
 |true=>
  have hz:¬(n=0∧d=0):=by have h:=HBB.out.symm;simp[cpyT]at h;omega
  have key:∀P:Prop,(mayT ⟨x,d,n⟩=true↔P)→(¬P→E=8)∧(P→E=0):=fun P hP=>⟨fun h=>by rw[HE.out];unfold tokE;rw[if_neg (fun g=>h (hP.1 g))],fun h=>by rw[HE.out];unfold tokE;rw[if_pos (hP.2 h)]⟩
  have hk:=key (¬n<3∧¬258<n∧¬d<1∧¬32768<d∧x=0) (by unfold mayT;simp only[decide_eq_true_eq];omega)
  clear key
  by_cases y0:n<3
  ·have d0:decide (n<3)=true:=by simp;omega
   obtain rfl:E=8:=hk.1 (by omega)
   clear hk
   go_wp2
   go_ret
   exact⟨rfl,HB2.out⟩
  have d0:decide (n<3)=false:=by simp;omega
  by_cases y1:258<n
  ·have d1:decide (258<n)=true:=by simp;omega
   obtain rfl:E=8:=hk.1 (by omega)
   clear hk
   go_wp2
   go_ret
   exact⟨rfl,HB2.out⟩
  have d1:decide (258<n)=false:=by simp;omega
  by_cases y2:d<1
  ·have d2:decide (d<1)=true:=by simp;omega
   obtain rfl:E=8:=hk.1 (by omega)
   clear hk
   go_wp2
   go_ret
   exact⟨rfl,HB2.out⟩
  have d2:decide (d<1)=false:=by simp;omega
  by_cases y3:32768<d
  ·have d3:decide (32768<d)=true:=by simp;omega
   obtain rfl:E=8:=hk.1 (by omega)
   clear hk
   go_wp2
   go_ret
   exact⟨rfl,HB2.out⟩
  have d3:decide (32768<d)=false:=by simp;omega
  by_cases y4:x=0
  ·subst y4
   have d4:(((0:Nat):Int) !=0)=false:=by decide
   obtain rfl:E=0:=hk.2 (by omega)
   clear hk
   go_wp2
   go_ret
   exact⟨rfl,HB2.out⟩
  ·have d4:((x:Int) !=0)=true:=by simp;omega
   obtain rfl:E=8:=hk.1 (by omega)
   clear hk
   go_wp2
   go_ret
   exact⟨rfl,HB2.out⟩
theorem clone8_any(w:World)(A:Option Addr)(n c:Nat)(f:Nat→Nat)(hr:ByR w w.heap.size A n c f)(hn:n≤2000000):
  Calls Tryz.prog 63 #[.slice A n c] w fun e w'=>∃A' c',e=.returned (.slice A' n c')∧w'.ownsRow w.heap.size 5 1 (.slice A' n c') n (bytesL n f)∧Below w.heap.size w w':=by
 rcases A with _|ad
 ·obtain rfl:=hr.2.1 rfl
  have h0:n=0:=by have:=hr.2.2.1;omega
  subst h0
  clear hr
  have q22:∀(w:World) (a:Option Addr) (n c n' c':Nat),(binOp .eql 22 (.slice a n c) (.slice none n' c')).run Tryz.prog w=.ok (.bool a.isNone) w:=fun w a n c n' c'=>Lib.run_eql_slice_nil w _ _ a n c n' c' Tryz.underlying22
  go_enter Tryz.func63,Tryz.ntmps63
  go_wp2
  go_ret
  exact⟨none,0,rfl,World.ownsRow_nil _ _ _ _,Below.refl _ _⟩
 ·have q22:∀(w:World) (a:Option Addr) (n c n' c':Nat),(binOp .eql 22 (.slice a n c) (.slice none n' c')).run Tryz.prog w=.ok (.bool a.isNone) w:=fun w a n c n' c'=>Lib.run_eql_slice_nil w _ _ a n c n' c' Tryz.underlying22
  have hb1:Below w.heap.size w (w.alloc (.cells #[] 5)):=(Below.refl _ _).alloc (Nat.le_refl _) _
  have hown:(w.alloc (.cells #[] 5)).ownsRow w.heap.size 5 1 (.slice (some ⟨w.heap.size,0,none⟩) 0 0) 0 (bytesL 0 f):=World.ownsRow_made w #[] 0 (Nat.le_refl _) (Nat.zero_le _) rfl
  obtain⟨A',c',w',h1,h2,h3⟩:=run_more _ w.heap.size (w.alloc (.cells #[] 5)).heap.size _ 0 f hown (some ad) n c f ((hr.1.below hb1 (Nat.le_refl _)).more hb1.size) (by omega) 22 (fun h=>by cases h) hb1.size
  rw[Nat.zero_add]at h1 h2
  have e:cat f 0 f=f:=by funext j;unfold cat;rw[if_neg (by omega)];rfl
  rw[e]at h2
  have HRUN:=Lib.hid h1;have HOWN:=Lib.hid h2;have HB:=Lib.hid (hb1.trans h3)
  clear h1 h2 h3 hown hb1 hr e
  go_enter Tryz.func63,Tryz.ntmps63
  go_wp2_with (at_builtin;refine wpList_append_run rfl (.tmp 5) (.tmp 6) 22 rfl (.slice (some ⟨w.heap.size,0,none⟩) 0 0) (.slice (some ad) n c) (.slice A' n c') w' rfl rfl HRUN.out ?_)
  go_ret
  exact⟨A',c',rfl,HOWN.out,HB.out⟩
theorem own_type{w:World}{base sz n h:Nat}{e t:TypeId}{v:Value}{xs:List Value}{cs:Array Value}(ho:w.ownsRow base e sz v n xs)(hh:w.heap[h]?=some (.cells cs t (0,0)))(hne:(e==t)=false):v.ownBlock≠some h:=fun hk=>by
 rcases ho.2 with⟨rfl,_⟩|⟨g,cap,cur,rfl,_,hg,_⟩
 ·simp[Value.ownBlock]at hk
 ·simp[Value.ownBlock]at hk
  subst hk
  rw[hg]at hh
  injection hh with hh
  injection hh with _ h2 _
  rw[h2]at hne;simp at hne
theorem below_row8{B:Nat}{a w:World}(h:Below B a w){g:Nat}(hp:B≤g)(cs:Array Value):Below B a (w.setRow g cs):=
 ⟨h.os,h.tape,h.output,by rw[size_setRow];exact h.size,fun k hk=>(setRow_other w g k cs (by omega)).trans (h.block k hk)⟩
theorem tokA_one(t:Tok):(tokC t).toArray.all (·.oneCell')=true:=by simp[tokC,Value.oneCell']
theorem szTokA(t:Tok):(Tryz.prog.info? 128).map (·.size)=some (tokC t).toArray.size:=szTok
end Go.Proofs.YtokpcpjnihinfaaGreat
namespace Go.Proofs.YtokpcpjnihinfaaGreat
open Go.RowKit
theorem run_app_s{T E:TypeId}{z:Value}{sz by_:Nat}(hT:Tryz.prog.underlying T=some (.slice E))(hI:(Tryz.prog.info? E).map (fun i=>(i.zero,i.size,i.bytes))=some (some z,sz,by_))(hz:z.cells.size=sz)(hsz:0<sz)
  (w:World) (base B:Nat) (v0:Value) (n:Nat) (xs:List Value) (hown:w.ownsRow base E sz v0 n xs) (A:Option Addr) (m c:Nat) (ys:List Value) (hr:SrcL w B sz A m ys) (h1:∀u∈ys,u.oneCell'=true)
  (hnm:n+m≤maxLen) (hby:(n+m)*by_≤140737488355328) (ty:TypeId) (hA:A=none→c=0) (hbase:base≤w.heap.size):
  ∃A' c' w',(Builtin.append_ #[T,T] ty #[v0,.slice A m c]).run Tryz.prog w=.ok (.slice A' (n+m) c') w'∧w'.ownsRow base E sz (.slice A' (n+m) c') (n+m) (xs++ys)∧w.grownBy w' v0.ownBlock∧((Value.slice A' (n+m) c').ownBlock=v0.ownBlock∨(Value.slice A' (n+m) c').ownBlock=some w.heap.size):=by
 obtain⟨i0,hi,hz0,hz1,hz2⟩:=info_parts hI
 have key:∃v' w',(Builtin.append_ #[T,T] ty #[v0,.slice A m c]).run Tryz.prog w=.ok v' w'∧w'.ownsRow base E sz v' (n+m) (xs++ys)∧w.grownBy w' v0.ownBlock∧(v'.ownBlock=v0.ownBlock∨v'.ownBlock=some w.heap.size):=by
  rcases A with _|ad
  ·have h0:m=0:=by
    rcases Nat.eq_zero_or_pos m with h|h
    ·exact h
    ·obtain⟨b,o,h,_⟩:=hr.2 h;cases h
   subst h0
   obtain rfl:=hA rfl
   have hy:ys=[]:=List.length_eq_zero_iff.1 (by have:=hr.1;omega)
   subst hy
   refine⟨v0,w,run_append_owned_none (P:=Tryz.prog) (w:=w) base T ty E i0 sz hT hi v0 n _ hown,?_,World.grownBy.refl _ _,.inl rfl⟩
   simpa using hown
  ·have hcells:∀j u,ys[j]?=some u→w.cell? (ad.add j)=some u:=by
    intro j u hu
    have hm:0<m:=by
     rcases Nat.eq_zero_or_pos m with h|h
     ·have hy:ys=[]:=List.length_eq_zero_iff.1 (by have:=hr.1;rw[h]at this;omega)
      rw[hy]at hu;cases hu
     ·exact h
    obtain⟨b,o,h,_,hc⟩:=hr.2 hm
    injection h with h
    subst h
    have e:(⟨b,o,none⟩:Addr).add j=⟨b,o+j,none⟩:=by unfold Addr.add;split<;>simp_all
    rw[e];exact hc j u hu
   obtain⟨v',w',h1,h2,h3,_,h5⟩:=run_append_own_at (P:=Tryz.prog) w base T ty E i0 z sz by_ hT hi hz0 hz1 hz2 hz hsz v0 n xs hown ad m c ys hr.1 hcells h1 hnm hby hbase
   exact⟨v',w',h1,h2,h3,h5⟩
 obtain⟨v',w',h1,h2,h3,h5⟩:=key
 have hv:∃A' c',v'=.slice A' (n+m) c':=by
  rcases h2.2 with⟨rfl,h⟩|⟨g,cap,cur,rfl,_⟩
  ·exact⟨none,0,by rw[h]⟩
  ·exact⟨_,_,rfl⟩
 obtain⟨A',c',rfl⟩:=hv
 exact⟨A',c',w',h1,h2,h3,h5⟩
theorem run_oneB_s(w:World)(base:Nat)(A:Option Addr)(n c:Nat)(F:Nat→Nat)(hown:w.ownsRow base 5 1 (.slice A n c) n (bytesL n F))(x:Nat)(hx:x=F n)(hn:n≤1000000000)(hbase:base≤w.heap.size):
  ∃A' c' w',(Builtin.append_ #[22,22] 22 #[.slice A n c,.slice (some ⟨w.heap.size,0,none⟩) 1 1]).run Tryz.prog (w.alloc (.cells #[.int .u8 (x:Int)] 5))=.ok (.slice A' (n+1) c') w'∧
   w'.ownsRow base 5 1 (.slice A' (n+1) c') (n+1) (bytesL (n+1) F)∧Below base w w'∧(∀k,k<w.heap.size→(Value.slice A n c).ownBlock≠some k→w'.heap[k]?=w.heap[k]?)∧(∀j,(Value.slice A' (n+1) c').ownBlock=some j→(Value.slice A n c).ownBlock=some j∨w.heap.size≤j):=by
 subst hx
 have hb1:Below base w (w.alloc (.cells #[.int .u8 (F n:Int)] 5)):=(Below.refl base w).alloc hbase _
 have ho1:=hown.alloc (.cells #[.int .u8 (F n:Int)] 5)
 obtain⟨A',c',w',h2,o2,b2,h5⟩:=run_app_s (z:=.int .u8 0) (by_:=1) Tryz.underlying22 infoU8 rfl (by decide) (w.alloc (.cells #[.int .u8 (F n:Int)] 5)) base _ (.slice A n c) n _ ho1 _ 1 1 _
  (SrcL.new w 1 1 #[.int .u8 (F n:Int)] 5 rfl) (fun u hu=>by simp at hu;subst hu;rfl) (by unfold maxLen;omega) (by omega) 22 (fun h=>by cases h) (Nat.le_trans hbase hb1.size)
 refine⟨A',c',w',h2,?_,hb1.trans ((Below.refl base _).grown b2 (Nat.le_trans hbase hb1.size) (own_geS ho1)),fun k hk hne=>?_,fun j hj=>?_⟩
 ·have e:bytesL n F++(#[Value.int .u8 (F n:Int)]:Array Value).toList=bytesL (n+1) F:=by
   unfold bytesL;rw[List.range_succ,List.map_append];rfl
  rw[e]at o2
  exact o2
 ·refine(b2.block k (by simp;omega) (fun e=>hne e.symm)).trans ?_
  exact(Below.refl w.heap.size w).alloc (Nat.le_refl _) (.cells #[.int .u8 (F n:Int)] 5)|>.block k hk
 ·rcases h5 with h5|h5
  ·exact .inl (h5▸hj)
  ·rw[h5]at hj
   injection hj with hj
   simp at hj
   exact .inr (by omega)
theorem run_catB_s(w:World)(base:Nat)(A:Option Addr)(n c:Nat)(F:Nat→Nat)(hown:w.ownsRow base 5 1 (.slice A n c) n (bytesL n F))(A2:Option Addr)(m c2:Nat)(r G:Nat→Nat)(hr:ByR w w.heap.size A2 m c2 r)(hG:∀j,j<n→G j=F j)(hG2:∀j,j<m→G (n+j)=r j)(hn:n+m≤1000000000)(hbase:base≤w.heap.size):
  ∃A' c' w',(Builtin.append_ #[22,22] 22 #[.slice A n c,.slice A2 m c2]).run Tryz.prog w=.ok (.slice A' (n+m) c') w'∧
   w'.ownsRow base 5 1 (.slice A' (n+m) c') (n+m) (bytesL (n+m) G)∧Below base w w'∧(∀k,k<w.heap.size→(Value.slice A n c).ownBlock≠some k→w'.heap[k]?=w.heap[k]?)∧(∀j,(Value.slice A' (n+m) c').ownBlock=some j→(Value.slice A n c).ownBlock=some j∨w.heap.size≤j):=by
 have hsrc:SrcL w w.heap.size 1 A2 m (bytesL m r):=by
  refine⟨by simp[bytesL],fun h0=>?_⟩
  obtain⟨b,o,h1,h2,h3⟩:=hr.1.2 h0
  refine⟨b,o,h1,h2,fun j u hu=>?_⟩
  have hj:j<m:=by
   rcases Nat.lt_or_ge j m with g|g
   ·exact g
   ·rw[List.getElem?_eq_none (by simpa[bytesL]using g)]at hu;cases hu
  rw[h3 j hj,←hu]
  simp[bytesL,hj]
 obtain⟨A',c',w',h2,o2,b2,h5⟩:=run_app_s (z:=.int .u8 0) (by_:=1) Tryz.underlying22 infoU8 rfl (by decide) w base _ (.slice A n c) n _ hown A2 m c2 _
  hsrc (fun u hu=>by simp[bytesL]at hu;obtain⟨_,_,rfl⟩:=hu;rfl) (by unfold maxLen;omega) (by omega) 22 hr.2.1 hbase
 refine⟨A',c',w',h2,?_,(Below.refl base _).grown b2 hbase (own_geS hown),fun k hk hne=>b2.block k hk (fun e=>hne e.symm),fun j hj=>?_⟩
 ·have e:bytesL n F++bytesL m r=bytesL (n+m) G:=by
   unfold bytesL
   rw[List.range_add,List.map_append,List.map_map]
   congr 1
   ·refine List.map_congr_left fun j hj=>?_
    rw[hG j (List.mem_range.1 hj)]
   ·refine List.map_congr_left fun j hj=>?_
    simp only[Function.comp]
    rw[hG2 j (List.mem_range.1 hj)]
  rw[e]at o2
  exact o2
 ·rcases h5 with h5|h5
  ·exact .inl (h5▸hj)
  ·rw[h5]at hj
   injection hj with hj
   exact .inr (by omega)
end Go.Proofs.YtokpcpjnihinfaaGreat
namespace Go.Proofs.YtokpcpjnihinfaaGreat
open Go.RowKit Go.ChangeShapes Go.WideShapes Go.ChangeAt Go.Joins
theorem own_blk{w w':World}{base sz n:Nat}{e:TypeId}{v:Value}{xs:List Value}(h:w.ownsRow base e sz v n xs)(hk:∀j,v.ownBlock=some j→w'.heap[j]?=w.heap[j]?):w'.ownsRow base e sz v n xs:=by
 obtain⟨h1,h2⟩:=h
 refine⟨h1,?_⟩
 rcases h2 with h2|⟨g,cap,cur,hv,hg,hh,r⟩
 ·exact .inl h2
 ·exact .inr ⟨g,cap,cur,hv,hg,(hk g (by rw[hv];rfl)).trans hh,r⟩
theorem own_blk_lt{w:World}{base sz n:Nat}{e:TypeId}{v:Value}{xs:List Value}(h:w.ownsRow base e sz v n xs):∀j,v.ownBlock=some j→base≤j∧j<w.heap.size:=by
 intro j hj
 rcases h.2 with⟨rfl,_⟩|⟨g,cap,cur,rfl,hg,hh,_⟩
 ·simp[Value.ownBlock]at hj
 ·simp[Value.ownBlock]at hj
  subst hj
  exact⟨hg,(Array.getElem?_eq_some_iff.1 hh).1⟩
theorem KpB.set{S:Nat→Prop}{w:World}{p:Addr}(h:¬S p.block)(v:Value):KpB S w (w.setCell p v):=fun k hk=>Below.heap_setCell w p v k (fun e=>h (e▸hk))
theorem KpB.below{S:Nat→Prop}{w w':World}(h:∀j,S j→j<w.heap.size)(hb:Below w.heap.size w w'):KpB S w w':=fun k hk=>hb.block k (h k hk)
theorem KpB.less{S S':Nat→Prop}{w w':World}(h:KpB S w w')(hs:∀j,S' j→S j):KpB S' w w':=fun k hk=>h k (hs k hk)
theorem KpB.drew{S:Nat→Prop}{w w':World}(h:KpB S w w'):KpB S w w'.drew:=h
structure RowQ (w:World) (S:Nat→Prop) (B g:Nat) (F:Nat→Nat) (L R q:Nat) (A:Option Addr) (c:Nat):Prop where
 base:B≤g
 size:B≤w.heap.size
 out:¬S g
 row:w.heap[g]?=some (.cells #[.slice A L c,.int .u64 (R:Int),.int .i64 (q:Int)] 131 (0,0))
 own:w.ownsRow B 5 1 (.slice A L c) L (bytesL L F)
 away:∀j,(Value.slice A L c).ownBlock=some j→¬S j
 top:∀j,S j→j<w.heap.size
theorem RowQ.lt{w:World}{S:Nat→Prop}{B g:Nat}{F:Nat→Nat}{L R q:Nat}{A:Option Addr}{c:Nat}(h:RowQ w S B g F L R q A c):g<w.heap.size:=(Array.getElem?_eq_some_iff.1 h.row).1
theorem RowQ.ne{w:World}{S:Nat→Prop}{B g:Nat}{F:Nat→Nat}{L R q:Nat}{A:Option Addr}{c:Nat}(h:RowQ w S B g F L R q A c):(Value.slice A L c).ownBlock≠some g:=own_type h.own h.row (by kernel_rfl)
theorem RowQ.drew{w:World}{S:Nat→Prop}{B g:Nat}{F:Nat→Nat}{L R q:Nat}{A:Option Addr}{c:Nat}(h:RowQ w S B g F L R q A c):RowQ w.drew S B g F L R q A c:=⟨h.1,h.2,h.3,h.4,h.5,h.6,h.7⟩
theorem RowQ.cells{w:World}{S:Nat→Prop}{B g:Nat}{F:Nat→Nat}{L R q:Nat}{A:Option Addr}{c:Nat}(h:RowQ w S B g F L R q A c):
  w.cell? ⟨g,0,none⟩=some (.slice A L c)∧w.cell? ⟨g,1,none⟩=some (.int .u64 (R:Int))∧w.cell? ⟨g,2,none⟩=some (.int .i64 (q:Int))∧w.frozen? ⟨g,0,none⟩=false∧w.frozen? ⟨g,1,none⟩=false∧w.frozen? ⟨g,2,none⟩=false:=
 ⟨(cell_of_row w g 0 _ _ (0,0) h.row).trans rfl,(cell_of_row w g 1 _ _ (0,0) h.row).trans rfl,(cell_of_row w g 2 _ _ (0,0) h.row).trans rfl,frozen_of_row w g 0 _ _ h.row,frozen_of_row w g 1 _ _ h.row,frozen_of_row w g 2 _ _ h.row⟩
theorem RowQ.rest{w:World}{S:Nat→Prop}{B g:Nat}{F:Nat→Nat}{L R q:Nat}{A:Option Addr}{c:Nat}(h:RowQ w S B g F L R q A c)(R':Nat):RowQ (w.setCell ⟨g,1,none⟩ (.int .u64 (R':Int))) S B g F L R' q A c:=
 ⟨h.base,by simpa[World.setCell]using h.size,h.out,(heap_setCell_same w g 1 _ _ _ h.row).trans (by simp),own_blk h.own fun j hj=>Below.heap_setCell w _ _ j (fun e=>h.ne (by rw[hj,e])),h.away,fun j hj=>by simpa[World.setCell]using h.top j hj⟩
theorem RowQ.left{w:World}{S:Nat→Prop}{B g:Nat}{F:Nat→Nat}{L R q:Nat}{A:Option Addr}{c:Nat}(h:RowQ w S B g F L R q A c)(q':Nat):RowQ (w.setCell ⟨g,2,none⟩ (.int .i64 (q':Int))) S B g F L R q' A c:=
 ⟨h.base,by simpa[World.setCell]using h.size,h.out,(heap_setCell_same w g 2 _ _ _ h.row).trans (by simp),own_blk h.own fun j hj=>Below.heap_setCell w _ _ j (fun e=>h.ne (by rw[hj,e])),h.away,fun j hj=>by simpa[World.setCell]using h.top j hj⟩
theorem RowQ.less{w:World}{S S':Nat→Prop}{B g:Nat}{F:Nat→Nat}{L R q:Nat}{A:Option Addr}{c:Nat}(h:RowQ w S B g F L R q A c)(hs:∀j,S' j→S j):RowQ w S' B g F L R q A c:=
 ⟨h.base,h.size,fun k=>h.out (hs _ k),h.row,h.own,fun j hj k=>h.away j hj (hs _ k),fun j hj=>h.top j (hs _ hj)⟩
theorem RowQ.grow{w w':World}{S:Nat→Prop}{B g:Nat}{F:Nat→Nat}{L R q:Nat}{A:Option Addr}{c:Nat}(h:RowQ w S B g F L R q A c)(hb:Below w.heap.size w w'):RowQ w' (fun j=>S j∨(w.heap.size≤j∧j<w'.heap.size)) B g F L R q A c:=
 ⟨h.base,Nat.le_trans h.size hb.size,fun k=>k.elim h.out fun k=>by have:=h.lt;omega,(hb.block g h.lt).trans h.row,own_blk h.own fun j hj=>hb.block j (own_blk_lt h.own j hj).2,fun j hj k=>k.elim (h.away j hj) fun k=>by have:=(own_blk_lt h.own j hj).2;omega,
  fun j hj=>hj.elim (fun k=>Nat.lt_of_lt_of_le (h.top j k) hb.size) fun k=>k.2⟩
theorem RowQ.after{w w':World}{S:Nat→Prop}{B g:Nat}{F:Nat→Nat}{L R q:Nat}{A:Option Addr}{c:Nat}(h:RowQ w S B g F L R q A c)(hb:Below w.heap.size w w'):RowQ w' S B g F L R q A c:=(h.grow hb).less fun _ k=>.inl k
theorem RowQ.eqF{w:World}{S:Nat→Prop}{B g:Nat}{F G:Nat→Nat}{L R q:Nat}{A:Option Addr}{c:Nat}(h:RowQ w S B g F L R q A c)(e:∀j,j<L→F j=G j):RowQ w S B g G L R q A c:=⟨h.1,h.2,h.3,h.4,by have:=h.5;rwa[bytesL_ext e]at this,h.6,h.7⟩
theorem RowQ.grown{w w':World}{S:Nat→Prop}{B g:Nat}{F G:Nat→Nat}{L L' R q:Nat}{A A':Option Addr}{c c':Nat}(h:RowQ w S B g F L R q A c)(ho:w'.ownsRow B 5 1 (.slice A' L' c') L' (bytesL L' G))(hb:Below B w w')
  (hk:∀k,k<w.heap.size→(Value.slice A L c).ownBlock≠some k→w'.heap[k]?=w.heap[k]?) (hw:∀j,(Value.slice A' L' c').ownBlock=some j→(Value.slice A L c).ownBlock=some j∨w.heap.size≤j):
  RowQ (w'.setCell ⟨g,0,none⟩ (.slice A' L' c')) S B g G L' R q A' c'∧KpB S w (w'.setCell ⟨g,0,none⟩ (.slice A' L' c'))∧Below B w (w'.setCell ⟨g,0,none⟩ (.slice A' L' c')):=by
 have hg:=(hk g h.lt h.ne).trans h.row
 have hne:(Value.slice A' L' c').ownBlock≠some g:=own_type ho hg (by kernel_rfl)
 have haw:∀j,(Value.slice A' L' c').ownBlock=some j→¬S j:=fun j hj k=>(hw j hj).elim (fun e=>h.away j e k) fun e=>by have:=h.top j k;omega
 refine⟨⟨h.base,Nat.le_trans h.size (by simpa[World.setCell]using hb.size),h.out,(heap_setCell_same w' g 0 _ _ _ hg).trans (by simp),own_blk ho fun j hj=>Below.heap_setCell w' _ _ j (fun e=>hne (by rw[hj,e])),haw,fun j hj=>Nat.lt_of_lt_of_le (h.top j hj) (by simpa[World.setCell]using hb.size)⟩,?_,hb.setCell h.base _⟩
 exact fun j hj=>(Below.heap_setCell w' _ _ j (fun e=>h.out (by have e:j=g:=e;rwa[e]at hj))).trans (hk j (h.top j hj) fun e=>h.away j e hj)
def RowAt(w:World)(S:Nat→Prop)(B g:Nat)(f:Nat→Nat)(k:Nat):Prop:=Clean f k∧∃A c,RowQ w S B g f (k/8) (f (k/8)) (k%8) A c
theorem RowAt.less{w:World}{S S':Nat→Prop}{B g k:Nat}{f:Nat→Nat}(h:RowAt w S B g f k)(hs:∀j,S' j→S j):RowAt w S' B g f k:=by
 obtain⟨h1,A,c,h2⟩:=h
 exact⟨h1,A,c,h2.less hs⟩
theorem RowAt.grow{w w':World}{S:Nat→Prop}{B g k:Nat}{f:Nat→Nat}(h:RowAt w S B g f k)(hb:Below w.heap.size w w'):RowAt w' (fun j=>S j∨(w.heap.size≤j∧j<w'.heap.size)) B g f k:=by
 obtain⟨h1,A,c,h2⟩:=h
 exact⟨h1,A,c,h2.grow hb⟩
theorem RowAt.after{w w':World}{S:Nat→Prop}{B g k:Nat}{f:Nat→Nat}(h:RowAt w S B g f k)(hb:Below w.heap.size w w'):RowAt w' S B g f k:=(h.grow hb).less fun _ k=>.inl k
theorem RowAt.drew{w:World}{S:Nat→Prop}{B g k:Nat}{f:Nat→Nat}(h:RowAt w S B g f k):RowAt w.drew S B g f k:=by
 obtain⟨h1,A,c,h2⟩:=h
 exact⟨h1,A,c,h2.drew⟩
theorem RowAt.lt{w:World}{S:Nat→Prop}{B g k:Nat}{f:Nat→Nat}(h:RowAt w S B g f k):g<w.heap.size:=by
 obtain⟨h1,A,c,h2⟩:=h;exact h2.lt
theorem RowAt.top{w:World}{S:Nat→Prop}{B g k:Nat}{f:Nat→Nat}(h:RowAt w S B g f k):∀j,S j→j<w.heap.size:=by
 obtain⟨h1,A,c,h2⟩:=h;exact h2.top
theorem RowAt.size{w:World}{S:Nat→Prop}{B g k:Nat}{f:Nat→Nat}(h:RowAt w S B g f k):B≤w.heap.size:=by
 obtain⟨h1,A,c,h2⟩:=h;exact h2.size
theorem numA_one(x:Nat×Nat):(numC x).toArray.all (·.oneCell')=true:=by simp[numC,Value.oneCell']
theorem szNumP(x:Nat×Nat):(Tryz.prog.info? 169).map (·.size)=some (numC x).toArray.size:=by simp only[numC];kernel_rfl
theorem szNumP2(x:Nat×Nat):(Tryz.prog.info? 169).map (·.size)=some (numC x).length:=by simp only[numC];kernel_rfl
theorem u64_or_add(a b i:Nat)(ha:a<18446744073709551616)(h:b<18446744073709551616)(hb:a<2^i)(hd:2^i∣b):bits .or .u64 (a:Int) (b:Int)=((a+b:Nat):Int):=by
 have hx:a|||b<2^64:=Nat.or_lt_two_pow (by omega) (by omega)
 have e:a|||b=a+b:=by rw[Nat.or_comm,or_add b a i hb hd,Nat.add_comm]
 rw[←e]
 show IntKind.u64.wrap ((BitVec.ofInt 64 (a:Int)|||BitVec.ofInt 64 (b:Int)).toNat:Int)=_
 rw[BitVec.toNat_or,ofInt_nat 64 a (by omega),ofInt_nat 64 b (by omega),IntKind.wrap_u64]
 omega
def InS(S:Nat→Prop)(A:Option Addr)(m:Nat):Prop:=∀b o,0<m→A=some ⟨b,o,none⟩→S b
theorem put11_any(w:World)(S:Nat→Prop)(B g:Nat)(f:Nat→Nat)(K:Nat)(A2:Option Addr)(m c2:Nat)(P:List (Nat×Nat))(h:RowAt w S B g f K)(hp:RdN w w.heap.size A2 P)(hS:InS S A2 m)(hm:m=P.length)(hm2:m≤1000)(hfit:∀x∈P,FitN x)(hk:K+bitsT P≤16000000):
  Calls Tryz.prog 105 #[.pointer (some ⟨g,0,none⟩),.slice A2 m c2] w fun e w'=>e=.returned (.tuple #[])∧RowAt w' S B g (putsF f K P) (K+bitsT P)∧KpB S w w'∧Below B w w':=by
 have H:=Lib.hid h;have HP:=Lib.hid hp;have HS:=Lib.hid hS;have HM:=Lib.hid hm;have HF:=Lib.hid hfit;have HK:=Lib.hid hk
 clear h hp hS hm hfit hk
 go_enter Tryz.func105,Tryz.ntmps105
 go_wp2_with fail
 go_loopw [8] (fun iv wr=>∃i:Nat,i≤m∧iv=.int .i64 (i:Int)∧Hid (RowAt wr S B g (putsF f K (P.take i)) (K+bitsT (P.take i)))∧Hid (KpB S w wr)∧Hid (Below B w wr)) (fun iv _=>m-(intOf iv).toNat)
 case atStart=>exact⟨0,Nat.zero_le _,rfl,Lib.hid H.out,Lib.hid (KpB.refl _ _),Lib.hid (Below.refl _ _)⟩
 case round=>
  obtain⟨i,hi,rfl,HR,HKP,HB⟩:=hrel
  by_cases hlt:i<m
  ·have hlti:(i:Int)<(m:Int):=by omega
   have hil:i<P.length:=by rw[←HM.out];exact hlt
   obtain⟨b,o,rfl,hbl,hc⟩:=HP.out.at hil
   have hSb:S b:=HS.out b o (by omega) rfl
   have hrg0:=HP.out.range rfl hil
   have hrg:wr.rangeAt b (o+i*2) (numC (P.getD i num0)):=fun j v hv=>by rw[HKP.out.cell (p:=⟨b,o+i*2+j,none⟩) hSb];exact hrg0 j v hv
   obtain⟨x1,x2⟩:=HF.out _ (num_mem hil)
   obtain⟨ht1,ht2⟩:=putsF_take (f:=f) (k:=K) hil
   have hKi:=bitsT_take_le P i
   have hKi1:=bitsT_take_le P (i+1)
   obtain⟨⟨v,n⟩,ht⟩:∃t,t=P.getD i num0:=⟨_,rfl⟩
   rw[←ht]at hrg x1 x2 ht1 ht2
   dsimp only at x1 x2 ht1 ht2
   obtain⟨k,hk⟩:∃k,k=K+bitsT (P.take i):=⟨_,rfl⟩
   obtain⟨G,hG⟩:∃G,G=putsF f K (P.take i):=⟨_,rfl⟩
   have hr:=HR.out
   rw[←hG,←hk]at hr ht1
   obtain⟨hcl,A,c,hq⟩:=hr
   obtain⟨F1,hF1⟩:∃F1,F1=putF G k v n:=⟨_,rfl⟩
   rw[←hF1]at ht1
   have hcl1:Clean F1 (k+n):=by rw[hF1];exact hcl.put v n
   have hval:=putF_val hcl v n x2
   rw[←hF1,Nat.mod_eq_of_lt x1]at hval
   have hlow:∀j,j<k/8→G j=F1 j:=fun j hj=>by rw[hF1];exact(putF_low G k v n j hj).symm
   have hq1:=hq.eqF hlow
   have hk1:k+n=K+bitsT (P.take (i+1)):=by rw[ht2,hk];omega
   have hkb:k+n≤16000000:=by have:=HK.out;omega
   have hv16:v<65536:=by
    have:(2:Nat)^n≤2^16:=Nat.pow_le_pow_right (by omega) x2
    have e:(2:Nat)^16=65536:=rfl
    omega
   obtain⟨h,hh⟩:∃h,h=wr.heap.size:=⟨_,rfl⟩
   obtain⟨W2,hW2⟩:∃W2,W2=mkV wr #[.int .u32 0,.int .i64 0] (numC (v,n)).toArray 169:=⟨_,rfl⟩
   have hb2:Below wr.heap.size wr W2:=by rw[hW2];exact mkV_below _ _ _ _
   have hrow:W2.heap[h]?=some (.cells (numC (v,n)).toArray 169 (0,0)):=by rw[hW2,hh];exact mkV_row wr _ _ _
   have hq2:=hq1.after hb2
   have hkp2:KpB S w W2:=HKP.out.tr (KpB.below hq.top hb2)
   have hB2:Below B w W2:=HB.out.trans (hb2.mono hq.size)
   have y0:W2.cell? ⟨h,0,none⟩=some (.int .u32 (v:Int)):=(cell_of_row W2 _ 0 _ _ (0,0) hrow).trans rfl
   have y1:W2.cell? ⟨h,1,none⟩=some (.int .i64 (n:Int)):=(cell_of_row W2 _ 1 _ _ (0,0) hrow).trans rfl
   obtain⟨z0,z1,z2,e0,e1,e2⟩:=hq2.cells
   have hgh:g<h:=by rw[hh];exact hq.lt
   obtain⟨R,hR⟩:∃R,R=G (k/8):=⟨_,rfl⟩
   obtain⟨q,hqq⟩:∃q,q=k%8:=⟨_,rfl⟩
   obtain⟨L,hL⟩:∃L,L=k/8:=⟨_,rfl⟩
   rw[←hR,←hqq,←hL]at hq2
   rw[←hL]at z0;rw[←hR]at z1;rw[←hqq]at z2
   have hq7:q<8:=by omega
   have hRG:=Lib.hid hrg;have HW2:=Lib.hid hW2;have HQ2:=Lib.hid hq2;have HKP2:=Lib.hid hkp2;have HB2:=Lib.hid hB2;have HH:=Lib.hid hh;have HVAL:=Lib.hid hval;have HCL1:=Lib.hid hcl1;have HK1:=Lib.hid hk1;have HT1:=Lib.hid ht1;have HR:=Lib.hid hR;have HQQ:=Lib.hid hqq;have HL:=Lib.hid hL;have HCLG:=Lib.hid hcl
   clear hrg hW2 hq2 hkp2 hB2 hh hval hcl1 hk1 ht1 hR hqq hL hrow hb2 hq1 hlow hF1 hcl hq ht2 ht hKi hKi1 hc hrg0 hSb hbl x1 hk hG
   go_wp2_with (first|refine wpList_load_mid rfl _ _ rfl b (o+i*2) rfl (numC (v,n)) _ hRG.out Tryz.underlying169 rfl (szNumP2 _) ?_|refine wpList_store_rowTo rfl _ _ _ rfl rfl wr.heap.size (numC (v,n)).toArray rfl rfl 169 #[.int .u32 0,.int .i64 0] (heap_alloc_new wr _) (szNumP _) rfl (numA_one _) ?_;change wpList _ _ _ _ _ (mkV wr #[.int .u32 0,.int .i64 0] (numC (v,n)).toArray 169);rw[←HW2.out,←HH.out])
   go_region
   have hv3:bits .or .u64 (R:Int) (IntKind.u64.wrap ((v:Int)*2^q))=((val3 F1 L:Nat):Int):=by
    have h8:2^q≤2^7:=Nat.pow_le_pow_right (by omega) (by omega)
    have e7:(2:Nat)^7=128:=rfl
    have hm1:v*2^q≤65535*128:=Nat.mul_le_mul (by omega) (by omega)
    have hRq:R<2^q:=by rw[HR.out,HQQ.out];exact HCLG.out.2.2
    have e:IntKind.u64.wrap ((v:Int)*2^q)=((v*2^q:Nat):Int):=by rw[cast_shl,IntKind.wrap_u64];omega
    rw[e,u64_or_add R (v*2^q) q (by omega) (by omega) hRq (Nat.dvd_mul_left _ _),HL.out,HVAL.out,←HR.out,←HQQ.out]
   rw[hv3]
   have hq3:=(HQ2.out.rest (val3 F1 L)).drew
   obtain⟨W3,hW3⟩:∃W3,W3=(W2.setCell ⟨g,1,none⟩ (.int .u64 ((val3 F1 L:Nat):Int))).drew:=⟨_,rfl⟩
   have hkp3:KpB S w W3:=by rw[hW3];exact(HKP2.out.tr (KpB.set HQ2.out.out _)).drew
   have hB3:Below B w W3:=by rw[hW3];exact(HB2.out.setCell HQ2.out.base _).drew
   have y1':W3.cell? ⟨h,1,none⟩=some (.int .i64 (n:Int)):=by rw[hW3];exact(World.cell?_setCell_other _ _ _ _ (fun e=>by have:g=h:=congrArg Addr.block e;omega)).trans y1
   rw[←hW3]at hq3⊢
   obtain⟨z0',z1',z2',e0',e1',e2'⟩:=hq3.cells
   obtain⟨R3,hR3⟩:∃R3,R3=val3 F1 L:=⟨_,rfl⟩
   rw[←hR3]at hq3 z1'⊢
   have HQ3:=Lib.hid hq3;have HKP3:=Lib.hid hkp3;have HB3:=Lib.hid hB3;have HR3:=Lib.hid hR3
   clear hv3 hq3 hkp3 hB3 hR3 hW3 y0 y1 z0 z1 z2 e0 e1 e2 HQ2 HKP2 HB2 HVAL
   go_wp2
   go_region
   have hq4:=(HQ3.out.left (q+n)).drew
   rw[Int.natCast_add]at hq4
   obtain⟨W4,hW4⟩:∃W4,W4=(W3.setCell ⟨g,2,none⟩ (.int .i64 ((q:Int)+(n:Int)))).drew:=⟨_,rfl⟩
   have hkp4:KpB S w W4:=by rw[hW4];exact(HKP3.out.tr (KpB.set HQ3.out.out _)).drew
   have hB4:Below B w W4:=by rw[hW4];exact(HB3.out.setCell HQ3.out.base _).drew
   rw[←hW4]at hq4⊢
   have HQ4:=Lib.hid hq4;have HKP4:=Lib.hid hkp4;have HB4:=Lib.hid hB4
   clear hq4 hkp4 hB4 hW4 z0' z1' z2' e0' e1' e2' y1' HQ3 HKP3 HB3
   go_wp2
   go_loopw [] (fun wx=>∃(t:Nat) (A':Option Addr) (c':Nat),L≤t∧8*t≤k+n∧Hid (RowQ wx S B g F1 t (val3 F1 t) (k+n-8*t) A' c')∧Hid (KpB S w wx)∧Hid (Below B w wx)) (fun wx=>(intOf ((wx.cell? ⟨g,2,none⟩).getD (.int .i64 0))).toNat)
   case atStart=>
    refine⟨L,A,c,Nat.le_refl _,by have:=HL.out;omega,Lib.hid ?_,HKP4,HB4⟩
    have:=HQ4.out
    rw[show k+n-8*L=q+n by have:=HL.out;have:=HQQ.out;omega,←HR3.out]
    exact this
   case round=>
    obtain⟨t,At,ct,hLt,ht8,HQ,HKX,HBX⟩:=hrel
    obtain⟨s,hs⟩:∃s,s=k+n-8*t:=⟨_,rfl⟩
    have hqx:=HQ.out
    rw[←hs]at hqx
    obtain⟨Rv,hRv⟩:∃R,R=val3 F1 t:=⟨_,rfl⟩
    have hvl:=val3_lt HCL1.out.1 t
    rw[←hRv]at hqx hvl
    obtain⟨z0,z1,z2,e0,e1,e2⟩:=hqx.cells
    have hsb:s≤16000000:=by omega
    have HQX:=Lib.hid hqx;have HSS:=Lib.hid hs;have HRV:=Lib.hid hRv
    have hL8:=HL.out
    by_cases hge:8≤s
    ·have hgei:(8:Int)≤(s:Int):=by omega
     have hz:F1 (t+3)=0:=HCL1.out.2.1 _ (by omega)
     obtain⟨hn1,hn2⟩:=val3_next HCL1.out.1 t hz
     rw[←hRv]at hn1 hn2
     obtain⟨x,hx⟩:∃x,x=F1 t:=⟨_,rfl⟩
     obtain⟨A',c',w',hr2,ho2,hb2,hk2,hw2⟩:=run_oneB_s wr.drew B At t ct F1 (hqx.drew).own x hx (by omega) hqx.size
     obtain⟨hq5,hkp5,hb5⟩:=hqx.drew.grown ho2 hb2 hk2 hw2
     rw[←hx]at hn1
     obtain⟨R5,hR5⟩:∃R,R=val3 F1 (t+1):=⟨_,rfl⟩
     rw[←hR5]at hn2
     have hx8:IntKind.u8.wrap (Rv:Int)=(x:Int):=by rw[IntKind.wrap_u8];omega
     have hx9:(Rv:Int)%256=(x:Int):=by omega
     have hd8:(Rv:Int)/256=(R5:Int):=by omega
     have ht9:8*(t+1)≤k+n:=by omega
     obtain⟨W5,hW5⟩:∃W,W=w'.setCell ⟨g,0,none⟩ (.slice A' (t+1) c'):=⟨_,rfl⟩
     have HRUN:=Lib.hid hr2
     rw[←hW5]at hq5 hkp5 hb5
     have HQ5:=Lib.hid hq5;have HKP5:=Lib.hid (HKX.out.tr hkp5);have HB5:=Lib.hid (HBX.out.drew.trans hb5);have HW5:=Lib.hid hW5;have HR5:=Lib.hid hR5
     have hgl:g<wr.heap.size:=hqx.lt
     have hgo:w'.frozen? ⟨g,0,none⟩=false:=frozen_of_row w' g 0 _ _ ((hk2 g hqx.lt hqx.ne).trans hqx.row)
     have hgc:w'.cell? ⟨g,0,none⟩=some (.slice At t ct):=(cell_of_row w' g 0 _ _ (0,0) ((hk2 g hqx.lt hqx.ne).trans hqx.row)).trans rfl
     have HZ2:=Lib.hid z2
     clear hr2 hq5 hkp5 hb5 hW5 hR5 ho2 hb2 hk2 hw2 hn1 hn2 hx hs hRv hqx hL8 hz hvl
     go_wp2
     go_region_law ((refine step_app rfl (.tmp 45) (.tmp 51) 22 22 rfl (.slice At t ct) (.slice (some ⟨wr.heap.size,0,none⟩) 1 1) rfl rfl (.slice A' (t+1) c') w' HRUN.out ?_))
     all_goals(
      rw[←HW5.out]
      obtain⟨z0',z1',z2',e0',e1',e2'⟩:=HQ5.out.cells
      have hq6:=HQ5.out.rest R5
      obtain⟨W6,hW6⟩:∃W,W=W5.setCell ⟨g,1,none⟩ (.int .u64 (R5:Int)):=⟨_,rfl⟩
      rw[←hW6]at hq6
      have hkp6:KpB S w W6:=by rw[hW6];exact HKP5.out.tr (KpB.set HQ5.out.out _)
      have hb6:Below B w W6:=by rw[hW6];exact HB5.out.setCell HQ5.out.base _
      obtain⟨_,_,z6,_,_,e6⟩:=hq6.cells
      have hq7:=hq6.left (s-8)
      have hs8:((s-8:Nat):Int)=(s:Int)-8:=by omega
      rw[hs8]at hq7
      obtain⟨W7,hW7⟩:∃W,W=W6.setCell ⟨g,2,none⟩ (.int .i64 ((s:Int)-8)):=⟨_,rfl⟩
      rw[←hW7]at hq7
      have hkp7:KpB S w W7:=by rw[hW7];exact hkp6.tr (KpB.set hq6.out _)
      have hb7:Below B w W7:=by rw[hW7];exact hb6.setCell hq6.base _
      obtain⟨_,_,z7,_,_,_⟩:=hq7.cells
      have HQ7:=Lib.hid hq7;have HKP7:=Lib.hid hkp7;have HB7:=Lib.hid hb7;have HW6:=Lib.hid hW6;have HW7:=Lib.hid hW7;have HZ7:=Lib.hid z7
      clear hq6 hkp6 hb6 hq7 hkp7 hb7 hW6 hW7 hs8 z0 z1 z2 e0 e1 e2 hgo hgc z7
      go_wp2
      go_roundw
      case rel=>
       rw[←HW6.out,←HW7.out]
       exact⟨t+1,A',c',by omega,ht9,Lib.hid (by rw[←HR5.out,show k+n-8*(t+1)=s-8 by have:=HSS.out;omega];exact HQ7.out),HKP7,HB7⟩
      case measure=>rw[←HW6.out,←HW7.out,HZ2.out,HZ7.out];simp[intOf];omega)
    ·have hgei:¬(8:Int)≤(s:Int):=by omega
     have hte:t=(k+n)/8:=by have:=HSS.out;omega
     have hse:s=(k+n)%8:=by have:=HSS.out;omega
     have hfin:RowAt wr S B g F1 (k+n):=by
      refine⟨HCL1.out,At,ct,?_⟩
      have h1:=HQX.out
      rw[HRV.out,hte,val3_end HCL1.out,hse]at h1
      exact h1
     rw[HK1.out,←HT1.out]at hfin
     have HFIN:=Lib.hid hfin
     clear hfin hte hse hvl hqx hs hRv
     go_wp2
     go_roundw
     case rel=>exact⟨i+1,by omega,by go_num,HFIN,HKX,HBX⟩
     case measure=>simp[intOf];omega
  ·obtain rfl:i=m:=by omega
   have hlti:¬(i:Int)<(i:Int):=by omega
   have hr:=HR.out
   rw[HM.out,List.take_length]at hr
   have HRR:=Lib.hid hr
   clear hr HR
   go_wp2
   go_end0
   exact⟨rfl,HRR.out,HKP.out,HB.out⟩
end Go.Proofs.YtokpcpjnihinfaaGreat
namespace Go.Proofs.YtokpcpjnihinfaaGreat
open Go.RowKit Go.ChangeShapes Go.WideShapes Go.ChangeAt Go.Joins
def pgA(p:Prs)(Ah:Option Addr)(hc:Nat)(Aw:Option Addr)(wc:Nat)(Ap:Option Addr)(pc:Nat)(Ao:Option Addr)(on oc:Nat):Array Value:=
 #[.int .i64 p.s,.int .i64 p.h,.int .i64 p.m,.bool p.z,.slice Ah p.hist.length hc,.slice Aw p.wait.length wc,.slice Ap p.pen.length pc,.int .i64 p.k,.bool p.over,.slice Ao on oc]
theorem noB_pg(p:Prs)(Ah:Option Addr)(hc:Nat)(Aw:Option Addr)(wc:Nat)(Ap:Option Addr)(pc:Nat)(Ao:Option Addr)(on oc:Nat):NoB (pgA p Ah hc Aw wc Ap pc Ao on oc):=fun i x=>by
 unfold pgA
 rcases i with _|_|_|_|_|_|_|_|_|_|i<;>simp
def NoIn(A:Option Addr)(n:Nat)(v:Value):Prop:=∀b o,0<n→A=some ⟨b,o,none⟩→v.ownBlock≠some b
structure Und (w:World) (B g:Nat) (p:Prs) (out:List Nat) (Ah:Option Addr) (hc:Nat) (Aw:Option Addr) (wc:Nat) (Ap:Option Addr) (pc:Nat) (Ao:Option Addr) (oc:Nat):Prop where
 box:BoxC w g (pgA p Ah hc Aw wc Ap pc Ao out.length oc) 62
 le:B≤g
 row:ByR w w.heap.size Ah (p.hist.length+p.wait.length) hc (lst (p.hist++p.wait))
 wait:ByR w w.heap.size Aw p.wait.length wc (lst p.wait)
 pen:ByR w w.heap.size Ap p.pen.length pc (lst p.pen)
 own:w.ownsRow B 5 1 (.slice Ao out.length oc) out.length (bytesL out.length (lst out))
 bo:BytesP out
 nr:NoIn Ah (p.hist.length+p.wait.length) (.slice Ao out.length oc)
 nw:NoIn Aw p.wait.length (.slice Ao out.length oc)
 np:NoIn Ap p.pen.length (.slice Ao out.length oc)
section
variable {w w':World} {B g:Nat} {p p':Prs} {out:List Nat} {Ah:Option Addr} {hc:Nat} {Aw:Option Addr} {wc:Nat} {Ap:Option Addr} {pc:Nat} {Ao:Option Addr} {oc:Nat}
theorem Und.lt(U:Und w B g p out Ah hc Aw wc Ap pc Ao oc):g<w.heap.size:=U.box.lt
theorem Und.below(U:Und w B g p out Ah hc Aw wc Ap pc Ao oc)(hb:Below w.heap.size w w'):Und w' B g p out Ah hc Aw wc Ap pc Ao oc:=
 ⟨U.box.below hb U.lt,U.le,(U.row.below hb (Nat.le_refl _)).more hb.size,(U.wait.below hb (Nat.le_refl _)).more hb.size,(U.pen.below hb (Nat.le_refl _)).more hb.size,own_keep U.own hb,U.bo,U.nr,U.nw,U.np⟩
theorem Und.ne(U:Und w B g p out Ah hc Aw wc Ap pc Ao oc):(Value.slice Ao out.length oc).ownBlock≠some g:=own_type U.own U.box (by kernel_rfl)
theorem Und.hist(U:Und w B g p out Ah hc Aw wc Ap pc Ao oc):ByR w w.heap.size Ah p.hist.length hc (lst p.hist):=by
 refine⟨⟨fun j=>lst_lt (fun x hx=>?_) j,fun h0=>?_⟩,U.row.2.1,by have:=U.row.2.2.1;omega,U.row.2.2.2⟩
 ·obtain⟨i,hi,rfl⟩:=List.mem_iff_getElem.1 hx
  have:=U.row.1.1 i
  rw[lst_app]at this
  unfold cat at this
  rw[if_pos hi]at this
  unfold lst at this
  rwa[List.getD_eq_getElem?_getD,List.getElem?_eq_getElem hi]at this
 ·obtain⟨b,o,e,hb,hcell⟩:=U.row.1.2 (by omega)
  refine⟨b,o,e,hb,fun j hj=>?_⟩
  have:=hcell j (by omega)
  rw[lst_app]at this
  unfold cat at this
  rwa[if_pos hj]at this
theorem ByR.off{B0 n c:Nat}{A:Option Addr}{f:Nat→Nat}{cs:Array Value}{t:TypeId}(h:ByR w B0 A n c f)(hg:BoxC w g cs t)(hn:NoB cs)(ho:∀j,j≠g→w'.heap[j]?=w.heap[j]?):ByR w' B0 A n c f:=by
 refine⟨⟨h.1.1,fun h0=>?_⟩,h.2⟩
 obtain⟨b,o,e,hb,hcell⟩:=h.1.2 h0
 have hne:=rd_ne h.1 hg hn h0 e
 refine⟨b,o,e,hb,fun j hj=>?_⟩
 have h1:=hcell j hj
 have h2:=ho b hne
 simp only[World.cell?,h2]at h1⊢
 exact h1
theorem Und.put(U:Und w B g p out Ah hc Aw wc Ap pc Ao oc){Ah':Option Addr}{hc':Nat}{Aw':Option Addr}{wc':Nat}{Ap':Option Addr}{pc':Nat}(hs:w'.heap.size=w.heap.size)(ho:∀j,j≠g→w'.heap[j]?=w.heap[j]?)(hx:BoxC w' g (pgA p' Ah' hc' Aw' wc' Ap' pc' Ao out.length oc) 62)
  (r1:ByR w w.heap.size Ah' (p'.hist.length+p'.wait.length) hc' (lst (p'.hist++p'.wait))) (r2:ByR w w.heap.size Aw' p'.wait.length wc' (lst p'.wait)) (r3:ByR w w.heap.size Ap' p'.pen.length pc' (lst p'.pen))
  (n1:NoIn Ah' (p'.hist.length+p'.wait.length) (.slice Ao out.length oc)) (n2:NoIn Aw' p'.wait.length (.slice Ao out.length oc)) (n3:NoIn Ap' p'.pen.length (.slice Ao out.length oc)):Und w' B g p' out Ah' hc' Aw' wc' Ap' pc' Ao oc:=by
 have k:∀{A:Option Addr} {n c:Nat} {f:Nat→Nat},ByR w w.heap.size A n c f→ByR w' w'.heap.size A n c f:=fun r=>by rw[hs];exact r.off U.box (noB_pg _ _ _ _ _ _ _ _ _ _) ho
 exact⟨hx,U.le,k r1,k r2,k r3,own_blk U.own fun j hj=>ho j fun e=>U.ne (by rw[hj,e]),U.bo,n1,n2,n3⟩
theorem Und.set1(U:Und w B g p out Ah hc Aw wc Ap pc Ao oc){Ah':Option Addr}{hc':Nat}{Aw':Option Addr}{wc':Nat}{Ap':Option Addr}{pc':Nat}(i:Nat)(v:Value)(he:(pgA p Ah hc Aw wc Ap pc Ao out.length oc).setIfInBounds i v=pgA p' Ah' hc' Aw' wc' Ap' pc' Ao out.length oc)
  (r1:ByR w w.heap.size Ah' (p'.hist.length+p'.wait.length) hc' (lst (p'.hist++p'.wait))) (r2:ByR w w.heap.size Aw' p'.wait.length wc' (lst p'.wait)) (r3:ByR w w.heap.size Ap' p'.pen.length pc' (lst p'.pen))
  (n1:NoIn Ah' (p'.hist.length+p'.wait.length) (.slice Ao out.length oc)) (n2:NoIn Aw' p'.wait.length (.slice Ao out.length oc)) (n3:NoIn Ap' p'.pen.length (.slice Ao out.length oc)):Und (w.setCell ⟨g,i,none⟩ v) B g p' out Ah' hc' Aw' wc' Ap' pc' Ao oc:=
 U.put (by simp[World.setCell]) (fun j hj=>Below.heap_setCell w _ v j hj) (he▸U.box.set i v) r1 r2 r3 n1 n2 n3
theorem Und.set2(U:Und w B g p out Ah hc Aw wc Ap pc Ao oc){Ah':Option Addr}{hc':Nat}{Aw':Option Addr}{wc':Nat}{Ap':Option Addr}{pc':Nat}(i j:Nat)(v u:Value)(he:((pgA p Ah hc Aw wc Ap pc Ao out.length oc).setIfInBounds i v).setIfInBounds j u=pgA p' Ah' hc' Aw' wc' Ap' pc' Ao out.length oc)
  (r1:ByR w w.heap.size Ah' (p'.hist.length+p'.wait.length) hc' (lst (p'.hist++p'.wait))) (r2:ByR w w.heap.size Aw' p'.wait.length wc' (lst p'.wait)) (r3:ByR w w.heap.size Ap' p'.pen.length pc' (lst p'.pen))
  (n1:NoIn Ah' (p'.hist.length+p'.wait.length) (.slice Ao out.length oc)) (n2:NoIn Aw' p'.wait.length (.slice Ao out.length oc)) (n3:NoIn Ap' p'.pen.length (.slice Ao out.length oc)):Und ((w.setCell ⟨g,i,none⟩ v).setCell ⟨g,j,none⟩ u) B g p' out Ah' hc' Aw' wc' Ap' pc' Ao oc:=
 U.put (by simp[World.setCell]) (fun k hk=>(Below.heap_setCell _ _ u k hk).trans (Below.heap_setCell w _ v k hk)) (he▸(U.box.set i v).set j u) r1 r2 r3 n1 n2 n3
theorem Und.grown(U:Und w B g p out Ah hc Aw wc Ap pc Ao oc){Ao':Option Addr}{oc':Nat}{more:List Nat}(hm:BytesP more)(ho:w'.ownsRow B 5 1 (.slice Ao' (out++more).length oc') (out++more).length (bytesL (out++more).length (lst (out++more))))(hs:w.heap.size≤w'.heap.size)
  (hk:∀k,k<w.heap.size→(Value.slice Ao out.length oc).ownBlock≠some k→w'.heap[k]?=w.heap[k]?) (hw:∀j,(Value.slice Ao' (out++more).length oc').ownBlock=some j→(Value.slice Ao out.length oc).ownBlock=some j∨w.heap.size≤j):
  Und (w'.setCell ⟨g,9,none⟩ (.slice Ao' (out++more).length oc')) B g p (out++more) Ah hc Aw wc Ap pc Ao' oc':=by
 have hg:BoxC w' g (pgA p Ah hc Aw wc Ap pc Ao out.length oc) 62:=(hk g U.lt U.ne).trans U.box
 have hne:(Value.slice Ao' (out++more).length oc').ownBlock≠some g:=own_type ho hg (by kernel_rfl)
 have k:∀{A:Option Addr} {n c:Nat} {f:Nat→Nat},ByR w w.heap.size A n c f→NoIn A n (.slice Ao out.length oc)→ByR (w'.setCell ⟨g,9,none⟩ (.slice Ao' (out++more).length oc')) (w'.setCell ⟨g,9,none⟩ (.slice Ao' (out++more).length oc')).heap.size A n c f:=fun{A n c f} r nr=>by
  have r':ByR w' w'.heap.size A n c f:=⟨⟨r.1.1,fun h0=>by
   obtain⟨b,o,e,hb,hcell⟩:=r.1.2 h0
   refine⟨b,o,e,by omega,fun j hj=>?_⟩
   have h1:=hcell j hj
   have h2:=hk b hb (nr b o h0 e)
   simp only[World.cell?,h2]at h1⊢
   exact h1⟩,r.2⟩
  have e:(w'.setCell ⟨g,9,none⟩ (.slice Ao' (out++more).length oc')).heap.size=w'.heap.size:=by simp[World.setCell]
  rw[e]
  exact r'.off hg (noB_pg _ _ _ _ _ _ _ _ _ _) (fun j hj=>Below.heap_setCell w' _ _ j hj)
 have q:∀{A:Option Addr} {n c:Nat} {f:Nat→Nat},ByR w w.heap.size A n c f→NoIn A n (.slice Ao out.length oc)→NoIn A n (.slice Ao' (out++more).length oc'):=fun{A n c f} r nr b o h0 e hx=>by
  obtain⟨b',o',e',hb,_⟩:=r.1.2 h0
  rw[e]at e'
  injection e' with e'
  injection e' with e1 _ _
  rcases hw b hx with h|h
  ·exact nr b o h0 e h
  ·omega
 exact⟨hg.set 9 _,U.le,k U.row U.nr,k U.wait U.nw,k U.pen U.np,own_blk ho fun j hj=>Below.heap_setCell w' _ _ j fun e=>hne (by rw[hj,e]),fun x hx=>(List.mem_append.1 hx).elim (U.bo x) (hm x),q U.row U.nr,q U.wait U.nw,q U.pen U.np⟩
end
theorem ByR.from{w:World}{B n c q:Nat}{A A2:Option Addr}{L:List Nat}(h:ByR w B A n c (lst L))(hq:q≤n)(hA:(if c=q then A else A.map (·.add q))=A2):ByR w B A2 (n-q) (c-q) (lst (L.drop q)):=by
 have ef:lst (L.drop q)=fun j=>lst L (j+q):=funext fun j=>lst_drop L q j
 rw[ef]
 rcases A with _|a
 ·have h0:=h.2.1 rfl
  have hn:n=0:=by have:=h.2.2.1;omega
  have:A2=none:=by rw[←hA];split<;>rfl
  subst this
  exact⟨⟨fun j=>h.1.1 _,fun h=>absurd h (by omega)⟩,fun _=>by omega,by omega,by have:=h.2.2.2;omega⟩
 ·exact h.drop hq hA
theorem NoIn.from{n c q:Nat}{A A2:Option Addr}{v:Value}(h:NoIn A n v)(hq:q≤n)(hA:(if c=q then A else A.map (·.add q))=A2)(hr:0<n→∃b o,A=some ⟨b,o,none⟩):NoIn A2 (n-q) v:=fun b o h0 e hx=>by
 obtain⟨b',o',e'⟩:=hr (by omega)
 have hb:b=b':=by
  rw[←hA]at e
  split at e
  ·rw[e']at e;injection e with e;injection e with e1 _ _;exact e1.symm
  ·rw[e']at e
   have:(some ((⟨b',o',none⟩:Addr).add q))=some (⟨b,o,none⟩:Addr):=e
   injection this with this
   have:=congrArg Addr.block this
   unfold Addr.add at this
   split at this<;>simpa using this.symm
 subst hb
 exact h b o' (by omega) e' hx
theorem ByR.at{w:World}{B n c:Nat}{A:Option Addr}{f:Nat→Nat}(h:ByR w B A n c f)(h0:0<n):∃b o,A=some ⟨b,o,none⟩:=by
 obtain⟨b,o,e,_,_⟩:=h.1.2 h0
 exact⟨b,o,e⟩
end Go.Proofs.YtokpcpjnihinfaaGreat
namespace Go.Proofs.YtokpcpjnihinfaaGreat
open Go.RowKit Go.ChangeShapes Go.WideShapes Go.ChangeAt Go.Joins
theorem built_pg(p:Prs)(Ah:Option Addr)(hc:Nat)(Aw:Option Addr)(wc:Nat)(Ap:Option Addr)(pc:Nat):Tryz.prog.built 62 [(0,.agg (prsA p Ah hc Aw wc Ap pc))]=some (pgA p Ah hc Aw wc Ap pc none 0 0):=by kernel_rfl
def trN(a b c:Nat):Nat→Nat
 |0=>a
 |1=>b
 |_=>c
def trF(f g h:Nat→Nat):Nat→Nat→Nat
 |0=>f
 |1=>g
 |_=>h
theorem tr_sum(a b c:Nat):sumU (trN a b c) 3=a+b+c:=by simp[sumU,trN]
theorem tr_cat(x y z:List Nat):catU (trN x.length y.length z.length) (trF (lst x) (lst y) (lst z)) 3=lst (x++(y++z)):=by
 funext j
 rw[lst_app]
 show cat (cat (cat (fun _=>0) 0 (lst x)) (0+x.length) (lst y)) (0+x.length+y.length) (lst z) j=cat (lst x) x.length (lst (y++z)) j
 unfold cat
 rw[show lst (y++z) (j-x.length)=cat (lst y) y.length (lst z) (j-x.length)from lst_app y z _]
 unfold cat
 by_cases h1:j<x.length
 ·rw[if_pos (by omega),if_pos (by omega),if_neg (by omega),if_pos h1];rfl
 ·by_cases h2:j-x.length<y.length
  ·rw[if_pos (by omega),if_neg (by omega),if_neg h1]
   show lst y (j-(0+x.length))=(if j-x.length<y.length then lst y (j-x.length)else _)
   rw[if_pos h2,Nat.zero_add]
  ·rw[if_neg (by omega),if_neg h1]
   show lst z (j-(0+x.length+y.length))=(if j-x.length<y.length then _ else lst z (j-x.length-y.length))
   rw[if_neg h2,show j-(0+x.length+y.length)=j-x.length-y.length by omega]
theorem pbegin_any(w:World)(p:Prs)(Ah:Option Addr)(hc:Nat)(Aw:Option Addr)(wc:Nat)(Ap:Option Addr)(pc:Nat)(hp:PrsR w w.heap.size p Ah hc Aw wc Ap pc)(Ab:Option Addr)(bc:Nat)(b:List Nat)(hb:ByR w w.heap.size Ab b.length bc (lst b))(h1:p.hist.length≤1000000)(h2:p.wait.length≤1000000)(h3:b.length≤1000000):
  Calls Tryz.prog 28 #[.agg (prsA p Ah hc Aw wc Ap pc),.slice Ab b.length bc] w fun e w'=>∃g Ah' hc' Aw' wc',e=.returned (.pointer (some ⟨g,0,none⟩))∧Und w' w.heap.size g {p with wait:=p.wait++b} [] Ah' hc' Aw' wc' Ap pc none 0∧Below w.heap.size w w':=by
 obtain⟨h,hh⟩:∃h,h=w.heap.size:=⟨_,rfl⟩
 obtain⟨X,hX⟩:∃X,X=prsA p Ah hc Aw wc Ap pc:=⟨_,rfl⟩
 obtain⟨Y,hY⟩:∃Y,Y=pgA p Ah hc Aw wc Ap pc none 0 0:=⟨_,rfl⟩
 have hbu:=built_pg p Ah hc Aw wc Ap pc
 rw[←hX,←hY]at hbu
 obtain⟨hn,hhn⟩:∃x,x=p.hist.length:=⟨_,rfl⟩
 obtain⟨wn,hwn⟩:∃x,x=p.wait.length:=⟨_,rfl⟩
 obtain⟨bn,hbn⟩:∃x,x=b.length:=⟨_,rfl⟩
 have hXv:X=#[.int .i64 p.s,.int .i64 p.h,.int .i64 p.m,.bool p.z,.slice Ah hn hc,.slice Aw wn wc,.slice Ap p.pen.length pc,.int .i64 p.k,.bool p.over]:=by rw[hX,hhn,hwn];rfl
 have hYv:Y=#[.int .i64 p.s,.int .i64 p.h,.int .i64 p.m,.bool p.z,.slice Ah hn hc,.slice Aw wn wc,.slice Ap p.pen.length pc,.int .i64 p.k,.bool p.over,.slice none 0 0]:=by rw[hY,hhn,hwn];rfl
 rw[←hX]
 obtain⟨W1,hW1⟩:∃W,W=w.alloc (.cells X 32):=⟨_,rfl⟩
 obtain⟨W2,hW2⟩:∃W,W=W1.alloc (.cells Y 62):=⟨_,rfl⟩
 have s1:W1.heap.size=h+1:=by rw[hW1,World.size_alloc,hh]
 have b1:Below h w W1:=by rw[hW1,hh];exact(Below.refl _ _).alloc (Nat.le_refl _) _
 have b2:Below h w W2:=by rw[hW2];exact b1.alloc (by rw[s1];omega) _
 have x1:BoxC W1 h X 32:=by rw[hW1,hh];exact BoxC.new w _ _
 have x2:BoxC W2 h X 32:=by rw[hW2];exact x1.old _
 have y2:BoxC W2 (h+1) Y 62:=by rw[hW2,←s1];exact BoxC.new W1 _ _
 have s2:W2.heap.size=h+2:=by rw[hW2,World.size_alloc,s1]
 obtain⟨W3,hW3⟩:∃W,W=W2.alloc (.cells #[.slice Ah hn hc,.slice Aw wn wc,.slice Ab bn bc] 22):=⟨_,rfl⟩
 have s3:W3.heap.size=h+3:=by rw[hW3,World.size_alloc,s2]
 have b3:Below h w W3:=by rw[hW3];exact b2.alloc (by rw[s2];omega) _
 have x3:BoxC W3 h X 32:=by rw[hW3];exact x2.old _
 have y3:BoxC W3 (h+1) Y 62:=by rw[hW3];exact y2.old _
 have z3:BoxC W3 (h+2) #[.slice Ah hn hc,.slice Aw wn wc,.slice Ab bn bc] 22:=by rw[hW3,←s2];exact BoxC.new W2 _ _
 have rd:∀{V:World},Below h w V→∀{A:Option Addr} {n c:Nat} {f:Nat→Nat},ByR w w.heap.size A n c f→ByR V V.heap.size A n c f:=fun{V} hV {A n c f} r=>(r.below hV (by omega)).more (by have:=hV.size;omega)
 have hrows:RowsB W3 W3.heap.size (some ⟨h+2,0,none⟩) 3 (trN p.hist.length p.wait.length b.length) (trF (lst p.hist) (lst p.wait) (lst b)):=fun _=>by
  refine⟨h+2,0,rfl,by omega,fun i hi=>?_⟩
  rcases i with _|_|_|i
  ·have r:=rd b3 hp.hist
   exact⟨Ah,hc,by rw[z3.cell,hhn];rfl,r.1,r.2.1⟩
  ·have r:=rd b3 hp.wait
   exact⟨Aw,wc,by rw[z3.cell,hwn];rfl,r.1,r.2.1⟩
  ·have r:=rd b3 hb
   exact⟨Ab,bc,by rw[z3.cell,hbn];rfl,r.1,r.2.1⟩
  ·omega
 have hff:∀i j,trF (lst p.hist) (lst p.wait) (lst b) i j<256:=fun i j=>by
  rcases i with _|_|i
  ·exact hp.hist.1.1 j
  ·exact hp.wait.1.1 j
  ·exact hb.1.1 j
 have hcn:=concat_any W3 (some ⟨h+2,0,none⟩) 3 3 (trN p.hist.length p.wait.length b.length) _ hff hrows (by omega) (by rw[tr_sum];omega)
 rw[tr_sum,tr_cat]at hcn
 rw[←hhn,←hwn,←hbn]at hcn
 have HFIN:Hid (∀(V:World) (A A2:Option Addr) (c:Nat),Below W3.heap.size W3 V→ByR V V.heap.size A (hn+wn+bn) c (lst (p.hist++(p.wait++b)))→(if c=hn then A else A.map (·.add hn))=A2→Und ((V.setCell ⟨h+1,4,none⟩ (.slice A hn c)).setCell ⟨h+1,5,none⟩ (.slice A2 (hn+wn+bn-hn) (c-hn))) h (h+1) {p with wait:=p.wait++b} [] A c A2 (c-hn) Ap pc none 0):=Lib.hid fun V A A2 c hV r hA2=>by
  have hBV:Below h w V:=b3.trans (hV.mono (by omega))
  have yV:=y3.below hV y3.lt
  have hl:(p.wait++b).length=hn+wn+bn-hn:=by rw[List.length_append,←hwn,←hbn];omega
  have e0:(({p with wait:=p.wait++b}:Prs).hist++({p with wait:=p.wait++b}:Prs).wait)=p.hist++(p.wait++b):=rfl
  have nn:∀(A:Option Addr) (n:Nat),NoIn A n (.slice none ([]:List Nat).length 0):=fun A n b o _ _ hx=>by simp[Value.ownBlock]at hx
  have sz:((V.setCell ⟨h+1,4,none⟩ (.slice A hn c)).setCell ⟨h+1,5,none⟩ (.slice A2 (hn+wn+bn-hn) (c-hn))).heap.size=V.heap.size:=by simp[World.setCell]
  have k:∀{A':Option Addr} {n' c':Nat} {f:Nat→Nat},ByR V V.heap.size A' n' c' f→ByR ((V.setCell ⟨h+1,4,none⟩ (.slice A hn c)).setCell ⟨h+1,5,none⟩ (.slice A2 (hn+wn+bn-hn) (c-hn))) ((V.setCell ⟨h+1,4,none⟩ (.slice A hn c)).setCell ⟨h+1,5,none⟩ (.slice A2 (hn+wn+bn-hn) (c-hn))).heap.size A' n' c' f:=fun{A' n' c' f} r=>by
   rw[sz]
   exact r.off (hY▸yV) (noB_pg _ _ _ _ _ _ _ _ _ _) fun j hj=>(Below.heap_setCell _ _ _ j hj).trans (Below.heap_setCell V _ _ j hj)
  refine⟨?_,by omega,?_,?_,?_,World.ownsRow_nil _ _ _ _,(fun x hx=>by cases hx),nn _ _,nn _ _,nn _ _⟩
  ·have a:=(yV.set 4 (.slice A hn c)).set 5 (.slice A2 (hn+wn+bn-hn) (c-hn))
   rw[hYv]at a
   unfold pgA
   show BoxC _ _ #[_,_,_,_,.slice A p.hist.length c,.slice A2 (p.wait++b).length (c-hn),_,_,_,_] _
   rw[hl,←hhn]
   exact a
  ·rw[e0]
   show ByR _ _ A (p.hist.length+(p.wait++b).length) c _
   rw[hl,←hhn,show hn+(hn+wn+bn-hn)=hn+wn+bn by omega]
   exact k r
  ·show ByR _ _ A2 (p.wait++b).length (c-hn) (lst (p.wait++b))
   rw[hl]
   have:=r.from (q:=hn) (by omega) hA2
   rw[show(p.hist++(p.wait++b)).drop hn=p.wait++b by rw[hhn];exact List.drop_left ..]at this
   exact k this
  ·show ByR _ _ Ap p.pen.length pc (lst p.pen)
   exact k (rd hBV hp.pen)
 have HW1:=Lib.hid hW1;have HW2:=Lib.hid hW2;have HW3:=Lib.hid hW3;have HCN:=Lib.hid hcn;have HX1:=Lib.hid x1;have HXS:Hid (X.size=9):=Lib.hid (by rw[hX];rfl);have HBU:=Lib.hid hbu;have HH:=Lib.hid hh;have HXV:=Lib.hid hXv;have HYV:=Lib.hid hYv
 have HX3:=Lib.hid x3;have HY3:=Lib.hid y3;have HB3:=Lib.hid b3;have HS3:=Lib.hid s3;have HS1:=Lib.hid s1;have HS2:=Lib.hid s2
 have c4:W2.cell? ⟨h,4,none⟩=some (.slice Ah hn hc):=by rw[x2.cell,hXv];rfl
 have c5:W2.cell? ⟨h,5,none⟩=some (.slice Aw wn wc):=by rw[x2.cell,hXv];rfl
 rw[←hbn]
 clear hp hb h1 h2 h3 hW1 hW2 hW3 hX hY hhn hwn hbn hcn hff hrows rd x1 x2 y2 x3 y3 z3 s1 s2 s3 b1 b2 b3 hbu hh hXv hYv
 go_enter Tryz.func28,Tryz.ntmps28
 go_wp2_with (first
  |(rw[←HW1.out,←HH.out])
  |(rw[←HW1.out])
  |(refine wpList_load_row rfl _ _ rfl h rfl _ X (0,0) _ HX1.out Tryz.underlying32 rfl (by rw[HXS.out];exact szPrs) ?_)
  |(refine wpList_buildTo rfl 62 #[(0,.tmp 7)] rfl (some 8) rfl Y ?_ ?_;focus(simpa[Act.eval,Act.put]using HBU.out))
  |(rw[←HW2.out])
  |(rw[←HW3.out])
  |fail)
 rw[HS2.out]
 refine HCN.out.mono ?_
 rintro e w4 ⟨A,c,rfl,rA,hb4,-⟩
 rw[HS1.out]
 have x4:=HX3.out.below hb4 HX3.out.lt
 have y4:=HY3.out.below hb4 HY3.out.lt
 have q4:w4.cell? ⟨h,4,none⟩=some (.slice Ah hn hc):=by rw[x4.cell,HXV.out];rfl
 have d4:w4.cell? ⟨h+1,4,none⟩=some (.slice Ah hn hc):=by rw[y4.cell,HYV.out];rfl
 have d5:w4.cell? ⟨h+1,5,none⟩=some (.slice Aw wn wc):=by rw[y4.cell,HYV.out];rfl
 have f4:w4.frozen? ⟨h+1,4,none⟩=false:=y4.free
 have f5:w4.frozen? ⟨h+1,5,none⟩=false:=y4.free
 have hcc:=rA.2.2.1
 have hci:(hn:Int)≤(c:Int):=by omega
 have hni:(hn:Int)≤((hn+wn+bn:Nat):Int):=by omega
 obtain⟨T,hT⟩:∃T,T=hn+wn+bn:=⟨_,rfl⟩
 obtain⟨A2,hA2⟩:∃A2,(if c=hn then A else A.map (·.add hn))=A2:=⟨_,rfl⟩
 have HFI:=Lib.hid (HFIN.out w4 A A2 c hb4 rA hA2)
 rw[←hT]at hni hcc⊢
 have HT:=Lib.hid hT;have HA2:=Lib.hid hA2;have HB4:=Lib.hid hb4;have HRA:=Lib.hid rA
 clear x4 y4 hT hA2 hb4 rA HFIN
 rcases A with _|ad
 ·obtain rfl:c=0:=HRA.out.2.1 rfl
  obtain rfl:T=0:=by omega
  obtain rfl:hn=0:=by omega
  obtain rfl:A2=none:=by rw[←HA2.out];rfl
  obtain⟨W5,hW5⟩:∃W,W=(w4.setCell ⟨h+1,4,none⟩ (.slice none 0 0)).setCell ⟨h+1,5,none⟩ (.slice none 0 (0)):=⟨_,rfl⟩
  have hf:=HFI.out
  rw[←HT.out,←hW5]at hf
  have hb5:Below h w W5:=by rw[hW5];exact below_cell (below_cell (HB3.out.trans (HB4.out.mono (by have:=HS3.out;omega))) (by omega) _ _) (by omega) _ _
  have HF:=Lib.hid (hf.below (Below.refl _ _).drew);have HB5:=Lib.hid hb5.drew;have HW5:=Lib.hid hW5
  clear hf hb5 hW5
  go_wp2_with fail
  go_region
  all_goals(
   rw[←HW5.out]
   go_wp2
   go_ret
   exact⟨h+1,none,0,none,0,rfl,by rw[←HH.out];exact HF.out,by rw[←HH.out];exact HB5.out⟩)
 ·have hA3:(if c=hn then(some ad:Option Addr)else some (ad.add hn))=A2:=HA2.out
  obtain⟨W5,hW5⟩:∃W,W=(w4.setCell ⟨h+1,4,none⟩ (.slice (some ad) hn c)).setCell ⟨h+1,5,none⟩ (.slice A2 (T-hn) (c-hn)):=⟨_,rfl⟩
  have hf:=HFI.out
  rw[←HT.out,←hW5]at hf
  have hb5:Below h w W5:=by rw[hW5];exact below_cell (below_cell (HB3.out.trans (HB4.out.mono (by have:=HS3.out;omega))) (by omega) _ _) (by omega) _ _
  have HF:=Lib.hid (hf.below (Below.refl _ _).drew);have HB5:=Lib.hid hb5.drew;have HW5:=Lib.hid hW5
  clear hf hb5 hW5
  go_wp2_with fail
  go_region
  all_goals(
   rw[←HW5.out]
   go_wp2
   go_ret
   exact⟨h+1,(some ad),c,A2,c-hn,rfl,by rw[←HH.out];exact HF.out,by rw[←HH.out];exact HB5.out⟩)
end Go.Proofs.YtokpcpjnihinfaaGreat
namespace Go.Proofs.YtokpcpjnihinfaaGreat
open Go.RowKit
theorem tab_nil{P:Program}{l:List Oper}{o:Oper}{a:Act}{w:World}{T:Value→World→Prop}{K:Act→World→Prop}{Q:Exit→Act→World→Prop}{E:Prop}(hw:Region.wanted o (yielded l.toArray a.tmps)=true)(x:Operand)(ho:o.op=.nilCheck x)(ad:Addr)(hx:a.eval x=.pointer (some ad))
  (hT:Up T (.pointer (some ad)) w) (hK:∀v w',Below w.heap.size w w'→Up T v w'→K (a.put o.dst v) w'):if Region.wanted o (yielded l.toArray a.tmps)=true then Oper.wp P o a w K Q else E:=
 tab_val hw _ (by simp only[execOp,ho,hx];rfl) hT hK
theorem tab_len{l:List Oper}{o:Oper}{a:Act}{w:World}{T:Value→World→Prop}{K:Act→World→Prop}{Q:Exit→Act→World→Prop}{E:Prop}(hw:Region.wanted o (yielded l.toArray a.tmps)=true)(x:Operand)(t:TypeId)(ho:o.op=.call {callee:=.builtin .len,args:=#[x],argTypes:=#[t]})(A:Option Addr)(n c:Nat)(hx:a.eval x=.slice A n c)
  {e:TypeId} (ht:Tryz.prog.underlying t=some (.slice e)) (hT:Up T (.int .i64 (n:Int)) w) (hK:∀v w',Below w.heap.size w w'→Up T v w'→K (a.put o.dst v) w'):if Region.wanted o (yielded l.toArray a.tmps)=true then Oper.wp Tryz.prog o a w K Q else E:=
 tab_val hw _ (by
  have h:(Builtin.len_ #[t] o.type #[.slice A n c]).run Tryz.prog w=.ok (goInt n) w:=by
   have he:Tryz.prog.elem t=e:=by unfold Program.elem;rw[ht]
   exact run_len_slice w t o.type A n c (by rw[he];exact ht)
  simp[execOp,ho,resolve,invoke,builtin,hx,h,Result.andThen,goInt]) hT hK
theorem tab_max{l:List Oper}{o:Oper}{a:Act}{w:World}{T:Value→World→Prop}{K:Act→World→Prop}{Q:Exit→Act→World→Prop}{E:Prop}(hw:Region.wanted o (yielded l.toArray a.tmps)=true)(x y:Operand)(t t':TypeId)(ho:o.op=.call {callee:=.builtin .max,args:=#[x,y],argTypes:=#[t,t']})(m n r:Int)(hx:a.eval x=.int .i64 m)(hy:a.eval y=.int .i64 n)
  (hr:(if n>m then n else m)=r) (hT:Up T (.int .i64 r) w) (hK:∀v w',Below w.heap.size w w'→Up T v w'→K (a.put o.dst v) w'):if Region.wanted o (yielded l.toArray a.tmps)=true then Oper.wp Tryz.prog o a w K Q else E:=by
 subst hr
 have h:(Builtin.max_ #[t,t'] o.type #[.int .i64 m,.int .i64 n]).run Tryz.prog w=.ok (.int .i64 (if n>m then n else m)) w:=by
  exact run_max_int2 ..
 exact tab_val hw _ (by simp[execOp,ho,resolve,invoke,builtin,hx,hy,h,Result.andThen]) hT hK
theorem rangeMid{w:World}{g:Nat}{cs:Array Value}{t:TypeId}(h:BoxC w g cs t)(k:Nat)(l:List Value)(hl:∀i,i<l.length→cs[k+i]?=l[i]?):w.rangeAt g k l:=fun i v hv=>by
 have hi:i<l.length:=by
  rcases Nat.lt_or_ge i l.length with h|h
  ·exact h
  ·rw[List.getElem?_eq_none h]at hv;cases hv
 rw[h.cell,hl i hi];exact hv
theorem add_nat(P:Program)(t:TypeId)(x y:Nat)(h:x+y≤9223372036854775807)(w:World):(binOp .add t (.int .i64 (x:Int)) (.int .i64 (y:Int))).run P w=.ok (.int .i64 ((x+y:Nat):Int)) w:=by
 have e:IntKind.i64.wrap ((x:Int)+(y:Int))=((x+y:Nat):Int):=by rw[←Int.natCast_add];exact wrap_i64 _ h
 simp[binOp,Op.intArith,go_sem,e]
theorem sub_nat(P:Program)(t:TypeId)(x y:Nat)(hx:x≤4611686018427387904)(hy:y≤4611686018427387904)(w:World):(binOp .sub t (.int .i64 (x:Int)) (.int .i64 (y:Int))).run P w=.ok (.int .i64 ((x:Int)-(y:Int))) w:=by
 have e:IntKind.i64.wrap ((x:Int)-(y:Int))=(x:Int)-(y:Int):=by
  show(let m:=((x:Int)-(y:Int))%(2^64:Int);if(true&&decide (m≥(2^63:Int)))=true then m-(2^64:Int)else m)=_
  have h1:(2:Int)^64=18446744073709551616:=rfl
  have h2:(2:Int)^63=9223372036854775808:=rfl
  simp only[h1,h2,Bool.true_and,decide_eq_true_eq]
  omega
 simp[binOp,Op.intArith,go_sem,e]
end Go.Proofs.YtokpcpjnihinfaaGreat
namespace Go.Proofs.YtokpcpjnihinfaaGreat
open Go.RowKit
def sinkG(l:List Oper)(F:List Nat)(n:Nat):Bool:=(List.range n).all fun i=>F.contains i||(List.range (n+1)).any fun j=>decide (i<j)&& !F.contains j&&Region.waitsFor .any l.toArray j i
theorem tail_lateG{l:List Oper}{F:List Nat}{n:Nat}{listed:Array Bool}(hs:sinkG l F n=true)(hc:Region.chainB .any l.toArray n=true)(hn:n<l.length)(inv:HeadInv .any l.toArray n listed){i:Nat}(hi:i<n)(hi0:i∉F)(hu:listed.getD i true=false):
  ∀t,n≤t→t∉Region.ready .any l.toArray listed:=by
 have hsz:listed.size=l.length:=by rw[inv.size];simp
 have key:∀(d i:Nat),d=n-i→i≤n→i∉F→listed.getD i true=false→n∈Region.ready .any l.toArray listed→i=n:=by
  intro d
  induction d using Nat.strongRecOn with
  |_ d ih=>
   intro i hd hi hi0 hu hr
   rcases Nat.eq_or_lt_of_le hi with e|hi
   ·exact e
   ·exfalso
    have h1:=List.all_eq_true.1 hs i (List.mem_range.2 hi)
    simp only[Bool.or_eq_true]at h1
    rcases h1 with h1|h1
    ·exact hi0 (by simpa using h1)
    ·obtain⟨j,hj,hj2⟩:=List.any_eq_true.1 h1
     simp only[Bool.and_eq_true,decide_eq_true_eq,Bool.not_eq_true',List.contains_eq_mem,decide_eq_false_iff_not]at hj2
     obtain⟨oj,hoj,e,he,hb,hon⟩:=Region.waitsFor_spec hj2.2
     have hjn:j≤n:=by have:=List.mem_range.1 hj;omega
     cases hl:listed.getD j false with
     |true=>
      have h2:=inv.closed j oj hoj hl e he hb
      rw[hon,getD_both hu]at h2;cases h2
     |false=>
      have hjt:=ih (n-j) (by omega) j rfl hjn hj2.1.2 (getD_in (by omega) hl) hr
      subst hjt
      obtain⟨_,ot,hot,hall⟩:=mem_ready.1 hr
      rw[hoj]at hot;cases hot
      have h2:=hall e he hb
      rw[hon,getD_both hu]at h2;cases h2
 intro t ht hr
 by_cases htn:t=n
 ·subst htn
  have:=key (t-i) i rfl (by omega) hi0 hu hr
  omega
 ·obtain⟨_,ot,hot,hall⟩:=mem_ready.1 hr
  have htl:t<l.length:=by have:=(Array.getElem?_eq_some_iff.1 hot).1;simpa using this
  have h1:=List.all_eq_true.1 hc t (List.mem_range.2 (by simpa using htl))
  simp only[Bool.or_eq_true,decide_eq_true_eq]at h1
  rcases h1 with h1|h1
  ·omega
  ·obtain⟨o',ho',e,he,hb,hon⟩:=Region.waitsFor_spec h1
   rw[hot]at ho';cases ho'
   have h2:=hall e he hb
   rw[hon,getD_both (inv.tail (t-1) (by omega) (by simp;omega))]at h2;cases h2
def FloatAt(P:Program)(l:List Oper)(T:Nat→Value→World→Prop)(a0:Act)(U:World)(Q:Exit→Act→World→Prop)(i0:Nat):Prop:=
 ∃o0 d0,l[i0]?=some o0∧o0.guard=none∧o0.dst=some d0∧(∀v c a w,Q (.panic c) (a.put o0.dst v) w→Q (.panic c) a w)∧
  ∀(a:Act) (w:World),Below U.heap.size U w→(∀s,offB l s=true→a.eval (.tmp s)=a0.eval (.tmp s))→(∀j d,Region.waitsFor .any l.toArray i0 j=true→(l[j]?).bind (·.dst)=some d→Up (T j) (a.eval (.tmp d)) w)→∃v,(∀w',(execOp a.eval o0).run P w'=.ok (.value v) w')∧Up (T i0) v w
theorem tabg_any{P:Program}{Q:Exit→Act→World→Prop}{a0:Act}{U:World}{l:List Oper}{T:Nat→Value→World→Prop}{n:Nat}{F:List Nat}(hFn:∀i∈F,i<n)(hn:n<l.length)(hs:sinkG l F n=true)(hfl:∀i∈F,floatB l i=true)(hsel:Region.noSelect l.toArray=true)(hF:∀i∈F,FloatAt P l T a0 U Q i)
   (hc:Region.chainB .any l.toArray n=true)
  (hseq:Region.seqB .any l.toArray (l.length-n) n (doneA n (l.length-n))=true) (hB:tabB l a0.tmps.size=true) (hstep:TabAll P l T a0 U 0 (l.take n))
  (hend:∀listed a w,TabInv l T a0 U listed a w→(∀i,i<n→listed.getD i false=true)→(∀i,n≤i→i<l.length→listed.getD i true=false)→wpList P l.toArray Q (l.drop n) a w):
  ∀(f:Nat) (listed:Array Bool) (a:Act) (w:World),((List.range n).filter fun i=> !listed.getD i false).length=f→TabInv l T a0 U listed a w→HeadInv .any l.toArray n listed→wpAny P .any l.toArray Q (f+(l.length-n)) listed a w:=by
 have hB':=hB
 simp only[tabB,Bool.and_eq_true,decide_eq_true_eq]at hB'
 obtain⟨⟨hnd,hin⟩,hlow⟩:=hB'
 intro f
 induction f with
 |zero=>
  intro listed a w hf inv hi
  have hup:∀i,i<n→listed.getD i false=true:=fun i hi=>by
   have h0:=List.length_eq_zero_iff.1 hf
   have h1:=List.filter_eq_nil_iff.1 h0 i (List.mem_range.2 hi)
   simpa using h1
  have hk:=hend listed a w inv hup (fun i h1 h2=>hi.tail i h1 (by simpa using h2))
  have he:=split_done (n:=n) (g:=l.length-n) (listed:=listed) (by rw[inv.size];omega) (fun i h=>by
   have h1:=hup i h
   cases h2:listed.getD i true with
   |true=>rfl
   |false=>rw[getD_both h2]at h1;cases h1) (fun t ht ht2=>hi.tail t ht (by simp;omega))
  subst he
  have h3:=wpAny_of_seq (P:=P) (md:=.any) (Q':=Q) (l.drop n) n (doneA n (l.length-n)) a w (fun j=>by simp[List.getElem?_drop]) (by rw[List.length_drop];exact hseq) hk
  rw[List.length_drop]at h3
  rw[Nat.zero_add];exact h3
 |succ f ih=>
  intro listed a w hf inv hi
  rw[show f+1+(l.length-n)=(f+(l.length-n))+1 by omega]
  obtain⟨x,hxn,hxu⟩:∃x,x<n∧listed.getD x false=false:=by
   have:0<((List.range n).filter fun i=> !listed.getD i false).length:=by omega
   obtain⟨x,hx⟩:=List.exists_mem_of_length_pos this
   obtain⟨h1,h2⟩:=List.mem_filter.1 hx
   exact⟨x,List.mem_range.1 h1,by simpa using h2⟩
  by_cases hrF:∃i0,i0∈F∧i0∈Region.ready .any l.toArray listed
  ·
   obtain⟨i0,hi0F,hr0⟩:=hrF
   have hi0n:=hFn i0 hi0F
   have hfl:=hfl i0 hi0F
   obtain⟨o0,d0,hi0,hg0,hd0,hQ0,hy0⟩:=hF i0 hi0F
   obtain⟨h0,o,ho,hafter⟩:=mem_ready.1 hr0
   have hol:l[i0]?=some o:=by simpa using ho
   have hoo:o=o0:=by rw[hi0]at hol;exact(Option.some.inj hol).symm
   subst hoo
   have hlt:i0<l.length:=(List.getElem?_eq_some_iff.1 hol).1
   have heval:∀s,offB l s=true→a.eval (.tmp s)=a0.eval (.tmp s):=fun s hs=>by
    show a.tmps.getD s undef=a0.tmps.getD s undef
    rw[Array.getD_eq_getD_getElem?,Array.getD_eq_getD_getElem?,inv.off s (fun _ _ _ hd=>offB_is hs hd)]
   have hfacts:∀j d,Region.waitsFor .any l.toArray i0 j=true→(l[j]?).bind (·.dst)=some d→Up (T j) (a.eval (.tmp d)) w:=fun j d hw hd=>by
    obtain⟨ok,hok,e,he,hb,hon⟩:=Region.waitsFor_spec hw
    rw[ho]at hok;cases hok
    exact inv.told j d (by have:=hafter e he hb;rwa[hon]at this) hd
   obtain⟨v,hv1,hv2⟩:=hy0 a w inv.below heval hfacts
   have hdlt:d0<a.tmps.size:=by
    have h1:=List.all_eq_true.1 hin o (List.mem_of_getElem? hol)
    simp only[hd0,decide_eq_true_eq]at h1
    rw[inv.tmps];exact h1
   refine wpAny_first (oi:=o) (v:=v) ho (Region.noSelect_spec hsel) (hQ0 v) (f+(l.length-n)) listed a w (fun j oj hj hne hun hno=>?_) hr0 (.inl ⟨by simp[Region.wanted,hg0],hv1⟩) ?_
   ·have hjl:j<l.length:=by have:=(Array.getElem?_eq_some_iff.1 hj).1;simpa using this
    have h1:=List.all_eq_true.1 hfl j (List.mem_range.2 hjl)
    have hj2:l[j]?=some oj:=by simpa using hj
    simp only[hi0,hj2,Bool.or_eq_true,beq_iff_eq]at h1
    rcases h1 with((h1|h1)|h1)|h1
    ·exact absurd h1 hne
    ·obtain⟨ok,hok,e,he,hb,hon⟩:=Region.waitsFor_spec h1
     rw[ho]at hok;cases hok
     have h2:=hafter e he hb
     rw[hon,getD_both hun]at h2;cases h2
    ·obtain⟨ok,hok,e,he,hb,hon⟩:=Region.waitsFor_spec h1
     rw[hj]at hok;cases hok
     exact absurd hon (hno e he hb)
    ·exact h1
   ·refine ih _ _ _ ?_ ⟨by simp[inv.size],?_,?_,inv.below,fun s hs=>?_,fun j d hl hd=>?_⟩ (hi.set hr0 hi0n)
    ·have hfe:((List.range n).filter fun i=> !(listed.setIfInBounds i0 true).getD i false)=((List.range n).filter fun i=> !listed.getD i false).erase i0:=by
      rw[List.Nodup.erase_eq_filter (List.nodup_range.filter _),List.filter_filter]
      apply List.filter_congr
      intro x hx
      by_cases e:x=i0
      ·subst e
       have:x<listed.size:=by rw[inv.size];exact hlt
       simp[this]
      ·rw[getD_set_ne false (Ne.symm e)];simp[e]
     rw[hfe,List.length_erase_of_mem (List.mem_filter.2 ⟨List.mem_range.2 hi0n,by rw[getD_both h0];rfl⟩),hf];rfl
    ·unfold Act.put;cases o.dst<;>simp[inv.tmps]
    ·unfold Act.put;cases o.dst<;>exact inv.defers
    ·rw[←inv.off s (fun j d hl hd=>hs j d (getD_set_true hl) hd),hd0]
     have e:d0≠s:=hs i0 d0 (by have:i0<listed.size:=(by rw[inv.size];exact hlt);simp[this]) (by rw[hol];simpa using hd0)
     simp[Act.put,Array.getElem?_setIfInBounds_ne e]
    ·by_cases e:j=i0
     ·subst e
      rw[hol]at hd
      have hd':o.dst=some d:=by simpa using hd
      have hdd:d=d0:=by rw[hd0]at hd';exact(Option.some.inj hd').symm
      subst hdd
      have he:(a.put o.dst v).eval (.tmp d)=v:=by rw[hd'];simp[Act.put,Act.eval,hdlt]
      rw[he];exact hv2
     ·rw[getD_set_ne false (Ne.symm e)]at hl
      have h1:=inv.told j d hl hd
      have he:(a.put o.dst v).eval (.tmp d)=a.eval (.tmp d):=Act.eval_put fun d' hd' hx=>by
       cases hx
       cases hj:l[j]? with
       |none=>rw[hj]at hd;cases hd
       |some y=>
        rw[hj]at hd
        exact e (tab_dst hnd hj hol (by simpa using hd) hd')
      rw[he];exact h1
  obtain⟨y,hyn,hy0',hyu⟩:∃y,y<n∧y∉F∧listed.getD y false=false:=by
   have key:∀x,x<n→listed.getD x false=false→∃y,y<n∧y∉F∧listed.getD y false=false:=by
    intro x
    induction x using Nat.strongRecOn with
    |_ x ihx=>
     intro hxn hxu
     by_cases e:x∈F
     ·have hex:∃o0:Oper,l[x]?=some o0∧∃e,e∈o0.after∧Region.binds .any e=true∧listed.getD e.on false≠true:=by
       refine⟨l[x]'(by omega),List.getElem?_eq_getElem (by omega),?_⟩
       apply Classical.byContradiction
       intro hno
       exact hrF ⟨x,e,mem_ready.2 ⟨getD_in (by rw[inv.size];omega) hxu,l[x]'(by omega),by simp,fun e he hb=>Classical.byContradiction fun hne=>hno ⟨e,he,hb,hne⟩⟩⟩
      obtain⟨o0,ho0,e,he,hb,hne⟩:=hex
      have h1:=List.all_eq_true.1 hlow x (List.mem_range.2 (by omega))
      simp only[ho0]at h1
      have h2:=Array.all_eq_true_iff_forall_mem.1 h1 e he
      simp only[hb,Bool.not_true,Bool.false_or,decide_eq_true_eq]at h2
      exact ihx e.on h2 (by omega) (by simpa using hne)
     ·exact⟨x,hxn,e,hxu⟩
   exact key x hxn hxu
  have hxt:listed.getD y true=false:=getD_in (by rw[inv.size];omega) hyu
  have hready:∀i,i∈Region.ready .any l.toArray listed→i<n:=fun i hr=>by
   rcases Nat.lt_or_ge i n with g|g
   ·exact g
   ·exact absurd hr (tail_lateG hs hc hn hi hyn hy0' hxt i g)
  refine⟨fun h0=>?_,fun k hk=>?_⟩
  ·exfalso
   have hall:∀i,i<l.length→listed.getD i false=true:=fun i=>by
    induction i using Nat.strongRecOn with
    |_ i ih2=>
     intro hil
     cases hu:listed.getD i false with
     |true=>rfl
     |false=>
      exfalso
      have h1:=List.all_eq_true.1 hlow i (List.mem_range.2 hil)
      have hoi:l[i]?=some l[i]:=List.getElem?_eq_getElem hil
      simp only[hoi]at h1
      have:i∈Region.ready .any l.toArray listed:=mem_ready.2 ⟨getD_in (by rw[inv.size];exact hil) hu,l[i],by simp[hil],fun e he hb=>by
       have h2:=Array.all_eq_true_iff_forall_mem.1 h1 e he
       simp only[hb,Bool.not_true,Bool.false_or,decide_eq_true_eq]at h2
       exact ih2 e.on h2 (by omega)⟩
      rw[h0]at this;cases this
   have:=hall x (by omega)
   rw[hxu]at this;cases this
  ·have hkn:=hready k hk
   obtain⟨h0,o,ho,hafter⟩:=mem_ready.1 hk
   have hol:l[k]?=some o:=by simpa using ho
   have hlt:k<l.length:=(List.getElem?_eq_some_iff.1 hol).1
   have hst:TabStep P l T a0 U k o:=by
    have:=hstep.get (j:=k) (o:=o) (by rw[List.getElem?_take_of_lt hkn];exact hol)
    rwa[Nat.zero_add]at this
   have heval:∀s,offB l s=true→a.eval (.tmp s)=a0.eval (.tmp s):=fun s hs=>by
    show a.tmps.getD s undef=a0.tmps.getD s undef
    rw[Array.getD_eq_getD_getElem?,Array.getD_eq_getD_getElem?,inv.off s (fun _ _ _ hd=>offB_is hs hd)]
   have hfacts:∀j d,Region.waitsFor .any l.toArray k j=true→(l[j]?).bind (·.dst)=some d→Up (T j) (a.eval (.tmp d)) w:=fun j d hw hd=>by
    obtain⟨ok,hok,e,he,hb,hon⟩:=Region.waitsFor_spec hw
    rw[ho]at hok;cases hok
    exact inv.told j d (by have:=hafter e he hb;rwa[hon]at this) hd
   have hdlt:∀d,o.dst=some d→d<a.tmps.size:=fun d hd=>by
    have h1:=List.all_eq_true.1 hin o (List.mem_of_getElem? hol)
    simp only[hd,decide_eq_true_eq]at h1
    rw[inv.tmps];exact h1
   have hgo:=hst a w inv.below heval hfacts (wpAny P .any l.toArray Q (f+(l.length-n)) (listed.setIfInBounds k true)) Q (fun v w' hb hv=>by
    refine ih _ _ _ ?_ ⟨by simp[inv.size],?_,?_,inv.below.trans (hb.mono inv.below.size),fun s hs=>?_,fun j d hl hd=>?_⟩ (hi.set hk hkn)
    ·have hfe:((List.range n).filter fun i=> !(listed.setIfInBounds k true).getD i false)=((List.range n).filter fun i=> !listed.getD i false).erase k:=by
      rw[List.Nodup.erase_eq_filter (List.nodup_range.filter _),List.filter_filter]
      apply List.filter_congr
      intro x hx
      by_cases e:x=k
      ·subst e
       have:x<listed.size:=by rw[inv.size];exact hlt
       simp[this]
      ·rw[getD_set_ne false (Ne.symm e)];simp[e]
     rw[hfe,List.length_erase_of_mem (List.mem_filter.2 ⟨List.mem_range.2 hkn,by rw[getD_both h0];rfl⟩),hf];rfl
    ·unfold Act.put;cases o.dst<;>simp[inv.tmps]
    ·unfold Act.put;cases o.dst<;>exact inv.defers
    ·rw[←inv.off s (fun j d hl hd=>hs j d (getD_set_true hl) hd)]
     unfold Act.put
     cases hd:o.dst with
     |none=>rfl
     |some d=>
      have e:d≠s:=hs k d (by have:k<listed.size:=(by rw[inv.size];exact hlt);simp[this]) (by rw[hol];simpa using hd)
      simp[Array.getElem?_setIfInBounds_ne e]
    ·by_cases e:j=k
     ·subst e
      rw[hol]at hd
      have hd':o.dst=some d:=by simpa using hd
      have hlt2:=hdlt d hd'
      have he:(a.put o.dst v).eval (.tmp d)=v:=by rw[hd'];simp[Act.put,Act.eval,hlt2]
      rw[he];exact hv
     ·rw[getD_set_ne false (Ne.symm e)]at hl
      have h1:=inv.told j d hl hd
      have he:(a.put o.dst v).eval (.tmp d)=a.eval (.tmp d):=Act.eval_put fun d' hd' hx=>by
       cases hx
       cases hj:l[j]? with
       |none=>rw[hj]at hd;cases hd
       |some y=>
        rw[hj]at hd
        exact e (tab_dst hnd hj hol (by simpa using hd) hd')
      rw[he];exact h1.on hb)
   unfold wpOp
   simp only[ho]
   split at hgo
   ·rename_i hw;rw[if_pos hw];exact .inl hgo
   ·rename_i hw;rw[if_neg hw];exact hgo
theorem float_move{P:Program}{o:Oper}{a:Act}(x:Operand)(ho:o.op=.move x)(v:Value)(hx:a.eval x=v):∀w',(execOp a.eval o).run P w'=.ok (.value v) w':=fun w'=>by
 unfold execOp;simp only[ho,hx];rfl
theorem float_slice{P:Program}{o:Oper}{a:Act}(t:TypeId)(x:Operand)(lo hi mx:Option Operand)(ho:o.op=.slice t x lo hi mx)(u v:Value)(lo' hi' mx':Option Value)(hx:a.eval x=u)(h1:lo.map a.eval=lo')(h2:hi.map a.eval=hi')(h3:mx.map a.eval=mx')(hr:∀w,(Instr.sliceAt t u lo' hi' mx').run P w=.ok v w):∀w',(execOp a.eval o).run P w'=.ok (.value v) w':=fun w'=>by
 unfold execOp;simp only[ho,hx,h1,h2,h3,Sem.run_bind,hr w',Result.andThen_ok];rfl
def tabgB(l:List Oper)(F:List Nat)(n m:Nat):Bool:=(F.all fun i=>decide (i<n))&&(F.all fun i=>floatB l i)&&Region.noSelect l.toArray&&decide (n<l.length)&&sinkG l F n&&Region.chainB .any l.toArray n&&Region.seqB .any l.toArray (l.length-n) n (doneA n (l.length-n))&&tabB l m
theorem wp_region_tabg{P:Program}{id:Nat}{Q:Exit→Act→World→Prop}{a0:Act}{w0:World}{l:List Oper}(n:Nat)(F:List Nat)(T:Nat→Value→World→Prop)(U:World)(hU:Below U.heap.size U w0)(hm:P.follows .mixedOrders=true)(hB:tabgB l F n a0.tmps.size=true)(hF:∀i∈F,FloatAt P l T a0 U Q i)
  (hstep:TabAll P l T a0 U 0 (l.take n))
  (hend:∀(vals:Tmp→Value) (w:World),Below U.heap.size U w→(∀j d,((l.take n)[j]?).bind (·.dst)=some d→Up (T j) (vals d) w)→wpList P l.toArray Q (l.drop n) (putL ((l.take n).map (·.dst)) vals a0) w):(Code.region id l.toArray true).wp P Q a0 w0:=by
 simp only[tabgB,Bool.and_eq_true,decide_eq_true_eq]at hB
 obtain⟨⟨⟨⟨⟨⟨⟨hFn,hfl⟩,hsel⟩,hn⟩,hs⟩,hc⟩,hseq⟩,hB⟩:=hB
 refine wp_region_any hm ?_
 have hl0:∀i,(Array.replicate l.toArray.size false).getD i false=false:=fun i=>getD_replicate_false _ _
 have hinv:HeadInv .any l.toArray n (Array.replicate l.toArray.size false):=⟨by simp,(fun j oj _ hl=>by rw[hl0]at hl;cases hl),(fun t _ ht=>by simp at ht;simp[ht])⟩
 have key:=tabg_any (P:=P) (Q:=Q) (T:=T) (U:=U) (F:=F) (fun i hi=>of_decide_eq_true (List.all_eq_true.1 hFn i hi)) hn hs (fun i hi=>List.all_eq_true.1 hfl i hi) hsel hF hc hseq hB hstep (fun listed a w inv hup htl=>by
  have ha:a=putL ((l.take n).map (·.dst)) (fun d=>a.eval (.tmp d)) a0:=by
   have hB2:=hB
   simp only[tabB,Bool.and_eq_true,decide_eq_true_eq]at hB2
   have ht:a.tmps=(putL ((l.take n).map (·.dst)) (fun d=>a.eval (.tmp d)) a0).tmps:=by
    apply Array.ext_getElem?
    intro s
    by_cases hs:some s∈(l.take n).map (·.dst)
    ·obtain⟨o,ho,hd⟩:=List.mem_map.1 hs
     have h1:=List.all_eq_true.1 hB2.1.2 o (List.mem_of_mem_take ho)
     simp only[hd,decide_eq_true_eq]at h1
     rw[putL_in _ _ _ s (.inl hs) h1]
     have h2:s<a.tmps.size:=by rw[inv.tmps];exact h1
     simp[Act.eval,h2]
    ·rw[putL_out _ _ _ s hs]
     refine inv.off s (fun j d hl hd e=>hs ?_)
     cases hj:l[j]? with
     |none=>rw[hj]at hd;cases hd
     |some y=>
      have hjl:j<l.length:=(List.getElem?_eq_some_iff.1 hj).1
      have hjn:j<n:=by
       rcases Nat.lt_or_ge j n with g|g
       ·exact g
       ·have:=getD_both (htl j g hjl)
        rw[hl]at this;cases this
      rw[hj]at hd
      exact List.mem_map.2 ⟨y,List.mem_of_getElem? (i:=j) (by rw[List.getElem?_take_of_lt hjn];exact hj),by rw[←e];simpa using hd⟩
   have hdf:a.defers=(putL ((l.take n).map (·.dst)) (fun d=>a.eval (.tmp d)) a0).defers:=by rw[putL_defers];exact inv.defers
   cases a with
   |mk t df=>
    generalize hp:putL ((l.take n).map (·.dst)) (fun d=>(Act.mk t df).eval (.tmp d)) a0=p at*
    cases p with
    |mk t2 df2=>simp only at ht hdf;rw[ht,hdf]
  rw[ha]
  refine hend _ w inv.below fun j d hd=>?_
  rcases Nat.lt_or_ge j n with g|g
  ·rw[List.getElem?_take_of_lt g]at hd
   exact inv.told j d (hup j g) hd
  ·rw[List.getElem?_eq_none (by rw[List.length_take];omega)]at hd;cases hd) n (Array.replicate l.toArray.size false) a0 w0.drew (by rw[List.filter_eq_self.2 (fun i _=>by rw[hl0];rfl)];simp) ⟨by simp,rfl,rfl,hU.drew,fun _ _=>rfl,fun j d h _=>by rw[hl0]at h;cases h⟩ hinv
 rw[show n+(l.length-n)=l.toArray.size by simp;omega]at key
 exact key
end Go.Proofs.YtokpcpjnihinfaaGreat
namespace Go.Proofs.YtokpcpjnihinfaaGreat
open Go.RowKit
structure TwInv (l:List Oper) (T:Nat→Value→Prop) (a0:Act) (W0 W1:World) (s:Nat) (listed:Array Bool) (a:Act) (w:World):Prop where
 size:listed.size=l.length
 tmps:a.tmps.size=a0.tmps.size
 defers:a.defers=a0.defers
 off:∀t,(∀j d,listed.getD j false=true→(l[j]?).bind (·.dst)=some d→d≠t)→a.tmps[t]?=a0.tmps[t]?
 told:∀j d,listed.getD j false=true→(l[j]?).bind (·.dst)=some d→T j (a.eval (.tmp d))
 closed:∀j oj,l[j]?=some oj→listed.getD j false=true→∀e∈oj.after,Region.binds .any e=true→listed.getD e.on false=true
 world:w=if listed.getD s false=true then W1 else W0
def TwStep(P:Program)(l:List Oper)(T:Nat→Value→Prop)(a0:Act)(W0 W1:World)(s k:Nat)(o:Oper):Prop:=
 ∀(a:Act) (w:World),(w=W0∨(w=W1∧k≠s∧Region.waitsFor .any l.toArray s k=false))→(∀t,offB l t=true→a.eval (.tmp t)=a0.eval (.tmp t))→(∀j d,Region.waitsFor .any l.toArray k j=true→(l[j]?).bind (·.dst)=some d→T j (a.eval (.tmp d)))→
  ∀(K:Act→World→Prop) (Q:Exit→Act→World→Prop),(∀v,T k v→K (a.put o.dst v) (if k=s then W1 else w))→if Region.wanted o (yielded l.toArray a.tmps)=true then Oper.wp P o a w K Q else K (a.put o.dst undef) w
def TwAll(P:Program)(l:List Oper)(T:Nat→Value→Prop)(a0:Act)(W0 W1:World)(s:Nat):Nat→List Oper→Prop
 |_,[]=>True
 |k,o::r=>TwStep P l T a0 W0 W1 s k o∧TwAll P l T a0 W0 W1 s (k+1) r
theorem TwAll.get{P:Program}{l:List Oper}{T:Nat→Value→Prop}{a0:Act}{W0 W1:World}{s:Nat}:∀{r:List Oper} {k:Nat},TwAll P l T a0 W0 W1 s k r→∀{j:Nat} {o:Oper},r[j]?=some o→TwStep P l T a0 W0 W1 s (k+j) o
 |[],_,_,_,_,h=>by cases h
 |_::_,k,hA,0,_,h=>by cases h;exact hA.1
 |_::r,k,hA,j+1,o,h=>by
  have:=TwAll.get (r:=r) hA.2 (j:=j) (by simpa using h)
  rw[show k+1+j=k+(j+1) by omega]at this
  exact this
theorem tw_any{P:Program}{Q:Exit→Act→World→Prop}{a0:Act}{W0 W1:World}{l:List Oper}{T:Nat→Value→Prop}{s:Nat}(hs:s<l.length)(hB:tabB l a0.tmps.size=true)(hstep:TwAll P l T a0 W0 W1 s 0 l)
  (hend:∀listed a w,TwInv l T a0 W0 W1 s listed a w→(∀i,i<l.length→listed.getD i false=true)→Q .normal a w):
  ∀(f:Nat) (listed:Array Bool) (a:Act) (w:World),((List.range l.length).filter fun i=> !listed.getD i false).length=f→TwInv l T a0 W0 W1 s listed a w→wpAny P .any l.toArray Q f listed a w:=by
 have hB':=hB
 simp only[tabB,Bool.and_eq_true,decide_eq_true_eq]at hB'
 obtain⟨⟨hnd,hin⟩,hlow⟩:=hB'
 have hall:∀(listed:Array Bool),listed.size=l.length→Region.ready .any l.toArray listed=[]→∀i,i<l.length→listed.getD i false=true:=fun listed hsz hr i=>by
  induction i using Nat.strongRecOn with
  |_ i ih=>
   intro hi
   cases hu:listed.getD i false with
   |true=>rfl
   |false=>
    exfalso
    have h1:=List.all_eq_true.1 hlow i (List.mem_range.2 hi)
    have hoi:l[i]?=some l[i]:=List.getElem?_eq_getElem hi
    simp only[hoi]at h1
    have:i∈Region.ready .any l.toArray listed:=mem_ready.2 ⟨getD_in (by omega) hu,l[i],by simp[hi],fun e he hb=>by
     have h2:=Array.all_eq_true_iff_forall_mem.1 h1 e he
     simp only[hb,Bool.not_true,Bool.false_or,decide_eq_true_eq]at h2
     exact ih e.on h2 (by omega)⟩
    rw[hr]at this;cases this
 intro f
 induction f with
 |zero=>
  intro listed a w hf inv
  have hup:∀i,i<l.length→listed.getD i false=true:=fun i hi=>by
   have h0:=List.length_eq_zero_iff.1 hf
   have h1:=List.filter_eq_nil_iff.1 h0 i (List.mem_range.2 hi)
   simpa using h1
  refine⟨?_,hend listed a w inv hup⟩
  apply List.eq_nil_iff_forall_not_mem.2
  intro i hi
  obtain⟨h0,o,ho,_⟩:=mem_ready.1 hi
  have hlt:i<l.length:=by have:=(Array.getElem?_eq_some_iff.1 ho).1;simpa using this
  have h1:=hup i hlt
  rw[getD_both h0]at h1;cases h1
 |succ f ih=>
  intro listed a w hf inv
  refine⟨fun h0=>hend listed a w inv (hall listed inv.size h0),fun k hk=>?_⟩
  obtain⟨h0,o,ho,hafter⟩:=mem_ready.1 hk
  have hol:l[k]?=some o:=by simpa using ho
  have hlt:k<l.length:=(List.getElem?_eq_some_iff.1 hol).1
  have hst:TwStep P l T a0 W0 W1 s k o:=by have:=hstep.get hol;rwa[Nat.zero_add]at this
  have heval:∀t,offB l t=true→a.eval (.tmp t)=a0.eval (.tmp t):=fun t ht=>by
   show a.tmps.getD t undef=a0.tmps.getD t undef
   rw[Array.getD_eq_getD_getElem?,Array.getD_eq_getD_getElem?,inv.off t (fun _ _ _ hd=>offB_is ht hd)]
  have hfacts:∀j d,Region.waitsFor .any l.toArray k j=true→(l[j]?).bind (·.dst)=some d→T j (a.eval (.tmp d)):=fun j d hw hd=>by
   obtain⟨ok,hok,e,he,hb,hon⟩:=Region.waitsFor_spec hw
   rw[ho]at hok;cases hok
   exact inv.told j d (by have:=hafter e he hb;rwa[hon]at this) hd
  have hdlt:∀d,o.dst=some d→d<a.tmps.size:=fun d hd=>by
   have h1:=List.all_eq_true.1 hin o (List.mem_of_getElem? hol)
   simp only[hd,decide_eq_true_eq]at h1
   rw[inv.tmps];exact h1
  have hw01:w=W0∨(w=W1∧k≠s∧Region.waitsFor .any l.toArray s k=false):=by
   cases hls:listed.getD s false with
   |false=>left;have:=inv.world;rw[hls]at this;simpa using this
   |true=>
    right
    refine⟨by have:=inv.world;rw[hls]at this;simpa using this,fun e=>?_,?_⟩
    ·subst e;rw[getD_both h0]at hls;cases hls
    ·cases hw:Region.waitsFor .any l.toArray s k with
     |false=>rfl
     |true=>
      exfalso
      obtain⟨os,hos,e,he,hb,hon⟩:=Region.waitsFor_spec hw
      have:=inv.closed s os (by simpa using hos) hls e he hb
      rw[hon,getD_both h0]at this;cases this
  have hgo:=hst a w hw01 heval hfacts (wpAny P .any l.toArray Q f (listed.setIfInBounds k true)) Q (fun v hv=>by
   refine ih _ _ _ ?_ ⟨by simp[inv.size],?_,?_,fun t ht=>?_,fun j d hl hd=>?_,fun j oj hj hl e he hb=>?_,?_⟩
   ·have hfe:((List.range l.length).filter fun i=> !(listed.setIfInBounds k true).getD i false)=((List.range l.length).filter fun i=> !listed.getD i false).erase k:=by
     rw[List.Nodup.erase_eq_filter (List.nodup_range.filter _),List.filter_filter]
     apply List.filter_congr
     intro x hx
     by_cases e:x=k
     ·subst e
      have:x<listed.size:=by rw[inv.size];exact hlt
      simp[this]
     ·rw[getD_set_ne false (Ne.symm e)];simp[e]
    rw[hfe,List.length_erase_of_mem (List.mem_filter.2 ⟨List.mem_range.2 hlt,by rw[getD_both h0];rfl⟩),hf];rfl
   ·unfold Act.put;cases o.dst<;>simp[inv.tmps]
   ·unfold Act.put;cases o.dst<;>exact inv.defers
   ·rw[←inv.off t (fun j d hl hd=>ht j d (getD_set_true hl) hd)]
    unfold Act.put
    cases hd:o.dst with
    |none=>rfl
    |some d=>
     have e:d≠t:=ht k d (by have:k<listed.size:=(by rw[inv.size];exact hlt);simp[this]) (by rw[hol];simpa using hd)
     simp[Array.getElem?_setIfInBounds_ne e]
   ·by_cases e:j=k
    ·subst e
     rw[hol]at hd
     have hd':o.dst=some d:=by simpa using hd
     have hlt2:=hdlt d hd'
     have he:(a.put o.dst v).eval (.tmp d)=v:=by rw[hd'];simp[Act.put,Act.eval,hlt2]
     rw[he];exact hv
    ·rw[getD_set_ne false (Ne.symm e)]at hl
     have h1:=inv.told j d hl hd
     have he:(a.put o.dst v).eval (.tmp d)=a.eval (.tmp d):=Act.eval_put fun d' hd' hx=>by
      cases hx
      cases hj:l[j]? with
      |none=>rw[hj]at hd;cases hd
      |some y=>
       rw[hj]at hd
       exact e (tab_dst hnd hj hol (by simpa using hd) hd')
     rw[he];exact h1
   ·by_cases e':j=k
    ·subst e'
     rw[hol]at hj;cases hj
     exact getD_set_true (hafter e he hb)
    ·rw[getD_set_ne false (Ne.symm e')]at hl
     exact getD_set_true (inv.closed j oj hj hl e he hb)
   ·by_cases e:k=s
    ·subst e
     have:k<listed.size:=by rw[inv.size];exact hlt
     rw[if_pos rfl];simp[this]
    ·rw[if_neg e,getD_set_ne false e];exact inv.world)
  unfold wpOp
  simp only[ho]
  split at hgo
  ·rename_i hw;rw[if_pos hw];exact .inl hgo
  ·rename_i hw;rw[if_neg hw];exact hgo
theorem wp_region_two{P:Program}{id:Nat}{Q:Exit→Act→World→Prop}{a0:Act}{w0:World}{l:List Oper}(s:Nat)(T:Nat→Value→Prop)(W1:World)(hm:P.follows .mixedOrders=true)(hs:(decide (s<l.length)&&tabB l a0.tmps.size)=true)
  (hstep:TwAll P l T a0 w0.drew W1 s 0 l)
  (hend:∀(vals:Tmp→Value),(∀j d,(l[j]?).bind (·.dst)=some d→T j (vals d))→Q .normal (putL (l.map (·.dst)) vals a0) W1):(Code.region id l.toArray true).wp P Q a0 w0:=by
 simp only[Bool.and_eq_true,decide_eq_true_eq]at hs
 obtain⟨hsl,hB⟩:=hs
 refine wp_region_any hm ?_
 have hl0:∀i,(Array.replicate l.toArray.size false).getD i false=false:=fun i=>getD_replicate_false _ _
 refine tw_any (T:=T) hsl hB hstep (fun listed a w inv hup=>?_) l.toArray.size _ _ _ ?_ ⟨by simp,rfl,rfl,fun _ _=>rfl,(fun j d h _=>by rw[hl0]at h;cases h),(fun j oj _ h=>by rw[hl0]at h;cases h),by rw[hl0];rfl⟩
 ·have ha:a=putL (l.map (·.dst)) (fun d=>a.eval (.tmp d)) a0:=by
   have ht:a.tmps=(putL (l.map (·.dst)) (fun d=>a.eval (.tmp d)) a0).tmps:=by
    apply Array.ext_getElem?
    intro t
    by_cases ht:some t∈l.map (·.dst)
    ·obtain⟨o,ho,hd⟩:=List.mem_map.1 ht
     simp only[tabB,Bool.and_eq_true,decide_eq_true_eq]at hB
     have h1:=List.all_eq_true.1 hB.1.2 o ho
     simp only[hd,decide_eq_true_eq]at h1
     rw[putL_in _ _ _ t (.inl ht) h1]
     have h2:t<a.tmps.size:=by rw[inv.tmps];exact h1
     simp[Act.eval,h2]
    ·rw[putL_out _ _ _ t ht]
     refine inv.off t (fun j d _ hd e=>ht ?_)
     cases hj:l[j]? with
     |none=>rw[hj]at hd;cases hd
     |some y=>
      rw[hj]at hd
      exact List.mem_map.2 ⟨y,List.mem_of_getElem? hj,by rw[←e];simpa using hd⟩
   have hdf:a.defers=(putL (l.map (·.dst)) (fun d=>a.eval (.tmp d)) a0).defers:=by rw[putL_defers];exact inv.defers
   cases a with
   |mk t df=>
    generalize hp:putL (l.map (·.dst)) (fun d=>(Act.mk t df).eval (.tmp d)) a0=p at*
    cases p with
    |mk t2 df2=>simp only at ht hdf;rw[ht,hdf]
  have hw:=inv.world
  rw[if_pos (hup s hsl)]at hw
  rw[ha,hw]
  refine hend _ fun j d hd=>?_
  refine inv.told j d (hup j ?_) hd
  cases hj:l[j]? with
  |none=>rw[hj]at hd;cases hd
  |some _=>exact(List.getElem?_eq_some_iff.1 hj).1
 ·rw[List.filter_eq_self.2 (fun i _=>by rw[hl0];rfl)];simp
theorem tw_val{P:Program}{l:List Oper}{o:Oper}{a:Act}{w W1:World}{s k:Nat}{T:Value→Prop}{K:Act→World→Prop}{Q:Exit→Act→World→Prop}{E:Prop}(hks:k≠s)(hw:Region.wanted o (yielded l.toArray a.tmps)=true)(v:Value)
  (hr:(execOp a.eval o).run P w=.ok (.value v) w) (hK:∀v,T v→K (a.put o.dst v) (if k=s then W1 else w)) (hT:T v):if Region.wanted o (yielded l.toArray a.tmps)=true then Oper.wp P o a w K Q else E:=by
 rw[if_pos hw]
 unfold Oper.wp
 rw[hr]
 have:=hK v hT
 rw[if_neg hks]at this
 exact this
theorem tw_store{P:Program}{l:List Oper}{o:Oper}{a:Act}{w W1:World}{s:Nat}{T:Value→Prop}{K:Act→World→Prop}{Q:Exit→Act→World→Prop}{E:Prop}(hw:Region.wanted o (yielded l.toArray a.tmps)=true)(_hd:o.dst=none)
  (hr:(execOp a.eval o).run P w=.ok .skip W1) (hK:∀v,T v→K (a.put o.dst v) (if s=s then W1 else w)) (hT:T undef):if Region.wanted o (yielded l.toArray a.tmps)=true then Oper.wp P o a w K Q else E:=by
 rw[if_pos hw]
 unfold Oper.wp
 rw[hr]
 have:=hK undef hT
 rw[if_pos rfl]at this
 exact this
theorem TwAll.nil{P:Program}{l:List Oper}{T:Nat→Value→Prop}{a0:Act}{W0 W1:World}{s k:Nat}:TwAll P l T a0 W0 W1 s k []:=trivial
theorem TwAll.cons{P:Program}{l:List Oper}{T:Nat→Value→Prop}{a0:Act}{W0 W1:World}{s k:Nat}{o:Oper}{r:List Oper}(h:TwStep P l T a0 W0 W1 s k o)(hr:TwAll P l T a0 W0 W1 s (k+1) r):TwAll P l T a0 W0 W1 s k (o::r):=⟨h,hr⟩
def twT(L:List (Value→Prop))(k:Nat):Value→Prop:=(L[k]?).getD fun _=>True
end Go.Proofs.YtokpcpjnihinfaaGreat
