/-
  Words and walks.
-/
import Derived.OneCell
import Derived.Test.Ytgokdgcmkcmjeaapaaa
import Derived.Test.Ytgokdgcmkcmjeaapaab
import Derived.Test.Ytgokdgcmkcmjeaapaac
import Derived.Test.Ytgokdgcmkcmjeaapaad
import Derived.Test.Ytgokdgcmkcmjeaapaae
import Derived.Test.Ytgokdgcmkcmjeaapaaf
import Derived.Test.Ytgokdgcmkcmjeaapaai
import Derived.Test.Ytgokdgcmkcmjeaapaan
set_option maxRecDepth 100000
set_option maxHeartbeats 16000000
namespace Go.Proofs.Ytgokdgcmkcmjeaa
open Go.RowKit
theorem built_tok0:Try.prog.built 57 []=some #[.int .u8 0,.int .i64 0,.int .i64 0]:=by kernel_rfl
theorem built_tok1p(x:Nat):Try.prog.built 57 [(0,.int .u8 (x:Int))]=some #[.int .u8 (x:Int),.int .i64 0,.int .i64 0]:=by kernel_rfl
theorem built_tok2(d n:Int):Try.prog.built 57 [(1,.int .i64 d),(2,.int .i64 n)]=some #[.int .u8 0,.int .i64 d,.int .i64 n]:=by kernel_rfl
theorem oneTok(x:Nat)(d n:Int):(#[.int .u8 (x:Int),.int .i64 d,.int .i64 n]:Array Value).all (·.oneCell')=true:=by simp[Value.oneCell']
end Go.Proofs.Ytgokdgcmkcmjeaa
namespace Go.Proofs.Ytgokdgcmkcmjeaa
open Go.RowKit
def blkT(kd:Nat)(last:Bool)(left:Nat)(c1 c2:Nat→Int)(v1 v2:Value):Array Value:=(.int .u8 (kd:Int)::.bool last::.int .i64 (left:Int)::(trL c1 v1++trL c2 v2)).toArray
theorem infoBlkT:(Try.prog.info? 35).map (fun i=>(i.zero,i.size))=some (some (.agg (blkT 0 false 0 (fun _=>0) (fun _=>0) (.slice none 0 0) (.slice none 0 0))),37):=by kernel_rfl
theorem blkT_size(k:Nat)(b:Bool)(l:Nat)(c1 c2:Nat→Int)(v1 v2:Value):(blkT k b l c1 c2 v1 v2).size=37:=by simp[blkT,trL,cntV]
theorem szBlkT(cs:Array Value)(h:cs.size=37):(Try.prog.info? 35).map (·.size)=some cs.size:=by rw[h];exact(zero_of_info infoBlkT).2
def setL:Nat→List Value→Array Value→Array Value
 |_,[],cs=>cs
 |o,v::r,cs=>setL (o+1) r (cs.setIfInBounds o v)
theorem BoxC.setCells{g:Nat}{t:TypeId}:∀(vs:List Value) (o:Nat) (w:World) (cs:Array Value),BoxC w g cs t→BoxC (w.setCells g o vs) g (setL o vs cs) t
 |[],_,_,_,h=>h
 |v::r,o,_,_,h=>BoxC.setCells r (o+1) _ _ (h.set o v)
theorem set_longs(k:Nat)(b:Bool)(l:Nat)(c1 c2 d:Nat→Int)(v1 v2 u:Value):setL 3 (trL d u) (blkT k b l c1 c2 v1 v2)=blkT k b l d c2 u v2:=by kernel_rfl
theorem set_fars(k:Nat)(b:Bool)(l:Nat)(c1 c2 d:Nat→Int)(v1 v2 u:Value):setL 20 (trL d u) (blkT k b l c1 c2 v1 v2)=blkT k b l c1 d v1 u:=by kernel_rfl
theorem there_box{w:World}{g:Nat}{cs:Array Value}{t:TypeId}(h:BoxC w g cs t)(o n:Nat)(hn:o+n≤cs.size):w.there g o n:=fun j hj=>by
 refine⟨?_,h.free⟩
 rw[h.cell,Array.getElem?_eq_getElem (by omega)];rfl
theorem below_setCells{B:Nat}{a:World}{g:Nat}(hg:B≤g):∀(vs:List Value) (o:Nat) (w:World),Below B a w→Below B a (w.setCells g o vs)
 |[],_,_,h=>h
 |v::r,o,_,h=>below_setCells hg r (o+1) _ (h.setCell hg v)
theorem setCells_other{g i:Nat}(hi:i≠g):∀(vs:List Value) (o:Nat) (w:World),(w.setCells g o vs).heap[i]?=w.heap[i]?
 |[],_,_=>rfl
 |v::r,o,w=>(setCells_other hi r (o+1) (w.setCell ⟨g,o,none⟩ v)).trans (Below.heap_setCell w ⟨g,o,none⟩ v i hi)
theorem blkT_one(k:Nat)(b:Bool)(l:Nat)(c1 c2:Nat→Int)(v1 v2:Value)(h1:v1.oneCell'=true)(h2:v2.oneCell'=true):(blkT k b l c1 c2 v1 v2).all (·.oneCell')=true:=by
 have ht:∀(c:Nat→Int) (v:Value),v.oneCell'=true→∀x∈trL c v,x.oneCell'=true:=fun c v h x hx=>by
  rcases List.mem_append.1 hx with hx|hx
  ·obtain⟨i,_,rfl⟩:=List.mem_map.1 hx;rfl
  ·rw[List.mem_singleton.1 hx];exact h
 refine all_oneCell_toArray fun x hx=>?_
 rcases List.mem_cons.1 hx with rfl|hx
 ·rfl
 rcases List.mem_cons.1 hx with rfl|hx
 ·rfl
 rcases List.mem_cons.1 hx with rfl|hx
 ·rfl
 rcases List.mem_append.1 hx with hx|hx
 ·exact ht _ _ h1 x hx
 ·exact ht _ _ h2 x hx
end Go.Proofs.Ytgokdgcmkcmjeaa
namespace Go.Proofs.Ytgokdgcmkcmjeaa
open Go.RowKit
theorem extB_is(far:Bool)(y:Nat):(if far then fbV (y:Int)else lbV (y:Int))=((extB far y:Nat):Int)∧extB far y≤13:=by
 unfold extB
 cases far
 ·have:=(lb_is (y:Int)).2;simp only[Bool.false_eq_true,if_false];omega
 ·have:=(fb_is (y:Int)).2;simp only[if_true];omega
theorem pnuml_any(w:World)(p:Nat)(A:Option Addr)(l c:Nat)(g:Nat→Nat)(s:Rz)(h:Rdr w p A l c s)(S:Nat→Prop)(hS:S p)(hg:RdF S w A l g)(hl:l≤1000000)(hs:s.1≤8*l)(y:Nat):
  Calls Try.prog 48 #[.pointer (some ⟨p,0,none⟩),.int .i64 (y:Int),.func (.func 49) #[] #[],.func (.func 50) #[] #[]] w fun e w'=>e=.returned (.int .i64 (nuV false y g l s))∧Rdr w' p A l c (nuS false y g l s)∧Fr (At p) w w':=by
 have HSP:Hid (∀j,At p j→S j):=Lib.hid fun j (e:j=p)=>e▸hS
 have HE:=Lib.hid fun V=>lbit9_any V (y:Int)
 have HO:=Lib.hid fun V x=>lof9_any V (y:Int) x
 have e1:=(extB_is false y).1
 have h13:=(extB_is false y).2
 simp only[Bool.false_eq_true,if_false]at e1
 rw[e1]at HE
 have d1:extE false y=lbE (y:Int):=rfl
 rw[←d1]at HE
 have d2:∀x:Nat,ofE false y x=loE (y:Int) (x:Int):=fun _=>rfl
 have d3:∀x:Nat,ofV false y x=loV (y:Int) (x:Int):=fun _=>rfl
 have n1:nuV false y g l s=ofV false y (tkV g l (extB false y) (nu1 false y s)):=rfl
 have n2:nuS false y g l s=keepS (tkS l (extB false y) (nu1 false y s)) (ofE false y (tkV g l (extB false y) (nu1 false y s))):=rfl
 have n3:nu1 false y s=keepS s (extE false y):=rfl
 obtain⟨s1,hs1⟩:∃x,x=nu1 false y s:=⟨_,rfl⟩
 rw[←hs1]at n1 n2 n3
 have hin:s1.1≤8*l:=by rw[n3,keepS_in];exact hs
 obtain⟨b,hb⟩:∃x,x=extB false y:=⟨_,rfl⟩
 obtain⟨E,hE⟩:∃x,x=extE false y:=⟨_,rfl⟩
 rw[←hb]at HE h13 n1 n2
 rw[←hE]at HE n3
 have hV:tkV g l b s1=tkV g l b s1:=rfl
 obtain⟨x,hx⟩:∃x,x=tkV g l b s1:=⟨_,rfl⟩
 rw[←hx]at n1 n2
 have HOx:=Lib.hid fun V=>HO.out V (x:Int)
 rw[←d2,←d3]at HOx
 obtain⟨v,hv⟩:∃v,v=ofV false y x:=⟨_,rfl⟩
 obtain⟨q,hq⟩:∃v,v=ofE false y x:=⟨_,rfl⟩
 rw[←hv,←hq]at HOx
 rw[←hv]at n1
 rw[←hq]at n2
 rw[n1,n2]
 have HR:=Lib.hid h;have HG:=Lib.hid hg;have HX:=Lib.hid hx;have HN3:=Lib.hid n3
 clear h hg hx n3 n1 n2 hv hq hE hb hs1 hV d1 d2 d3 e1 HO hS hs
 go_enter Try.func48,Try.ntmps48
 go_wp2_with fail
 refine(HE.out w).mono ?_
 rintro e w1 ⟨rfl,hb1⟩
 have HR1:=Lib.hid (BoxC.below HR.out hb1 HR.out.lt:Rdr w1 p A l c s);have HF1:=Lib.hid (Fr.of (S:=At p) hb1);have HG1:=Lib.hid (HG.out.fr (Fr.of hb1))
 have HKP:=Lib.hid (pkeep_any w1 p A l c s HR1.out E)
 rw[←HN3.out]at HKP
 clear hb1 HE HR HG
 go_wp2_with fail
 refine HKP.out.mono ?_
 rintro e w2 ⟨rfl,r2,f2⟩
 have HR2:=Lib.hid r2;have HF2:=Lib.hid (HF1.out.trans f2);have HG2:=Lib.hid (HG1.out.fr (f2.mono HSP.out))
 have HT:=Lib.hid (ptake_any w2 p A l c g s1 HR2.out HG2.out.1 hl hin b (by omega))
 rw[←HX.out]at HT
 clear r2 f2 HKP HR1 HF1 HG1
 go_wp2_with fail
 refine HT.out.mono ?_
 rintro e w3 ⟨rfl,r3,f3⟩
 have HR3:=Lib.hid r3;have HF3:=Lib.hid (HF2.out.trans f3)
 clear r3 f3 HT HR2 HF2 HG2
 go_wp2_with fail
 refine(HOx.out w3).mono ?_
 rintro e w4 ⟨rfl,hb4⟩
 have HR4:=Lib.hid (BoxC.below HR3.out hb4 HR3.out.lt:Rdr w4 p A l c (tkS l b s1));have HF4:=Lib.hid (HF3.out.on hb4)
 have HKQ:=Lib.hid (pkeep_any w4 p A l c _ HR4.out q)
 clear hb4 HOx HR3 HF3
 go_wp2_with fail
 refine HKQ.out.mono ?_
 rintro e w5 ⟨rfl,r5,f5⟩
 have HR5:=Lib.hid r5;have HF5:=Lib.hid (HF4.out.trans f5)
 clear r5 f5 HKQ
 go_wp2
 go_ret
 exact⟨rfl,HR5.out,HF5.out⟩
theorem pnumf_any(w:World)(p:Nat)(A:Option Addr)(l c:Nat)(g:Nat→Nat)(s:Rz)(h:Rdr w p A l c s)(S:Nat→Prop)(hS:S p)(hg:RdF S w A l g)(hl:l≤1000000)(hs:s.1≤8*l)(y:Nat):
  Calls Try.prog 48 #[.pointer (some ⟨p,0,none⟩),.int .i64 (y:Int),.func (.func 51) #[] #[],.func (.func 52) #[] #[]] w fun e w'=>e=.returned (.int .i64 (nuV true y g l s))∧Rdr w' p A l c (nuS true y g l s)∧Fr (At p) w w':=by
 have HSP:Hid (∀j,At p j→S j):=Lib.hid fun j (e:j=p)=>e▸hS
 have HE:=Lib.hid fun V=>fbit9_any V (y:Int)
 have HO:=Lib.hid fun V x=>fof9_any V (y:Int) x
 have e1:=(extB_is true y).1
 have h13:=(extB_is true y).2
 simp only[if_true]at e1
 rw[e1]at HE
 have d1:extE true y=fbE (y:Int):=rfl
 rw[←d1]at HE
 have d2:∀x:Nat,ofE true y x=foE (y:Int) (x:Int):=fun _=>rfl
 have d3:∀x:Nat,ofV true y x=foV (y:Int) (x:Int):=fun _=>rfl
 have n1:nuV true y g l s=ofV true y (tkV g l (extB true y) (nu1 true y s)):=rfl
 have n2:nuS true y g l s=keepS (tkS l (extB true y) (nu1 true y s)) (ofE true y (tkV g l (extB true y) (nu1 true y s))):=rfl
 have n3:nu1 true y s=keepS s (extE true y):=rfl
 obtain⟨s1,hs1⟩:∃x,x=nu1 true y s:=⟨_,rfl⟩
 rw[←hs1]at n1 n2 n3
 have hin:s1.1≤8*l:=by rw[n3,keepS_in];exact hs
 obtain⟨b,hb⟩:∃x,x=extB true y:=⟨_,rfl⟩
 obtain⟨E,hE⟩:∃x,x=extE true y:=⟨_,rfl⟩
 rw[←hb]at HE h13 n1 n2
 rw[←hE]at HE n3
 have hV:tkV g l b s1=tkV g l b s1:=rfl
 obtain⟨x,hx⟩:∃x,x=tkV g l b s1:=⟨_,rfl⟩
 rw[←hx]at n1 n2
 have HOx:=Lib.hid fun V=>HO.out V (x:Int)
 rw[←d2,←d3]at HOx
 obtain⟨v,hv⟩:∃v,v=ofV true y x:=⟨_,rfl⟩
 obtain⟨q,hq⟩:∃v,v=ofE true y x:=⟨_,rfl⟩
 rw[←hv,←hq]at HOx
 rw[←hv]at n1
 rw[←hq]at n2
 rw[n1,n2]
 have HR:=Lib.hid h;have HG:=Lib.hid hg;have HX:=Lib.hid hx;have HN3:=Lib.hid n3
 clear h hg hx n3 n1 n2 hv hq hE hb hs1 hV d1 d2 d3 e1 HO hS hs
 go_enter Try.func48,Try.ntmps48
 go_wp2_with fail
 refine(HE.out w).mono ?_
 rintro e w1 ⟨rfl,hb1⟩
 have HR1:=Lib.hid (BoxC.below HR.out hb1 HR.out.lt:Rdr w1 p A l c s);have HF1:=Lib.hid (Fr.of (S:=At p) hb1);have HG1:=Lib.hid (HG.out.fr (Fr.of hb1))
 have HKP:=Lib.hid (pkeep_any w1 p A l c s HR1.out E)
 rw[←HN3.out]at HKP
 clear hb1 HE HR HG
 go_wp2_with fail
 refine HKP.out.mono ?_
 rintro e w2 ⟨rfl,r2,f2⟩
 have HR2:=Lib.hid r2;have HF2:=Lib.hid (HF1.out.trans f2);have HG2:=Lib.hid (HG1.out.fr (f2.mono HSP.out))
 have HT:=Lib.hid (ptake_any w2 p A l c g s1 HR2.out HG2.out.1 hl hin b (by omega))
 rw[←HX.out]at HT
 clear r2 f2 HKP HR1 HF1 HG1
 go_wp2_with fail
 refine HT.out.mono ?_
 rintro e w3 ⟨rfl,r3,f3⟩
 have HR3:=Lib.hid r3;have HF3:=Lib.hid (HF2.out.trans f3)
 clear r3 f3 HT HR2 HF2 HG2
 go_wp2_with fail
 refine(HOx.out w3).mono ?_
 rintro e w4 ⟨rfl,hb4⟩
 have HR4:=Lib.hid (BoxC.below HR3.out hb4 HR3.out.lt:Rdr w4 p A l c (tkS l b s1));have HF4:=Lib.hid (HF3.out.on hb4)
 have HKQ:=Lib.hid (pkeep_any w4 p A l c _ HR4.out q)
 clear hb4 HOx HR3 HF3
 go_wp2_with fail
 refine HKQ.out.mono ?_
 rintro e w5 ⟨rfl,r5,f5⟩
 have HR5:=Lib.hid r5;have HF5:=Lib.hid (HF4.out.trans f5)
 clear r5 f5 HKQ
 go_wp2
 go_ret
 exact⟨rfl,HR5.out,HF5.out⟩
end Go.Proofs.Ytgokdgcmkcmjeaa
