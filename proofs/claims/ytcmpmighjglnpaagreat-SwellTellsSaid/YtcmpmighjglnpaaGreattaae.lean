/-
  Words and walks.
-/
import Derived.Deep.MidRow
import Derived.Test.YtcmpmighjglnpaaGreattaad
set_option maxRecDepth 100000
set_option maxHeartbeats 16000000
namespace Go.Proofs.YtcmpmighjglnpaaGreat
open Go.RowKit
def cntV(c:Nat→Int):List Value:=(List.range 16).map fun i=>.int .i64 (c i)
def trL(c:Nat→Int)(v:Value):List Value:=cntV c++[v]
def trA(c:Nat→Int)(v:Value):Array Value:=(trL c v).toArray
theorem cntV_length(c:Nat→Int):(cntV c).length=16:=by simp[cntV]
theorem cntV_get(c:Nat→Int)(i:Nat):(cntV c)[i]?=if i<16 then some (.int .i64 (c i))else none:=by
 unfold cntV
 by_cases h:i<16<;>simp[h]
theorem trA_size(c:Nat→Int)(v:Value):(trA c v).size=17:=by simp[trA,trL,cntV]
theorem trA_get(c:Nat→Int)(v:Value)(i:Nat):(trA c v)[i]?=if i<16 then some (.int .i64 (c i))else if i=16 then some v else none:=by
 have e:(trA c v)[i]?=(trL c v)[i]?:=by simp[trA]
 rw[e]
 unfold trL
 rw[List.getElem?_append,cntV_length,cntV_get]
 by_cases h:i<16
 ·rw[if_pos h,if_pos h,if_pos h]
 ·rw[if_neg h,if_neg h]
  by_cases h2:i=16
  ·subst h2;rfl
  ·rw[if_neg h2,List.getElem?_eq_none (by simp;omega)]
theorem trA_ext{c d:Nat→Int}(v:Value)(h:∀i,i<16→c i=d i):trA c v=trA d v:=by
 apply Array.ext_getElem?
 intro i
 rw[trA_get,trA_get]
 split
 ·rename_i hi;rw[h i hi]
 ·rfl
theorem infoTree:(Tryz.prog.info? 26).map (fun i=>(i.zero,i.size))=some (some (.agg (trA (fun _=>0) (.slice none 0 0))),17):=by kernel_rfl
theorem szTree:(Tryz.prog.info? 26).map (·.size)=some 17:=(zero_of_info infoTree).2
theorem szCnt:(Tryz.prog.info? 23).map (·.size)=some 16:=by kernel_rfl
theorem trA_one(c:Nat→Int)(v:Value)(hv:v.oneCell'=true):(trA c v).all (·.oneCell')=true:=
 all_oneCell_toArray fun u hu=>by
  unfold trL cntV at hu
  rcases List.mem_append.1 hu with h|h
  ·obtain⟨i,_,rfl⟩:=List.mem_map.1 h;rfl
  ·rw[List.mem_singleton.1 h];exact hv
def TreA(w:World)(b:Nat)(c:Nat→Int)(v:Value):Prop:=w.heap[b]?=some (.cells (trA c v) 26 (0,0))
theorem TreA.lt{w:World}{b:Nat}{c:Nat→Int}{v:Value}(h:TreA w b c v):b<w.heap.size:=(Array.getElem?_eq_some_iff.1 h).1
theorem TreA.cnt{w:World}{b:Nat}{c:Nat→Int}{v:Value}(h:TreA w b c v){i:Nat}(hi:i<16):w.cell? ⟨b,i,none⟩=some (.int .i64 (c i)):=by
 rw[cell_of_row w b i _ _ (0,0) h,trA_get,if_pos hi]
theorem TreA.syms{w:World}{b:Nat}{c:Nat→Int}{v:Value}(h:TreA w b c v):w.cell? ⟨b,16,none⟩=some v:=by
 rw[cell_of_row w b 16 _ _ (0,0) h,trA_get,if_neg (by omega),if_pos rfl]
theorem TreA.frozen{w:World}{b:Nat}{c:Nat→Int}{v:Value}(h:TreA w b c v)(j:Nat):w.frozen? ⟨b,j,none⟩=false:=frozen_of_row w b j _ _ h
theorem TreA.below{w w':World}{b B:Nat}{c:Nat→Int}{v:Value}(h:TreA w b c v)(hb:Below B w w')(hg:b<B):TreA w' b c v:=(hb.block b hg).trans h
theorem TreA.alloc{w:World}{b:Nat}{c:Nat→Int}{v:Value}(h:TreA w b c v)(o:Obj):TreA (w.alloc o) b c v:=(Below.heap_alloc w o b h.lt).trans h
theorem TreA.other{w:World}{b:Nat}{c:Nat→Int}{v:Value}(h:TreA w b c v){p:Addr}(hp:b≠p.block)(u:Value):TreA (w.setCell p u) b c v:=(Below.heap_setCell w p u b hp).trans h
theorem TreA.range{w:World}{b:Nat}{c:Nat→Int}{v:Value}(h:TreA w b c v):w.rangeAt b 0 (cntV c):=fun j u hj=>by
 rw[cntV_get]at hj
 split at hj
 ·rename_i hi;rw[Nat.zero_add,h.cnt hi];exact hj
 ·cases hj
theorem TreA.setCnt{w:World}{b:Nat}{c:Nat→Int}{v:Value}(h:TreA w b c v){i:Nat}(hi:i<16)(x:Int):TreA (w.setCell ⟨b,i,none⟩ (.int .i64 x)) b (fun m=>if m=i then x else c m) v:=by
 unfold TreA
 rw[heap_setCell_same w b i _ _ _ h]
 congr 2
 apply Array.ext_getElem?
 intro j
 rw[Array.getElem?_setIfInBounds,trA_get,trA_get,trA_size]
 by_cases e:i=j
 ·subst e;rw[if_pos rfl,if_pos (by omega),if_pos hi,if_pos rfl]
 ·rw[if_neg e]
  by_cases h2:j<16
  ·rw[if_pos h2,if_pos h2,if_neg (fun g=>e g.symm)]
  ·rw[if_neg h2,if_neg h2]
theorem TreA.setSyms{w:World}{b:Nat}{c:Nat→Int}{v:Value}(h:TreA w b c v)(u:Value):TreA (w.setCell ⟨b,16,none⟩ u) b c u:=by
 unfold TreA
 rw[heap_setCell_same w b 16 _ _ _ h]
 congr 2
def RdS(w:World)(B:Nat)(v:Value)(s:List Int):Prop:=∃A cap,v=.slice A s.length cap∧RdI w B A s∧(A=none→cap=0)∧s.length≤cap∧cap≤maxLen
theorem RdS.below{w w':World}{B B':Nat}{v:Value}{s:List Int}(h:RdS w B v s)(hb:Below B' w w')(hB:B≤B'):RdS w' B v s:=by
 obtain⟨A,cap,h1,h2,h3⟩:=h;exact⟨A,cap,h1,h2.below hb hB,h3⟩
theorem RdS.more{w:World}{B B':Nat}{v:Value}{s:List Int}(h:RdS w B v s)(hB:B≤B'):RdS w B' v s:=by
 obtain⟨A,cap,h1,h2,h3⟩:=h;exact⟨A,cap,h1,h2.more hB,h3⟩
theorem RdS.one{w:World}{B:Nat}{v:Value}{s:List Int}(h:RdS w B v s):v.oneCell'=true:=by
 obtain⟨A,cap,rfl,_⟩:=h;rfl
def OwnS(w:World)(base:Nat)(v:Value)(s:List Int):Prop:=w.ownsRow base 3 1 v s.length (intsL s)
theorem OwnS.rd{w:World}{base:Nat}{v:Value}{s:List Int}(h:OwnS w base v s):RdS w w.heap.size v s:=by
 unfold OwnS at h
 have hv:∃A c,v=.slice A s.length c:=by
  rcases h.2 with⟨rfl,h0⟩|⟨g,cap,cur,rfl,_⟩
  ·exact⟨none,0,by rw[h0]⟩
  ·exact⟨_,_,rfl⟩
 obtain⟨A,c,rfl⟩:=hv
 exact⟨A,c,rfl,(RdI.of_own h).2,(fun g=>(own_cap h).2.2 g|>.2),(own_cap h).1,(own_cap h).2.1⟩
theorem OwnS.lower{w:World}{b b':Nat}{v:Value}{s:List Int}(h:OwnS w b v s)(hb:b'≤b):OwnS w b' v s:=ownsRow_lower h hb
theorem OwnS.one{w:World}{b:Nat}{v:Value}{s:List Int}(h:OwnS w b v s):v.oneCell'=true:=h.rd.one
def sameC(c d:Nat→Int):Bool:=(List.range 16).all fun m=>c m==d m
theorem sameC_iff(c d:Nat→Int):sameC c d=true↔∀m,m<16→c m=d m:=by simp[sameC]
def sameT(c d:Nat→Int)(s t:List Int):Bool:=sameC c d&&decide (s=t)
end Go.Proofs.YtcmpmighjglnpaaGreat
