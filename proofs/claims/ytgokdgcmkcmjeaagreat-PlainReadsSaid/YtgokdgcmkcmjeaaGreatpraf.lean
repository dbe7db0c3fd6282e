/-
  Words and walks.
-/
import Derived.Deep.MidRow
import Derived.Test.YtgokdgcmkcmjeaaGreatprae
set_option maxRecDepth 100000
set_option maxHeartbeats 16000000
namespace Go.Proofs.YtgokdgcmkcmjeaaGreat
open Go.RowKit
def cntV(c:Nat→Int):List Value:=(List.range 16).map fun i=>.int .i64 (c i)
def trL(c:Nat→Int)(v:Value):List Value:=cntV c++[v]
def trA(c:Nat→Int)(v:Value):Array Value:=(trL c v).toArray
theorem cntV_length(c:Nat→Int):(cntV c).length=16:=by simp[cntV]
theorem cntV_get(c:Nat→Int)(i:Nat):(cntV c)[i]?=if i<16 then some (.int .i64 (c i))else none:=by
 unfold cntV
 by_cases h:i<16<;>simp[h]
theorem trA_size(c:Nat→Int)(v:Value):(trA c v).size=17:=by simp[trA,trL,cntV]
theorem trA_get(c:Nat→Int)(v:Value)(i:Nat):(trA c v)[i]?=if i<16 then some (.int .i64 (c i))else if i=16 then some v else none:=by
 have e:(trA c v)[i]?=(trL c v)[i]?:=by simp[trA]
 rw[e]
 unfold trL
 rw[List.getElem?_append,cntV_length,cntV_get]
 by_cases h:i<16
 ·rw[if_pos h,if_pos h,if_pos h]
 ·rw[if_neg h,if_neg h]
  by_cases h2:i=16
  ·subst h2;rfl
  ·rw[if_neg h2,List.getElem?_eq_none (by simp;omega)]
theorem trA_ext{c d:Nat→Int}(v:Value)(h:∀i,i<16→c i=d i):trA c v=trA d v:=by
 apply Array.ext_getElem?
 intro i
 rw[trA_get,trA_get]
 split
 ·rename_i hi;rw[h i hi]
 ·rfl
theorem infoTree:(Tryz.prog.info? 26).map (fun i=>(i.zero,i.size))=some (some (.agg (trA (fun _=>0) (.slice none 0 0))),17):=by kernel_rfl
theorem szTree:(Tryz.prog.info? 26).map (·.size)=some 17:=(zero_of_info infoTree).2
theorem szCnt:(Tryz.prog.info? 23).map (·.size)=some 16:=by kernel_rfl
theorem trA_one(c:Nat→Int)(v:Value)(hv:v.oneCell'=true):(trA c v).all (·.oneCell')=true:=
 all_oneCell_toArray fun u hu=>by
  unfold trL cntV at hu
  rcases List.mem_append.1 hu with h|h
  ·obtain⟨i,_,rfl⟩:=List.mem_map.1 h;rfl
  ·rw[List.mem_singleton.1 h];exact hv
def TreA(w:World)(b:Nat)(c:Nat→Int)(v:Value):Prop:=w.heap[b]?=some (.cells (trA c v) 26 (0,0))
theorem TreA.lt{w:World}{b:Nat}{c:Nat→Int}{v:Value}(h:TreA w b c v):b<w.heap.size:=(Array.getElem?_eq_some_iff.1 h).1
theorem TreA.cnt{w:World}{b:Nat}{c:Nat→Int}{v:Value}(h:TreA w b c v){i:Nat}(hi:i<16):w.cell? ⟨b,i,none⟩=some (.int .i64 (c i)):=by
 rw[cell_of_row w b i _ _ (0,0) h,trA_get,if_pos hi]
theorem TreA.syms{w:World}{b:Nat}{c:Nat→Int}{v:Value}(h:TreA w b c v):w.cell? ⟨b,16,none⟩=some v:=by
 rw[cell_of_row w b 16 _ _ (0,0) h,trA_get,if_neg (by omega),if_pos rfl]
theorem TreA.frozen{w:World}{b:Nat}{c:Nat→Int}{v:Value}(h:TreA w b c v)(j:Nat):w.frozen? ⟨b,j,none⟩=false:=frozen_of_row w b j _ _ h
theorem TreA.below{w w':World}{b B:Nat}{c:Nat→Int}{v:Value}(h:TreA w b c v)(hb:Below B w w')(hg:b<B):TreA w' b c v:=(hb.block b hg).trans h
theorem TreA.alloc{w:World}{b:Nat}{c:Nat→Int}{v:Value}(h:TreA w b c v)(o:Obj):TreA (w.alloc o) b c v:=(Below.heap_alloc w o b h.lt).trans h
theorem TreA.other{w:World}{b:Nat}{c:Nat→Int}{v:Value}(h:TreA w b c v){p:Addr}(hp:b≠p.block)(u:Value):TreA (w.setCell p u) b c v:=(Below.heap_setCell w p u b hp).trans h
theorem TreA.range{w:World}{b:Nat}{c:Nat→Int}{v:Value}(h:TreA w b c v):w.rangeAt b 0 (cntV c):=fun j u hj=>by
 rw[cntV_get]at hj
 split at hj
 ·rename_i hi;rw[Nat.zero_add,h.cnt hi];exact hj
 ·cases hj
theorem TreA.setCnt{w:World}{b:Nat}{c:Nat→Int}{v:Value}(h:TreA w b c v){i:Nat}(hi:i<16)(x:Int):TreA (w.setCell ⟨b,i,none⟩ (.int .i64 x)) b (fun m=>if m=i then x else c m) v:=by
 unfold TreA
 rw[heap_setCell_same w b i _ _ _ h]
 congr 2
 apply Array.ext_getElem?
 intro j
 rw[Array.getElem?_setIfInBounds,trA_get,trA_get,trA_size]
 by_cases e:i=j
 ·subst e;rw[if_pos rfl,if_pos (by omega),if_pos hi,if_pos rfl]
 ·rw[if_neg e]
  by_cases h2:j<16
  ·rw[if_pos h2,if_pos h2,if_neg (fun g=>e g.symm)]
  ·rw[if_neg h2,if_neg h2]
theorem TreA.setSyms{w:World}{b:Nat}{c:Nat→Int}{v:Value}(h:TreA w b c v)(u:Value):TreA (w.setCell ⟨b,16,none⟩ u) b c u:=by
 unfold TreA
 rw[heap_setCell_same w b 16 _ _ _ h]
 congr 2
def RdS(w:World)(B:Nat)(v:Value)(s:List Int):Prop:=∃A cap,v=.slice A s.length cap∧RdI w B A s∧(A=none→cap=0)∧s.length≤cap∧cap≤maxLen
theorem RdS.below{w w':World}{B B':Nat}{v:Value}{s:List Int}(h:RdS w B v s)(hb:Below B' w w')(hB:B≤B'):RdS w' B v s:=by
 obtain⟨A,cap,h1,h2,h3⟩:=h;exact⟨A,cap,h1,h2.below hb hB,h3⟩
theorem RdS.more{w:World}{B B':Nat}{v:Value}{s:List Int}(h:RdS w B v s)(hB:B≤B'):RdS w B' v s:=by
 obtain⟨A,cap,h1,h2,h3⟩:=h;exact⟨A,cap,h1,h2.more hB,h3⟩
theorem RdS.one{w:World}{B:Nat}{v:Value}{s:List Int}(h:RdS w B v s):v.oneCell'=true:=by
 obtain⟨A,cap,rfl,_⟩:=h;rfl
def OwnS(w:World)(base:Nat)(v:Value)(s:List Int):Prop:=w.ownsRow base 3 1 v s.length (intsL s)
theorem OwnS.rd{w:World}{base:Nat}{v:Value}{s:List Int}(h:OwnS w base v s):RdS w w.heap.size v s:=by
 unfold OwnS at h
 have hv:∃A c,v=.slice A s.length c:=by
  rcases h.2 with⟨rfl,h0⟩|⟨g,cap,cur,rfl,_⟩
  ·exact⟨none,0,by rw[h0]⟩
  ·exact⟨_,_,rfl⟩
 obtain⟨A,c,rfl⟩:=hv
 exact⟨A,c,rfl,(RdI.of_own h).2,(fun g=>(own_cap h).2.2 g|>.2),(own_cap h).1,(own_cap h).2.1⟩
theorem OwnS.one{w:World}{b:Nat}{v:Value}{s:List Int}(h:OwnS w b v s):v.oneCell'=true:=h.rd.one
def sameC(c d:Nat→Int):Bool:=(List.range 16).all fun m=>c m==d m
theorem sameC_iff(c d:Nat→Int):sameC c d=true↔∀m,m<16→c m=d m:=by simp[sameC]
def sameT(c d:Nat→Int)(s t:List Int):Bool:=sameC c d&&decide (s=t)
theorem run_neq_cnt(w:World)(c d:Nat→Int):(binOp .neq 23 (.agg (cntV c).toArray) (.agg (cntV d).toArray)).run Tryz.prog w=.ok (.bool (!sameC c d)) w:=by
 obtain⟨i,hi⟩:=Option.isSome_iff_exists.1 (show(Tryz.prog.info? 3).isSome=true by kernel_rfl)
 have hce:Tryz.prog.cellsOf 3=1:=by kernel_rfl
 have h:=run_equalIn_array (P:=Tryz.prog) w 9999 (cntV c).toArray (cntV d).toArray Tryz.underlying23 hi
 rw[hce,run_eqItems_nums w 9998 Tryz.underlying3 (cntV c).toArray (cntV d).toArray c d (List.range 16) (fun i hi=>by
  have:=List.mem_range.1 hi
  simp[cntV_get,this])]at h
 have e:(binOp .neq 23 (.agg (cntV c).toArray) (.agg (cntV d).toArray)).run Tryz.prog w=((Op.equal 23 (.agg (cntV c).toArray) (.agg (cntV d).toArray)).run Tryz.prog w).andThen fun b w'=>.ok (.bool (!b)) w':=by
  unfold binOp
  simp
 rw[e]
 unfold Op.equal Op.maxDepth
 rw[h]
 have:(∀i∈List.range 16,c i=d i)↔sameC c d=true:=by
  rw[sameC_iff];exact⟨fun h m hm=>h m (List.mem_range.2 hm),fun h m hm=>h m (List.mem_range.1 hm)⟩
 simp only[Result.andThen_ok,this]
 cases sameC c d<;>rfl
theorem same5_any(w:World)(c d:Nat→Int)(u v:Value)(s t:List Int)(hu:RdS w w.heap.size u s)(hv:RdS w w.heap.size v t)(hs:s.length≤1000000000)(ht:t.length≤1000000000):
  Calls Tryz.prog 32 #[.agg (trA c u),.agg (trA d v)] w fun e w'=>e=.returned (.bool (sameT c d s t))∧Below w.heap.size w w':=by
 obtain⟨A,ca,rfl,hra,hna⟩:=hu
 obtain⟨B,cb,rfl,hrb,hnb⟩:=hv
 have HRA:=Lib.hid hra;have HRB:=Lib.hid hrb
 clear hra hrb hna hnb
 have hg:∀(W:World) (x y:Operand) (u v:Array Value),(eqGuard .neq 23 x y (.agg u) (.agg v)).run Tryz.prog W=.ok () W:=fun W x y u v=>by
  have h:Tryz.prog.eqGuardType Tryz.prog.depth 23=false:=by kernel_rfl
  unfold eqGuard
  simp[Sem.run_bind,h]
 have HG:=Lib.hid hg
 clear hg
 go_enter Tryz.func32,Tryz.ntmps32
 have ht1:TreA ((w.alloc (.cells (trA c (.slice A s.length ca)) 26)).alloc (.cells (trA d (.slice B t.length cb)) 26)) w.heap.size c (.slice A s.length ca):=heap_alloc2_old w _ _
 have ht2:TreA ((w.alloc (.cells (trA c (.slice A s.length ca)) 26)).alloc (.cells (trA d (.slice B t.length cb)) 26)) (w.heap.size+1) d (.slice B t.length cb):=heap_alloc2_new w _ _
 have HT1:=Lib.hid ht1;have HT2:=Lib.hid ht2
 have HB:=Lib.hid (((Below.refl w.heap.size w).alloc (Nat.le_refl _) (.cells (trA c (.slice A s.length ca)) 26)).alloc (by simp) (.cells (trA d (.slice B t.length cb)) 26))
 have k1:=ht1.syms
 have k2:=ht2.syms
 clear ht1 ht2
 obtain⟨n1,hn1⟩:∃n,n=s.length:=⟨_,rfl⟩
 obtain⟨n2,hn2⟩:∃n,n=t.length:=⟨_,rfl⟩
 rw[←hn1]at hs k1 k2 HT1 HT2 HB⊢
 rw[←hn2]at ht k1 k2 HT1 HT2 HB⊢
 have HN1:=Lib.hid hn1;have HN2:=Lib.hid hn2
 clear hn1 hn2
 cases hc:sameC c d
 ·have hr:sameT c d s t=false:=by unfold sameT;rw[hc];rfl
  rw[hr]
  have hne:=Lib.hid (show∀W:World,(binOp .neq 23 (.agg (cntV c).toArray) (.agg (cntV d).toArray)).run Tryz.prog W=.ok (.bool true) W from fun W=>by rw[run_neq_cnt,hc];rfl)
  clear hc hr
  go_wp2_with (first
   |(refine wpList_load_mid rfl _ _ rfl w.heap.size 0 rfl (cntV c) _ HT1.out.range Tryz.underlying23 rfl (by rw[cntV_length];exact szCnt) ?_)
   |(refine wpList_load_mid rfl _ _ rfl (w.heap.size+1) 0 rfl (cntV d) _ HT2.out.range Tryz.underlying23 rfl (by rw[cntV_length];exact szCnt) ?_)
   |(refine wpList_neq_on (by rfl) _ _ _ rfl _ _ _ rfl rfl (HG.out _ _ _ _ _) (hne.out _) ?_))
  go_ret
  exact⟨rfl,HB.out⟩
 ·have hr:sameT c d s t=decide (s=t):=by unfold sameT;rw[hc];rfl
  rw[hr]
  have hne:=Lib.hid (show∀W:World,(binOp .neq 23 (.agg (cntV c).toArray) (.agg (cntV d).toArray)).run Tryz.prog W=.ok (.bool false) W from fun W=>by rw[run_neq_cnt,hc];rfl)
  clear hc hr
  by_cases hl:n1=n2
  ·subst hl
   have hnn:((n1:Int) !=(n1:Int))=false:=by simp
   have hnn2:(n1 !=n1)=false:=by simp
   obtain⟨R,hR⟩:∃R,R=decide (s=t):=⟨_,rfl⟩
   rw[←hR]
   have HR:=Lib.hid hR
   clear hR
   go_wp2_with (first
    |(refine wpList_load_mid rfl _ _ rfl w.heap.size 0 rfl (cntV c) _ HT1.out.range Tryz.underlying23 rfl (by rw[cntV_length];exact szCnt) ?_)
    |(refine wpList_load_mid rfl _ _ rfl (w.heap.size+1) 0 rfl (cntV d) _ HT2.out.range Tryz.underlying23 rfl (by rw[cntV_length];exact szCnt) ?_)
    |(refine wpList_neq_on (by rfl) _ _ _ rfl _ _ _ rfl rfl (HG.out _ _ _ _ _) (hne.out _) ?_))
   go_loopw [5] (fun i wr=>∃k:Nat,k≤n1∧i=.int .i64 k∧TreA wr w.heap.size c (.slice A n1 ca)∧TreA wr (w.heap.size+1) d (.slice B n1 cb)∧Below w.heap.size w wr∧∀j,j<k→s.getD j 0=t.getD j 0) (fun i _=>n1-(intOf i).toNat)
   case atStart=>exact⟨0,Nat.zero_le _,rfl,HT1.out,HT2.out,HB.out,fun j hj=>absurd hj (by omega)⟩
   case round=>
    obtain⟨k,hk,rfl,h1,h2,hb,hall⟩:=hrel
    have k1:=h1.syms
    have k2:=h2.syms
    by_cases hlt:k<n1
    ·obtain⟨b1,o1,rfl,_,hc1⟩:=(HRA.out.below hb (Nat.le_refl _)).at (k:=k) (by rw[←HN1.out];exact hlt)
     obtain⟨b2,o2,rfl,_,hc2⟩:=(HRB.out.below hb (Nat.le_refl _)).at (k:=k) (by rw[←HN2.out];exact hlt)
     have e1:=hc1 k (by rw[←HN1.out];exact hlt)
     have e2:=hc2 k (by rw[←HN2.out];exact hlt)
     obtain⟨x,hx⟩:∃x,x=s.getD k 0:=⟨_,rfl⟩
     obtain⟨y,hy⟩:∃y,y=t.getD k 0:=⟨_,rfl⟩
     rw[←hx]at e1
     rw[←hy]at e2
     have HX:=Lib.hid hx;have HY:=Lib.hid hy;have H1:=Lib.hid h1;have H2:=Lib.hid h2;have HBW:=Lib.hid hb;have HALL:=Lib.hid hall
     clear hx hy h1 h2 hb hall hc1 hc2
     by_cases hxy:x=y
     ·subst hxy
      have hxx:(x !=x)=false:=by simp
      go_wp2
      go_quiet (fail)
      go_wp2
      go_roundw
      case rel=>
       refine⟨k+1,by omega,by go_num,H1.out,H2.out,below_drawN HBW.out _,fun j hj=>?_⟩
       rcases Nat.eq_or_lt_of_le (Nat.le_of_lt_succ hj)with e|e
       ·subst e;rw[←HX.out,←HY.out]
       ·exact HALL.out j e
      case measure=>simp[intOf];omega
     ·have hxx:(x !=y)=true:=by simpa using hxy
      obtain rfl:R=false:=HR.out.trans (decide_eq_false fun h=>hxy (by rw[HX.out,HY.out,h]))
      clear HR hxy
      go_wp2
      go_quiet (fail)
      go_wp2
      go_ret
      exact⟨rfl,below_drawN HBW.out _⟩
    ·obtain rfl:k=n1:=by omega
     obtain rfl:R=true:=HR.out.trans (decide_eq_true (by
      apply List.ext_getElem (by rw[←HN1.out,←HN2.out])
      intro j h1 h2
      have:=hall j (by rw[HN1.out];exact h1)
      rw[List.getD_eq_getElem?_getD,List.getD_eq_getElem?_getD,List.getElem?_eq_getElem h1,List.getElem?_eq_getElem h2]at this
      exact this))
     have HBW:=Lib.hid hb
     clear HR hb hall hlt hk h1 h2
     go_wp2
     go_ret
     exact⟨rfl,HBW.out⟩
  ·have hnn:((n1:Int) !=(n2:Int))=true:=by simp;omega
   have hnn2:(n1 !=n2)=true:=by simpa using hl
   have hr:decide (s=t)=false:=decide_eq_false fun h=>hl (by rw[HN1.out,HN2.out,h])
   rw[hr]
   clear hr hl
   go_wp2_with (first
    |(refine wpList_load_mid rfl _ _ rfl w.heap.size 0 rfl (cntV c) _ HT1.out.range Tryz.underlying23 rfl (by rw[cntV_length];exact szCnt) ?_)
    |(refine wpList_load_mid rfl _ _ rfl (w.heap.size+1) 0 rfl (cntV d) _ HT2.out.range Tryz.underlying23 rfl (by rw[cntV_length];exact szCnt) ?_)
    |(refine wpList_neq_on (by rfl) _ _ _ rfl _ _ _ rfl rfl (HG.out _ _ _ _ _) (hne.out _) ?_))
   go_ret
   exact⟨rfl,HB.out⟩
end Go.Proofs.YtgokdgcmkcmjeaaGreat
