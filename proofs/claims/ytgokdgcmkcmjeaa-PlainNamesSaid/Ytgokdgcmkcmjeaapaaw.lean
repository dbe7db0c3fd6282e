/-
  Words and walks.
-/
import Derived.Test.Ytgokdgcmkcmjeaapaad
import Derived.Test.Ytgokdgcmkcmjeaapaag
import Derived.Test.Ytgokdgcmkcmjeaapaar
set_option maxRecDepth 100000
set_option maxHeartbeats 16000000
namespace Go.Proofs.Ytgokdgcmkcmjeaa
open Go.RowKit
theorem seq_any(w:World)(u v:Value)(s t:List Int)(hu:RdS w w.heap.size u s)(hv:RdS w w.heap.size v t)(hs:s.length≤1000000000)(ht:t.length≤1000000000):
  Calls Try.prog 37 #[u,v] w fun e w'=>e=.returned (.bool (decide (s=t)))∧Below w.heap.size w w':=by
 obtain⟨A,ca,rfl,hra,_⟩:=hu
 obtain⟨B,cb,rfl,hrb,_⟩:=hv
 have HRA:=Lib.hid hra;have HRB:=Lib.hid hrb
 clear hra hrb
 obtain⟨n1,hn1⟩:∃n,n=s.length:=⟨_,rfl⟩
 obtain⟨n2,hn2⟩:∃n,n=t.length:=⟨_,rfl⟩
 rw[←hn1]at hs⊢
 rw[←hn2]at ht⊢
 obtain⟨R,hR⟩:∃R,R=decide (s=t):=⟨_,rfl⟩
 rw[←hR]
 have HN1:=Lib.hid hn1;have HN2:=Lib.hid hn2;have HR:=Lib.hid hR
 clear hn1 hn2 hR
 by_cases hl:n1=n2
 ·subst hl
  have hnn:((n1:Int) !=(n1:Int))=false:=by simp
  have hnn2:(n1 !=n1)=false:=by simp
  go_enter Try.func37,Try.ntmps37
  go_wp2
  go_loopw [13] (fun i wr=>∃k:Nat,k≤n1∧i=.int .i64 k∧Below w.heap.size w wr∧∀j,j<k→s.getD j 0=t.getD j 0) (fun i _=>n1-(intOf i).toNat)
  case atStart=>exact⟨0,Nat.zero_le _,rfl,Below.refl _ _,fun j hj=>absurd hj (by omega)⟩
  case round=>
   obtain⟨k,hk,rfl,hb,hall⟩:=hrel
   by_cases hlt:k<n1
   ·obtain⟨b1,o1,rfl,_,hc1⟩:=(HRA.out.below hb (Nat.le_refl _)).at (k:=k) (by rw[←HN1.out];exact hlt)
    obtain⟨b2,o2,rfl,_,hc2⟩:=(HRB.out.below hb (Nat.le_refl _)).at (k:=k) (by rw[←HN2.out];exact hlt)
    have e1:=hc1 k (by rw[←HN1.out];exact hlt)
    have e2:=hc2 k (by rw[←HN2.out];exact hlt)
    obtain⟨x,hx⟩:∃x,x=s.getD k 0:=⟨_,rfl⟩
    obtain⟨y,hy⟩:∃y,y=t.getD k 0:=⟨_,rfl⟩
    rw[←hx]at e1
    rw[←hy]at e2
    have HX:=Lib.hid hx;have HY:=Lib.hid hy;have HBW:=Lib.hid hb;have HALL:=Lib.hid hall
    clear hx hy hb hall hc1 hc2
    by_cases hxy:x=y
    ·subst hxy
     have hxx:(x !=x)=false:=by simp
     go_wp2
     go_quiet (fail)
     go_wp2
     go_roundw
     case rel=>
      refine⟨k+1,by omega,by go_num,below_drawN HBW.out _,fun j hj=>?_⟩
      rcases Nat.eq_or_lt_of_le (Nat.le_of_lt_succ hj)with e|e
      ·subst e;rw[←HX.out,←HY.out]
      ·exact HALL.out j e
     case measure=>simp[intOf];omega
    ·have hxx:(x !=y)=true:=by simpa using hxy
     obtain rfl:R=false:=HR.out.trans (decide_eq_false fun h=>hxy (by rw[HX.out,HY.out,h]))
     clear HR hxy
     go_wp2
     go_quiet (fail)
     go_wp2
     go_ret
     exact⟨rfl,below_drawN HBW.out _⟩
   ·obtain rfl:k=n1:=by omega
    obtain rfl:R=true:=HR.out.trans (decide_eq_true (by
     apply List.ext_getElem (by rw[←HN1.out,←HN2.out])
     intro j h1 h2
     have:=hall j (by rw[HN1.out];exact h1)
     rw[List.getD_eq_getElem?_getD,List.getD_eq_getElem?_getD,List.getElem?_eq_getElem h1,List.getElem?_eq_getElem h2]at this
     exact this))
    have HBW:=Lib.hid hb
    clear HR hb hall hlt hk
    go_wp2
    go_ret
    exact⟨rfl,HBW.out⟩
 ·have hnn:((n1:Int) !=(n2:Int))=true:=by simp;omega
  have hnn2:(n1 !=n2)=true:=by simpa using hl
  obtain rfl:R=false:=HR.out.trans (decide_eq_false fun h=>hl (by rw[HN1.out,HN2.out,h]))
  clear HR hl
  go_enter Try.func37,Try.ntmps37
  go_wp2
  go_ret
  exact⟨rfl,Below.refl _ _⟩
theorem run_eql_cnt(w:World)(c d:Nat→Int):(binOp .eql 30 (.agg (cntV c).toArray) (.agg (cntV d).toArray)).run Try.prog w=.ok (.bool (sameC c d)) w:=by
 obtain⟨i,hi⟩:=Option.isSome_iff_exists.1 (show(Try.prog.info? 3).isSome=true by kernel_rfl)
 have hce:Try.prog.cellsOf 3=1:=by kernel_rfl
 have h:=run_equalIn_array (P:=Try.prog) w 9999 (cntV c).toArray (cntV d).toArray Try.underlying30 hi
 rw[hce,run_eqItems_nums w 9998 Try.underlying3 (cntV c).toArray (cntV d).toArray c d (List.range 16) (fun i hi=>by
  have:=List.mem_range.1 hi
  simp[cntV_get,this])]at h
 have e:(binOp .eql 30 (.agg (cntV c).toArray) (.agg (cntV d).toArray)).run Try.prog w=((Op.equal 30 (.agg (cntV c).toArray) (.agg (cntV d).toArray)).run Try.prog w).andThen fun b w'=>.ok (.bool b) w':=by
  unfold binOp
  simp
 rw[e]
 unfold Op.equal Op.maxDepth
 rw[h]
 have:(∀i∈List.range 16,c i=d i)↔sameC c d=true:=by
  rw[sameC_iff];exact⟨fun h m hm=>h m (List.mem_range.2 hm),fun h m hm=>h m (List.mem_range.1 hm)⟩
 simp only[Result.andThen_ok,this]
 cases sameC c d<;>rfl
theorem wpList_eql_at{P:Program}{ops:Array Oper}{rest:List Oper}{o:Oper}{a:Act}{w:World}{Q:Exit→Act→World→Prop}(hw:Region.wanted o (yielded ops a.tmps)=true)(ty:TypeId)(x y:Operand)(ho:o.op=.binOp .eql ty x y ty)
  (u v:Value) (b:Bool) (hx:a.eval x=u) (hy:a.eval y=v) (hg:(eqGuard .eql ty x y u v).run P w=.ok () w) (hrun:(binOp .eql ty u v).run P w=.ok (.bool b) w)
  (h:wpList P ops Q rest (a.put o.dst (.bool b)) w):wpList P ops Q (o::rest) a w:=
 wpList_on hw fun K hK=>by
  unfold Oper.wp execOp
  simp only[ho,hx,hy]
  simp[hrun,hg,Sem.run_bind]
  exact hK _ _ h
theorem tsame_any(w:World)(c d:Nat→Int)(u v:Value)(s t:List Int)(hu:RdS w w.heap.size u s)(hv:RdS w w.heap.size v t)(hs:s.length≤1000000)(ht:t.length≤1000000):
  Calls Try.prog 27 #[.agg (trA c u),.agg (trA d v)] w fun e w'=>e=.returned (.bool (sameT c d s t))∧Below w.heap.size w w':=by
 have hg:∀(W:World) (x y:Operand) (u v:Array Value),(eqGuard .eql 30 x y (.agg u) (.agg v)).run Try.prog W=.ok () W:=fun W x y u v=>by
  have h:Try.prog.eqGuardType Try.prog.depth 30=false:=by kernel_rfl
  unfold eqGuard
  simp[Sem.run_bind,h]
 have HG:=Lib.hid hg
 have hb:=((Below.refl w.heap.size w).alloc (Nat.le_refl _) (.cells (trA c u) 33)).alloc (by simp) (.cells (trA d v) 33)
 have ht1:TreA ((w.alloc (.cells (trA c u) 33)).alloc (.cells (trA d v) 33)) w.heap.size c u:=heap_alloc2_old w _ _
 have ht2:TreA ((w.alloc (.cells (trA c u) 33)).alloc (.cells (trA d v) 33)) (w.heap.size+1) d v:=heap_alloc2_new w _ _
 have hq:=seq_any _ u v s t ((hu.below hb (Nat.le_refl _)).more hb.size) ((hv.below hb (Nat.le_refl _)).more hb.size) (by omega) (by omega)
 have k1:=ht1.syms
 have k2:=ht2.syms
 have HT1:=Lib.hid ht1;have HT2:=Lib.hid ht2;have HB:=Lib.hid hb;have HQ:=Lib.hid hq
 clear hg hb ht1 ht2 hq
 cases hc:sameC c d
 ·have hr:sameT c d s t=false:=by unfold sameT;rw[hc];rfl
  rw[hr]
  have hne:=Lib.hid (show∀W:World,(binOp .eql 30 (.agg (cntV c).toArray) (.agg (cntV d).toArray)).run Try.prog W=.ok (.bool false) W from fun W=>by rw[run_eql_cnt,hc])
  clear hc hr
  go_enter Try.func27,Try.ntmps27
  go_wp2_with (first
   |(refine wpList_load_mid rfl _ _ rfl w.heap.size 0 rfl (cntV c) _ HT1.out.range Try.underlying30 rfl (by rw[cntV_length];exact szCnt) ?_)
   |(refine wpList_load_mid rfl _ _ rfl (w.heap.size+1) 0 rfl (cntV d) _ HT2.out.range Try.underlying30 rfl (by rw[cntV_length];exact szCnt) ?_)
   |(refine wpList_eql_at (by rfl) _ _ _ rfl _ _ _ rfl rfl (HG.out _ _ _ _ _) (hne.out _) ?_))
  go_ret
  exact⟨rfl,HB.out⟩
 ·have hr:sameT c d s t=decide (s=t):=by unfold sameT;rw[hc];rfl
  rw[hr]
  have hne:=Lib.hid (show∀W:World,(binOp .eql 30 (.agg (cntV c).toArray) (.agg (cntV d).toArray)).run Try.prog W=.ok (.bool true) W from fun W=>by rw[run_eql_cnt,hc])
  clear hc hr
  go_enter Try.func27,Try.ntmps27
  go_wp2_with (first
   |(refine wpList_load_mid rfl _ _ rfl w.heap.size 0 rfl (cntV c) _ HT1.out.range Try.underlying30 rfl (by rw[cntV_length];exact szCnt) ?_)
   |(refine wpList_load_mid rfl _ _ rfl (w.heap.size+1) 0 rfl (cntV d) _ HT2.out.range Try.underlying30 rfl (by rw[cntV_length];exact szCnt) ?_)
   |(refine wpList_eql_at (by rfl) _ _ _ rfl _ _ _ rfl rfl (HG.out _ _ _ _ _) (hne.out _) ?_)
   |(go_at_call 37;refine HQ.out.mono ?_;rintro e w' ⟨rfl,hb'⟩))
  go_ret
  exact⟨rfl,HB.out.trans (hb'.mono HB.out.size)⟩
end Go.Proofs.Ytgokdgcmkcmjeaa
namespace Go.Proofs.Ytgokdgcmkcmjeaa
open Go.RowKit
def blkI(kd:Nat)(last:Bool)(left:Int)(c1 c2:Nat→Int)(v1 v2:Value):Array Value:=(.int .u8 (kd:Int)::.bool last::.int .i64 left::(trL c1 v1++trL c2 v2)).toArray
theorem blkI_size(k:Nat)(b:Bool)(l:Int)(c1 c2:Nat→Int)(v1 v2:Value):(blkI k b l c1 c2 v1 v2).size=37:=by simp[blkI,trL,cntV]
def emptyT(c:Nat→Int)(s:List Int):Bool:=sameT c (fun _=>0) s []
def MayI(kd:Nat)(left:Int)(c1:Nat→Int)(s1:List Int)(c2:Nat→Int)(s2:List Int):Prop:=
 (kd=0∧0≤left∧left≤65535∧emptyT c1 s1=true∧emptyT c2 s2=true)∨((kd=1∨kd=2)∧left=0∧(∃f,IsTree c1 s1 f)∧∃f,IsTree c2 s2 f)
theorem szTreeA(c:Nat→Int)(v:Value):(Try.prog.info? 33).map (·.size)=some (trL c v).length:=by
 rw[show(trL c v).length=17 by simp[trL,cntV]];kernel_rfl
theorem blkI_range{w:World}{b:Nat}{kd:Nat}{last:Bool}{left:Int}{c1 c2:Nat→Int}{v1 v2:Value}(h:BoxC w b (blkI kd last left c1 c2 v1 v2) 35):w.rangeAt b 3 (trL c1 v1)∧w.rangeAt b 20 (trL c2 v2):=by
 have hl:∀(c:Nat→Int) (v:Value),(trL c v).length=17:=fun c v=>by simp[trL,cntV]
 constructor
 ·intro j u hu
  have hj:j<17:=by rw[←hl c1 v1];exact(List.getElem?_eq_some_iff.1 hu).1
  rw[cell_of_row w b _ _ _ (0,0) h]
  show(blkI kd last left c1 c2 v1 v2)[3+j]?=some u
  unfold blkI
  rw[List.getElem?_toArray,Nat.add_comm 3 j]
  show((trL c1 v1++trL c2 v2):List Value)[j]?=some u
  rw[List.getElem?_append_left (by rw[hl];exact hj)];exact hu
 ·intro j u hu
  have hj:j<17:=by rw[←hl c2 v2];exact(List.getElem?_eq_some_iff.1 hu).1
  rw[cell_of_row w b _ _ _ (0,0) h]
  show(blkI kd last left c1 c2 v1 v2)[20+j]?=some u
  unfold blkI
  rw[List.getElem?_toArray,show 20+j=(j+17)+3 by omega]
  show((trL c1 v1++trL c2 v2):List Value)[j+17]?=some u
  rw[List.getElem?_append_right (by rw[hl];omega),hl,Nat.add_sub_cancel];exact hu
theorem built_treeZ:Try.prog.built 33 []=some (trL (fun _=>0) (.slice none 0 0)).toArray:=by kernel_rfl
theorem pempty_any(w:World)(c:Nat→Int)(v:Value)(s:List Int)(hv:RdS w w.heap.size v s)(hs:s.length≤1000000):
  Calls Try.prog 19 #[.agg (trL c v).toArray] w fun e w'=>e=.returned (.bool (emptyT c s))∧Below w.heap.size w w':=by
 obtain⟨b,hb⟩:∃b,b=w.heap.size:=⟨_,rfl⟩
 obtain⟨X,hX⟩:∃X,X=(trL c v).toArray:=⟨_,rfl⟩
 rw[←hX]
 have hXS:X.size=17:=by rw[hX];exact trA_size c v
 obtain⟨W1,hW1⟩:∃W1,W1=w.alloc (.cells X 33):=⟨_,rfl⟩
 have hb1:Below b w W1:=by rw[hW1,hb];exact(Below.refl _ _).alloc (Nat.le_refl _) _
 have x1:BoxC W1 b X 33:=by rw[hW1,hb];exact BoxC.new w _ _
 have hS:=tsame_any W1 c (fun _=>0) v (.slice none 0 0) s [] ((hv.below (hb▸hb1) (Nat.le_refl _)).more (hb▸hb1.size)) ⟨none,0,rfl,⟨rfl,fun h=>absurd h (by decide)⟩,fun _=>rfl,Nat.le_refl _,Nat.zero_le _⟩ hs (by decide)
 rw[show trA c v=X from hX.symm]at hS
 obtain⟨Z,hZ⟩:∃Z,Z=trA (fun _=>0) (.slice none 0 0):=⟨_,rfl⟩
 rw[←hZ]at hS
 have HZB:Hid (Try.prog.built 33 []=some Z):=Lib.hid (by rw[hZ];exact built_treeZ)
 have HS:=Lib.hid hS;have HX1:=Lib.hid x1;have HXS:=Lib.hid hXS;have HB1:Hid (Below w.heap.size w W1):=Lib.hid (hb▸hb1);have HW1:=Lib.hid hW1;have HB:=Lib.hid hb
 unfold emptyT
 obtain⟨r,hr⟩:∃r,r=sameT c (fun _=>0) s []:=⟨_,rfl⟩
 rw[←hr]at HS⊢
 clear hS x1 hXS hb1 hW1 hb hZ hX hv hs hr
 go_enter Try.func19,Try.ntmps19
 go_wp2_with (first
  |(rw[←HW1.out,←HB.out])
  |(refine wpList_buildTo rfl 33 #[] rfl (some 4) rfl Z ?_ ?_;focus(simpa[Act.eval]using HZB.out))
  |(refine wpList_load_row rfl _ _ rfl b rfl _ X (0,0) _ HX1.out Try.underlying33 rfl (szTree17 HXS.out) ?_)
  |fail)
 refine HS.out.mono ?_
 rintro e w2 ⟨rfl,hb2⟩
 have HB2:=Lib.hid (HB1.out.trans (hb2.mono HB1.out.size))
 clear hb2
 go_wp2
 go_ret
 exact⟨rfl,HB2.out⟩
theorem wpList_load_mid_on{P:Program}{ops:Array Oper}{rest:List Oper}{op:Oper}{a:Act}{w:World}{Q:Exit→Act→World→Prop}(hw:Region.wanted op (yielded ops a.tmps)=true)(ty:TypeId)(x:Operand)(ho:op.op=.load ty x)
  (b o:Nat) (hx:a.eval x=.pointer (some ⟨b,o,none⟩)) (cs:List Value) (d:TypeDesc) (hc:w.rangeAt b o cs)
  (hu:P.underlying ty=some d) (hd:d.isRow=true) (hi:(P.info? ty).map (·.size)=some cs.length)
  (h:wpList P ops Q rest (a.put op.dst (.agg cs.toArray)) w):wpList P ops Q (op::rest) a w:=
 wpList_on hw fun _ hK=>wp_load_mid ty x ho b o hx cs d hc hu hd hi (hK _ _ h)
theorem emptyF{c:Nat→Int}{s:List Int}(h:¬emptyT c s=true):emptyT c s=false:=by simpa using h
theorem pmay_any(w:World)(kd:Nat)(last:Bool)(left:Int)(c1 c2:Nat→Int)(v1 v2:Value)(s1 s2:List Int)(h1:RdS w w.heap.size v1 s1)(h2:RdS w w.heap.size v2 s2)(n1:s1.length≤1000000)(n2:s2.length≤1000000)(r:Bool)(hr:r=true↔MayI kd left c1 s1 c2 s2):
  Calls Try.prog 14 #[.agg (blkI kd last left c1 c2 v1 v2)] w fun e w'=>e=.returned (.bool r)∧Below w.heap.size w w':=by
 obtain⟨b,hb⟩:∃b,b=w.heap.size:=⟨_,rfl⟩
 obtain⟨X,hX⟩:∃X,X=blkI kd last left c1 c2 v1 v2:=⟨_,rfl⟩
 rw[←hX]
 obtain⟨W1,hW1⟩:∃W1,W1=w.alloc (.cells X 35):=⟨_,rfl⟩
 have hb1:Below b w W1:=by rw[hW1,hb];exact(Below.refl _ _).alloc (Nat.le_refl _) _
 have hsz:b<W1.heap.size:=by rw[hW1,World.size_alloc,hb];omega
 have x1:BoxC W1 b X 35:=by rw[hW1,hb];exact BoxC.new w _ _
 have a0:W1.cell? ⟨b,0,none⟩=some (.int .u8 (kd:Int)):=x1.cell.trans (by rw[hX];rfl)
 have a2:W1.cell? ⟨b,2,none⟩=some (.int .i64 left):=x1.cell.trans (by rw[hX];rfl)
 have hRA:∀W,Below W1.heap.size W1 W→W.rangeAt b 3 (trL c1 v1):=fun W hW=>(blkI_range (hX▸x1.below hW hsz)).1
 have hRB:∀W,Below W1.heap.size W1 W→W.rangeAt b 20 (trL c2 v2):=fun W hW=>(blkI_range (hX▸x1.below hW hsz)).2
 have hE1:=pempty_any W1 c1 v1 s1 ((h1.below (hb▸hb1) (Nat.le_refl _)).more (hb▸hb1.size)) n1
 have hE2:=fun W (hW:Below W1.heap.size W1 W)=>pempty_any W c2 v2 s2 ((((h2.below (hb▸hb1) (Nat.le_refl _)).more (hb▸hb1.size)).below hW (Nat.le_refl _)).more hW.size) n2
 have hC1:=tchk_any W1 c1 v1 s1 ((h1.below (hb▸hb1) (Nat.le_refl _)).more (hb▸hb1.size)) n1
 have hC2:=fun W (hW:Below W1.heap.size W1 W)=>tchk_any W c2 v2 s2 ((((h2.below (hb▸hb1) (Nat.le_refl _)).more (hb▸hb1.size)).below hW (Nat.le_refl _)).more hW.size) n2
 have HB1:Hid (Below w.heap.size w W1):=Lib.hid (hb▸hb1)
 have HE1:=Lib.hid hE1;have HE2:=Lib.hid hE2;have HC1:=Lib.hid hC1;have HC2:=Lib.hid hC2;have HW1:=Lib.hid hW1;have HB:=Lib.hid hb;have HRA:=Lib.hid (hRA W1 (Below.refl _ _));have HRB:=Lib.hid hRB
 clear hX hW1 hb1 hsz x1 hRA hRB hE1 hE2 hC1 hC2 hb h1 h2 n1 n2
 by_cases k0:kd=0
 ·have d0:((kd:Int)==0)=true:=by rw[k0];rfl
  by_cases y1:0≤left
  ·have e1:decide (0≤left)=true:=decide_eq_true y1
   by_cases y2:left≤65535
   ·have e2:decide (left≤65535)=true:=decide_eq_true y2
    by_cases y3:emptyT c1 s1=true
    ·rw[y3]at HE1
     obtain⟨q,hq⟩:∃q,q=emptyT c2 s2:=⟨_,rfl⟩
     rw[←hq]at HE2
     have hrq:r=q:=Bool.eq_iff_iff.2 ⟨fun h=>by
      rcases hr.1 h with⟨_,_,_,_,h5⟩|⟨h1,_⟩
      ·rw[hq];exact h5
      ·omega,fun h=>hr.2 (.inl ⟨k0,y1,y2,y3,by rw[←hq];exact h⟩)⟩
     subst hrq
     clear hr k0 y1 y2 y3 hq HC1 HC2
     go_enter Try.func14,Try.ntmps14
     go_wp2_with (first
      |(rw[←HW1.out,←HB.out])
      |(refine wpList_load_mid_on (by rfl) _ _ rfl b 3 rfl (trL c1 v1) _ HRA.out Try.underlying33 rfl (szTreeA _ _) ?_)
      |fail)
     refine HE1.out.mono ?_
     rintro e w2 ⟨rfl,hb2⟩
     have HB2:=Lib.hid (HB1.out.trans (hb2.mono HB1.out.size))
     have HRB2:=Lib.hid (HRB.out w2 hb2)
     have HE22:=HE2.out w2 hb2
     have HE3:=Lib.hid HE22
     clear hb2 HE2 HRB HE22
     go_wp2_with (first
      |(refine wpList_load_mid_on (by rfl) _ _ rfl b 20 rfl (trL c2 v2) _ HRB2.out Try.underlying33 rfl (szTreeA _ _) ?_)
      |fail)
     refine HE3.out.mono ?_
     rintro e w3 ⟨rfl,hb3⟩
     have HB3:=Lib.hid (HB2.out.trans (hb3.mono HB2.out.size))
     clear hb3 HE3 HB2
     go_wp2
     go_ret
     exact⟨rfl,HB3.out⟩
    ·have y3':=emptyF y3
     rw[y3']at HE1
     have hrq:r=false:=Bool.eq_false_iff.2 fun h=>by
      rcases hr.1 h with⟨_,_,_,h4,_⟩|⟨h1,_⟩
      ·exact y3 h4
      ·omega
     subst hrq
     clear hr k0 y1 y2 y3 y3' HC1 HC2
     go_enter Try.func14,Try.ntmps14
     go_wp2_with (first
      |(rw[←HW1.out,←HB.out])
      |(refine wpList_load_mid_on (by rfl) _ _ rfl b 3 rfl (trL c1 v1) _ HRA.out Try.underlying33 rfl (szTreeA _ _) ?_)
      |fail)
     refine HE1.out.mono ?_
     rintro e w2 ⟨rfl,hb2⟩
     have HB2:=Lib.hid (HB1.out.trans (hb2.mono HB1.out.size))
     clear hb2
     go_wp2
     go_ret
     exact⟨rfl,HB2.out⟩
   ·have e2:decide (left≤65535)=false:=decide_eq_false y2
    have hrq:r=false:=Bool.eq_false_iff.2 fun h=>by
     rcases hr.1 h with⟨_,_,h4,_⟩|⟨h1,_⟩
     ·exact y2 h4
     ·omega
    subst hrq
    clear hr k0 y1 y2
    go_enter Try.func14,Try.ntmps14
    go_wp2_with (first|(rw[←HW1.out,←HB.out])|fail)
    go_ret
    exact⟨rfl,HB1.out⟩
  ·have e1:decide (0≤left)=false:=decide_eq_false y1
   have hrq:r=false:=Bool.eq_false_iff.2 fun h=>by
    rcases hr.1 h with⟨_,h4,_⟩|⟨h1,_⟩
    ·exact y1 h4
    ·omega
   subst hrq
   clear hr k0 y1
   go_enter Try.func14,Try.ntmps14
   go_wp2_with (first|(rw[←HW1.out,←HB.out])|fail)
   go_ret
   exact⟨rfl,HB1.out⟩
 have d0:((kd:Int)==0)=false:=beq_eq_false_iff_ne.2 (by omega)
 by_cases k1:kd=1∨kd=2
 ·have d1:((kd:Int)==1)=true∧kd=1∨((kd:Int)==1)=false∧((kd:Int)==2)=true:=by
   rcases k1 with rfl|rfl
   ·exact .inl ⟨rfl,rfl⟩
   ·exact .inr ⟨rfl,rfl⟩
  by_cases y1:left=0
  ·subst y1
   have e1:((0:Int)==0)=true:=rfl
   by_cases y2:∃f,IsTree c1 s1 f
   ·have c1k:Calls Try.prog 20 #[.agg (trL c1 v1).toArray] W1 fun e w'=>e=.returned (.int .i64 0)∧Below W1.heap.size W1 w':=HC1.out.mono fun e w' h=>⟨by
     rcases h.1 with h3|h3
     ·exact h3.2
     ·exact absurd y2.choose_spec (h3.1 _),h.2⟩
    have HC1':=Lib.hid c1k
    obtain⟨q,hq⟩:∃q:Bool,(q=true↔∃f,IsTree c2 s2 f):=by
     rcases Classical.em (∃f,IsTree c2 s2 f)with h|h
     ·exact⟨true,by simp[h]⟩
     ·exact⟨false,by simp[h]⟩
    obtain⟨x,hx⟩:∃x:Int,x=if q=true then 0 else 8:=⟨_,rfl⟩
    have hxq:(x==0)=q:=by rw[hx];cases q<;>rfl
    have c2k:∀W,Below W1.heap.size W1 W→Calls Try.prog 20 #[.agg (trL c2 v2).toArray] W fun e w'=>e=.returned (.int .i64 x)∧Below W.heap.size W w':=fun W hW=>(HC2.out W hW).mono fun e w' h=>⟨by
     rcases h.1 with h3|h3
     ·rw[hx,if_pos (hq.2 h3.1)];exact h3.2
     ·rw[hx,if_neg (fun h4=>(h3.1 _) (hq.1 h4).choose_spec)];exact h3.2,h.2⟩
    have HC2':=Lib.hid c2k
    have hrq:r=q:=Bool.eq_iff_iff.2 ⟨fun h=>by
     rcases hr.1 h with⟨h1,_⟩|⟨_,_,_,h5⟩
     ·omega
     ·exact hq.2 h5,fun h=>hr.2 (.inr ⟨k1,rfl,y2,hq.1 h⟩)⟩
    subst hrq
    clear hr k0 k1 y2 hq hx c1k c2k HC1 HC2 HE1 HE2
    rcases d1 with⟨d1,_⟩|⟨d1,d2⟩
    ·go_enter Try.func14,Try.ntmps14
     go_wp2_with (first
      |(rw[←HW1.out,←HB.out])
      |(refine wpList_load_mid_on (by rfl) _ _ rfl b 3 rfl (trL c1 v1) _ HRA.out Try.underlying33 rfl (szTreeA _ _) ?_)
      |fail)
     refine HC1'.out.mono ?_
     rintro e w2 ⟨rfl,hb2⟩
     have HB2:=Lib.hid (HB1.out.trans (hb2.mono HB1.out.size))
     have HRB2:=Lib.hid (HRB.out w2 hb2)
     have HE22:=HC2'.out w2 hb2
     have HE3:=Lib.hid HE22
     clear hb2 HC2' HRB HE22
     go_wp2_with (first
      |(refine wpList_load_mid_on (by rfl) _ _ rfl b 20 rfl (trL c2 v2) _ HRB2.out Try.underlying33 rfl (szTreeA _ _) ?_)
      |fail)
     refine HE3.out.mono ?_
     rintro e w3 ⟨rfl,hb3⟩
     have HB3:=Lib.hid (HB2.out.trans (hb3.mono HB2.out.size))
     clear hb3 HE3 HB2
     go_wp2
     go_ret
     exact⟨rfl,HB3.out⟩
    ·go_enter Try.func14,Try.ntmps14
     go_wp2_with (first
      |(rw[←HW1.out,←HB.out])
      |(refine wpList_load_mid_on (by rfl) _ _ rfl b 3 rfl (trL c1 v1) _ HRA.out Try.underlying33 rfl (szTreeA _ _) ?_)
      |fail)
     refine HC1'.out.mono ?_
     rintro e w2 ⟨rfl,hb2⟩
     have HB2:=Lib.hid (HB1.out.trans (hb2.mono HB1.out.size))
     have HRB2:=Lib.hid (HRB.out w2 hb2)
     have HE22:=HC2'.out w2 hb2
     have HE3:=Lib.hid HE22
     clear hb2 HC2' HRB HE22
     go_wp2_with (first
      |(refine wpList_load_mid_on (by rfl) _ _ rfl b 20 rfl (trL c2 v2) _ HRB2.out Try.underlying33 rfl (szTreeA _ _) ?_)
      |fail)
     refine HE3.out.mono ?_
     rintro e w3 ⟨rfl,hb3⟩
     have HB3:=Lib.hid (HB2.out.trans (hb3.mono HB2.out.size))
     clear hb3 HE3 HB2
     go_wp2
     go_ret
     exact⟨rfl,HB3.out⟩
   ·have c1k:Calls Try.prog 20 #[.agg (trL c1 v1).toArray] W1 fun e w'=>e=.returned (.int .i64 8)∧Below W1.heap.size W1 w':=HC1.out.mono fun e w' h=>⟨by
     rcases h.1 with h3|h3
     ·exact absurd h3.1 y2
     ·exact h3.2,h.2⟩
    have HC1':=Lib.hid c1k
    have hx8:((8:Int)==0)=false:=rfl
    have hrq:r=false:=Bool.eq_false_iff.2 fun h=>by
     rcases hr.1 h with⟨h1,_⟩|⟨_,_,h4,_⟩
     ·omega
     ·exact y2 h4
    subst hrq
    clear hr k0 k1 y2 c1k HC1 HC2 HE1 HE2
    rcases d1 with⟨d1,_⟩|⟨d1,d2⟩
    ·go_enter Try.func14,Try.ntmps14
     go_wp2_with (first
      |(rw[←HW1.out,←HB.out])
      |(refine wpList_load_mid_on (by rfl) _ _ rfl b 3 rfl (trL c1 v1) _ HRA.out Try.underlying33 rfl (szTreeA _ _) ?_)
      |fail)
     refine HC1'.out.mono ?_
     rintro e w2 ⟨rfl,hb2⟩
     have HB2:=Lib.hid (HB1.out.trans (hb2.mono HB1.out.size))
     clear hb2
     go_wp2
     go_ret
     exact⟨rfl,HB2.out⟩
    ·go_enter Try.func14,Try.ntmps14
     go_wp2_with (first
      |(rw[←HW1.out,←HB.out])
      |(refine wpList_load_mid_on (by rfl) _ _ rfl b 3 rfl (trL c1 v1) _ HRA.out Try.underlying33 rfl (szTreeA _ _) ?_)
      |fail)
     refine HC1'.out.mono ?_
     rintro e w2 ⟨rfl,hb2⟩
     have HB2:=Lib.hid (HB1.out.trans (hb2.mono HB1.out.size))
     clear hb2
     go_wp2
     go_ret
     exact⟨rfl,HB2.out⟩
  ·have e1:(left==0)=false:=beq_eq_false_iff_ne.2 y1
   have hrq:r=false:=Bool.eq_false_iff.2 fun h=>by
    rcases hr.1 h with⟨h1,_⟩|⟨_,h4,_⟩
    ·omega
    ·exact y1 h4
   subst hrq
   clear hr k0 k1 y1
   rcases d1 with⟨d1,_⟩|⟨d1,d2⟩
   ·go_enter Try.func14,Try.ntmps14
    go_wp2_with (first|(rw[←HW1.out,←HB.out])|fail)
    go_ret
    exact⟨rfl,HB1.out⟩
   ·go_enter Try.func14,Try.ntmps14
    go_wp2_with (first|(rw[←HW1.out,←HB.out])|fail)
    go_ret
    exact⟨rfl,HB1.out⟩
 ·have d1:((kd:Int)==1)=false:=beq_eq_false_iff_ne.2 (by omega)
  have d2:((kd:Int)==2)=false:=beq_eq_false_iff_ne.2 (by omega)
  have hrq:r=false:=Bool.eq_false_iff.2 fun h=>by
   rcases hr.1 h with⟨h1,_⟩|⟨h4,_⟩
   ·omega
   ·exact k1 h4
  subst hrq
  clear hr k0 k1
  go_enter Try.func14,Try.ntmps14
  go_wp2_with (first|(rw[←HW1.out,←HB.out])|fail)
  go_ret
  exact⟨rfl,HB1.out⟩
def chkI(r:Bool):Int:=if r=true then 0 else 8
theorem pcheck13_any(w:World)(kd:Nat)(last:Bool)(left:Int)(c1 c2:Nat→Int)(v1 v2:Value)(s1 s2:List Int)(h1:RdS w w.heap.size v1 s1)(h2:RdS w w.heap.size v2 s2)(n1:s1.length≤1000000)(n2:s2.length≤1000000)(r:Bool)(hr:r=true↔MayI kd left c1 s1 c2 s2):
  Calls Try.prog 10 #[.agg (blkI kd last left c1 c2 v1 v2)] w fun e w'=>e=.returned (.int .i64 (chkI r))∧Below w.heap.size w w':=by
 obtain⟨b,hb⟩:∃b,b=w.heap.size:=⟨_,rfl⟩
 obtain⟨X,hX⟩:∃X,X=blkI kd last left c1 c2 v1 v2:=⟨_,rfl⟩
 have hXS:X.size=37:=by rw[hX];exact blkI_size ..
 obtain⟨W1,hW1⟩:∃W1,W1=w.alloc (.cells X 35):=⟨_,rfl⟩
 have hb1:Below b w W1:=by rw[hW1,hb];exact(Below.refl _ _).alloc (Nat.le_refl _) _
 have x1:BoxC W1 b X 35:=by rw[hW1,hb];exact BoxC.new w _ _
 have hM:=pmay_any W1 kd last left c1 c2 v1 v2 s1 s2 ((h1.below (hb▸hb1) (Nat.le_refl _)).more (hb▸hb1.size)) ((h2.below (hb▸hb1) (Nat.le_refl _)).more (hb▸hb1.size)) n1 n2 r hr
 rw[←hX]at hM⊢
 have HB1:Hid (Below w.heap.size w W1):=Lib.hid (hb▸hb1)
 have HM:=Lib.hid hM;have HX1:=Lib.hid x1;have HXS:=Lib.hid hXS;have HW1:=Lib.hid hW1;have HB:=Lib.hid hb
 clear hM hX hW1 hb1 x1 hb h1 h2 n1 n2 hXS hr
 cases r
 all_goals(
  go_enter Try.func10,Try.ntmps10
  go_wp2_with (first
   |(rw[←HW1.out,←HB.out])
   |(refine wpList_load_row rfl _ _ rfl b rfl _ X (0,0) _ HX1.out Try.underlying35 rfl (szBlkT X HXS.out) ?_)
   |fail)
  refine HM.out.mono ?_
  rintro e w2 ⟨rfl,hb2⟩
  have HB2:=Lib.hid (HB1.out.trans (hb2.mono HB1.out.size))
  clear hb2
  go_wp2
  go_ret
  exact⟨rfl,HB2.out⟩)
end Go.Proofs.Ytgokdgcmkcmjeaa
