/-
  Words and walks.
-/
import Derived.Deep.DeepCutAuto
import Derived.Deep.WholeRow
import Derived.Test.YtgokdgcmkcmjeaaGreatpraa
import Derived.Test.YtgokdgcmkcmjeaaGreatprab
set_option maxRecDepth 100000
set_option maxHeartbeats 16000000
namespace Go.Proofs.YtgokdgcmkcmjeaaGreat
open Go.RowKit
theorem row_range{w:World}{g:Nat}{T:Nat→Int}{n:Nat}{t:TypeId}(hg:w.heap[g]?=some (.cells (tblA T n) t (0,0))):w.rangeAt g 0 (tblL T n):=fun i v hv=>by
 rw[cell_of_row w g _ _ _ (0,0) hg,Nat.zero_add]
 simpa[tblA]using hv
theorem below_row9{B:Nat}{a w:World}(h:Below B a w){g:Nat}(hp:B≤g)(cs:Array Value):Below B a (w.setRow g cs):=
 ⟨h.os,h.tape,h.output,by rw[size_setRow];exact h.size,fun k hk=>(setRow_other w g k cs (by omega)).trans (h.block k hk)⟩
def mkV(w:World)(z cs:Array Value)(t:TypeId):World:=(w.alloc (.cells z t)).setRow w.heap.size cs
theorem mkV_row(w:World)(z cs:Array Value)(t:TypeId):(mkV w z cs t).heap[w.heap.size]?=some (.cells cs t (0,0)):=setRow_heap _ _ _ _ _ _ (heap_alloc_new w _)
theorem mkV_below(w:World)(z cs:Array Value)(t:TypeId):Below w.heap.size w (mkV w z cs t):=below_row9 ((Below.refl _ _).alloc (Nat.le_refl _) _) (Nat.le_refl _) cs
theorem mkV_size(w:World)(z cs:Array Value)(t:TypeId):(mkV w z cs t).heap.size=w.heap.size+1:=by unfold mkV;rw[size_setRow];simp
theorem inforlongs:(Tryz.prog.info? 224).map (fun i=>(i.zero,i.size))=some (some (.agg (tblA (fun _=>0) 29)),29):=by kernel_rfl
theorem szA29(T:Nat→Int):(Tryz.prog.info? 224).map (·.size)=some (tblA T 29).size:=by rw[tblA_size];kernel_rfl
theorem szL29(T:Nat→Int):(Tryz.prog.info? 224).map (·.size)=some (tblL T 29).length:=by rw[tblL_length];kernel_rfl
theorem cell_two29{fn:Func}{p q:Tmp}(h:fn.results=#[.cell p 224,.cell q 224])(tmps:Array Value)(w:World)(g g2:Nat)(T X:Nat→Int)(hp:tmps.getD p undef=.pointer (some ⟨g,0,none⟩))(hq:tmps.getD q undef=.pointer (some ⟨g2,0,none⟩))
  (ht:w.heap[g]?=some (.cells (tblA T 29) 224 (0,0))) (ht2:w.heap[g2]?=some (.cells (tblA X 29) 224 (0,0))):
  (results fn tmps).run Tryz.prog w=.ok (.tuple #[.agg (tblA T 29),.agg (tblA X 29)]) w:=by
 have hp':tmps[p]?.getD undef=.pointer (some ⟨g,0,none⟩):=by simpa using hp
 have hq':tmps[q]?.getD undef=.pointer (some ⟨g2,0,none⟩):=by simpa using hq
 have hl:=run_loadVar_row (P:=Tryz.prog) w g 224 224 _ (0,0) _ ht Tryz.underlying224 rfl (szA29 T)
 have hl2:=run_loadVar_row (P:=Tryz.prog) w g2 224 224 _ (0,0) _ ht2 Tryz.underlying224 rfl (szA29 X)
 simp[results,h,hp',hq',asAddr,hl,hl2]
theorem flatlongT:(([3,4,5,6,7,8,9,10,11,13,15,17,19,23,27,31,35,43,51,59,67,83,99,115,131,163,195,227,258]:List Int).map (Value.int .i64)).toArray=tblA (fun i=>(longT i:Int)) 29:=by kernel_rfl
theorem flatlongX:(([0,0,0,0,0,0,0,0,1,1,1,1,2,2,2,2,3,3,3,3,4,4,4,4,5,5,5,5,0]:List Int).map (Value.int .i64)).toArray=tblA (fun i=>(longX i:Int)) 29:=by kernel_rfl
theorem rlongs_any(w:World):Calls Tryz.prog 153 #[] w fun e w'=>e=.returned (.tuple #[.agg (tblA (fun i=>(longT i:Int)) 29),.agg (tblA (fun i=>(longX i:Int)) 29)])∧Below w.heap.size w w':=by
 have hz:=(zero_of_info inforlongs).1
 obtain⟨T,hT⟩:∃T:Nat→Int,T=fun i=>(longT i:Int):=⟨_,rfl⟩
 obtain⟨X,hX⟩:∃X:Nat→Int,X=fun i=>(longX i:Int):=⟨_,rfl⟩
 obtain⟨Z,hZ⟩:∃Z:Nat→Int,Z=fun _=>0:=⟨_,rfl⟩
 rw[←hT,←hX]
 rw[←hZ]at hz
 have f1:=flatlongT
 have f2:=flatlongX
 rw[←hT]at f1
 rw[←hX]at f2
 obtain⟨b,hb⟩:∃b,b=w.heap.size:=⟨_,rfl⟩
 obtain⟨W1,hW1⟩:∃W1,W1=(w.alloc (.cells (tblA Z 29) 224)).alloc (.cells (tblA Z 29) 224):=⟨_,rfl⟩
 obtain⟨W2,hW2⟩:∃W2,W2=mkV W1 (tblA Z 29) (tblA T 29) 224:=⟨_,rfl⟩
 obtain⟨W3,hW3⟩:∃W3,W3=mkV W2 (tblA Z 29) (tblA X 29) 224:=⟨_,rfl⟩
 have s1:W1.heap.size=b+2:=by rw[hW1,hb];simp
 have s2:W2.heap.size=b+3:=by rw[hW2,mkV_size,s1]
 have b1:Below w.heap.size w W1:=by rw[hW1];exact((Below.refl _ _).alloc (Nat.le_refl _) _).alloc (by simp) _
 have b2:Below W1.heap.size W1 W2:=by rw[hW2];exact mkV_below _ _ _ _
 have b3:Below W2.heap.size W2 W3:=by rw[hW3];exact mkV_below _ _ _ _
 have b03:Below w.heap.size w W3:=(b1.trans (b2.mono (by omega))).trans (b3.mono (by omega))
 have r0:W1.heap[b]?=some (.cells (tblA Z 29) 224 (0,0)):=by rw[hW1,hb];exact(Below.heap_alloc _ _ _ (by simp)).trans (heap_alloc_new w _)
 have r1:W1.heap[b+1]?=some (.cells (tblA Z 29) 224 (0,0)):=by
  have:=heap_alloc_new (w.alloc (.cells (tblA Z 29) 224)) (.cells (tblA Z 29) 224)
  rw[World.size_alloc,←hW1,←hb]at this;exact this
 have r2:W2.heap[b+2]?=some (.cells (tblA T 29) 224 (0,0)):=by
  have:=mkV_row W1 (tblA Z 29) (tblA T 29) 224
  rw[s1,←hW2]at this;exact this
 have r3:W3.heap[b+3]?=some (.cells (tblA X 29) 224 (0,0)):=by
  have:=mkV_row W2 (tblA Z 29) (tblA X 29) 224
  rw[s2,←hW3]at this;exact this
 have q0:=(b3.block b (by omega)).trans ((b2.block b (by omega)).trans r0)
 have q1:=(b3.block (b+1) (by omega)).trans ((b2.block (b+1) (by omega)).trans r1)
 have q2:=(b3.block (b+2) (by omega)).trans r2
 have n2:(W1.alloc (.cells (tblA Z 29) 224)).heap[w.heap.size+1+1]?=some (.cells (tblA Z 29) 224 (0,0)):=by
  have:=heap_alloc_new W1 (.cells (tblA Z 29) 224)
  rw[s1,hb]at this;exact this
 have v2:(W1.alloc (.cells (tblA Z 29) 224)).setRow (w.heap.size+1+1) (tblA T 29)=W2:=by
  rw[hW2];unfold mkV;rw[s1,hb]
 have HN2:=Lib.hid n2;have HV2:=Lib.hid v2
 have F1:=Lib.hid f1;have F2:=Lib.hid f2;have HW1:=Lib.hid hW1;have HW2:=Lib.hid hW2;have HW3:=Lib.hid hW3;have HB:=Lib.hid hb;have Q0:=Lib.hid q0;have Q1:=Lib.hid q1;have Q2:=Lib.hid q2;have Q3:=Lib.hid r3;have B03:=Lib.hid b03;have S1:=Lib.hid s1;have S2:=Lib.hid s2
 clear n2 v2 f1 f2 hW1 hW2 hW3 hb q0 q1 q2 r0 r1 r2 r3 b1 b2 b3 b03 s1 s2 hT hX hZ
 go_enter Tryz.func153,Tryz.ntmps153
 go_wp2_with (first
  |(refine wpList_buildFlatArrTo rfl 224 3 29 _ rfl .i64 [3,4,5,6,7,8,9,10,11,13,15,17,19,23,27,31,35,43,51,59,67,83,99,115,131,163,195,227,258] (some 4) rfl Tryz.underlying224 (by kernel_rfl) (by kernel_rfl) rfl ?_;rw[F1.out])
  |(refine wpList_buildFlatArrTo rfl 224 3 29 _ rfl .i64 [0,0,0,0,0,0,0,0,1,1,1,1,2,2,2,2,3,3,3,3,4,4,4,4,5,5,5,5,0] (some 5) rfl Tryz.underlying224 (by kernel_rfl) (by kernel_rfl) rfl ?_;rw[F2.out])
  |(rw[←HW1.out];refine wpList_store_rowTo rfl _ _ _ rfl rfl (w.heap.size+1+1) (tblA T 29) rfl rfl 224 (tblA Z 29) HN2.out (szA29 _) (by rw[tblA_size,tblA_size]) (tblA_one _ _) ?_;rw[HV2.out])
  |(refine wpList_store_rowTo rfl _ _ _ rfl rfl W2.heap.size (tblA X 29) rfl rfl 224 (tblA Z 29) (heap_alloc_new W2 _) (szA29 _) (by rw[tblA_size,tblA_size]) (tblA_one _ _) ?_;change wpList _ _ _ _ _ (mkV W2 (tblA Z 29) (tblA X 29) 224);rw[←HW3.out]))
 have hne1:w.heap.size+1≠w.heap.size:=by omega
 have hne2:w.heap.size+1+1≠w.heap.size:=by omega
 have hne3:w.heap.size+1+1≠w.heap.size+1:=by omega
 have hne4:W2.heap.size≠w.heap.size:=by have:=S2.out;have:=HB.out;omega
 have hne5:W2.heap.size≠w.heap.size+1:=by have:=S2.out;have:=HB.out;omega
 have q0:W3.drew.heap[w.heap.size]?=some (.cells (tblA Z 29) 224 (0,0)):=by rw[←HB.out];exact Q0.out
 have q1:W3.drew.heap[w.heap.size+1]?=some (.cells (tblA Z 29) 224 (0,0)):=by rw[←HB.out];exact Q1.out
 have q2:W3.drew.heap[w.heap.size+1+1]?=some (.cells (tblA T 29) 224 (0,0)):=by rw[←HB.out];exact Q2.out
 have q3:W3.drew.heap[W2.heap.size]?=some (.cells (tblA X 29) 224 (0,0)):=by rw[S2.out];exact Q3.out
 have P0:=Lib.hid q0;have P1:=Lib.hid q1;have P2:=Lib.hid q2;have P3:=Lib.hid q3;have N1:=Lib.hid hne1;have N2:=Lib.hid hne2;have N3:=Lib.hid hne3;have N4:=Lib.hid hne4;have N5:=Lib.hid hne5
 have FIN:Hid (∀V:World,V=(W3.drew.setRow w.heap.size (tblA T 29)).setRow (w.heap.size+1) (tblA X 29)→V.heap[w.heap.size]?=some (.cells (tblA T 29) 224 (0,0))∧V.heap[w.heap.size+1]?=some (.cells (tblA X 29) 224 (0,0))∧Below w.heap.size w V):=Lib.hid fun V hV=>by
  have r0:=setRow_heap _ _ _ (tblA T 29) _ _ q0
  have r1:=(setRow_other W3.drew w.heap.size _ (tblA T 29) hne1).trans q1
  rw[hV]
  refine⟨(setRow_other _ _ _ _ hne1.symm).trans r0,setRow_heap _ _ _ _ _ _ r1,?_⟩
  exact below_row9 (below_row9 (Below.drew B03.out) (Nat.le_refl _) _) (by omega) _
 clear q0 q1 q2 q3 hne1 hne2 hne3 hne4 hne5
 refine wp_region_any (by kernel_rfl) ?_
 change wpAny _ _ _ _ _ _ _ (World.drew _)
 refine wpAny_ready (rs:=[0,1]) (by kernel_rfl) (by simp) ?_
 refine AllReady.cons rfl (fun K hK=>?_) (AllReady.cons rfl (fun K hK=>?_) AllReady.nil)
 ·refine step_row rfl 224 _ rfl (w.heap.size+1+1) 0 rfl (tblL T 29) _ (row_range P2.out) Tryz.underlying224 rfl (szL29 T) ?_
  refine hK _ _ ?_
  clear hK K
  refine wpAny_ready (rs:=[1,2]) (by kernel_rfl) (by simp) ?_
  refine AllReady.cons rfl (fun K hK=>?_) (AllReady.cons rfl (fun K hK=>?_) AllReady.nil)
  ·refine step_row rfl 224 _ rfl W2.heap.size 0 rfl (tblL X 29) _ (row_range P3.out) Tryz.underlying224 rfl (szL29 X) ?_
   refine hK _ _ ?_
   clear hK K
   refine wpAny_ready (rs:=[2]) (by kernel_rfl) (by simp) ?_
   refine AllReady.cons rfl (fun K hK=>?_) AllReady.nil
   refine step_store_row rfl 224 _ _ rfl rfl w.heap.size (tblA T 29) rfl rfl 224 (tblA Z 29) P0.out (szA29 _) (by rw[tblA_size,tblA_size]) (tblA_one _ _) ?_
   refine hK _ _ ?_
   clear hK K
   refine wpAny_ready (rs:=[3]) (by kernel_rfl) (by simp) ?_
   refine AllReady.cons rfl (fun K hK=>?_) AllReady.nil
   refine step_store_row rfl 224 _ _ rfl rfl (w.heap.size+1) (tblA X 29) rfl rfl 224 (tblA Z 29) ((setRow_other _ _ _ _ N1.out).trans P1.out) (szA29 _) (by rw[tblA_size,tblA_size]) (tblA_one _ _) ?_
   refine hK _ _ ?_
   clear hK K
   refine wpAny_done (by kernel_rfl) ?_ _
   obtain⟨f1,f2,f3⟩:=FIN.out _ rfl
   obtain⟨V,hV⟩:∃V,V=(W3.drew.setRow w.heap.size (tblA T 29)).setRow (w.heap.size+1) (tblA X 29):=⟨_,rfl⟩
   rw[←hV]at f1 f2 f3⊢
   have G1:=Lib.hid f1;have G2:=Lib.hid f2;have G3:=Lib.hid f3
   clear f1 f2 f3 hV
   simp only[Act.put,List.getElem_toArray,List.getElem_cons_zero,List.getElem_cons_succ,List.setIfInBounds_toArray,List.set_cons_zero,List.set_cons_succ]
   go_wp2
   refine bodyPost_ret (cell_two29 rfl _ _ w.heap.size (w.heap.size+1) T X rfl rfl G1.out G2.out) rfl ⟨rfl,G3.out⟩
  ·refine step_store_row rfl 224 _ _ rfl rfl w.heap.size (tblA T 29) rfl rfl 224 (tblA Z 29) P0.out (szA29 _) (by rw[tblA_size,tblA_size]) (tblA_one _ _) ?_
   refine hK _ _ ?_
   clear hK K
   refine wpAny_ready (rs:=[1]) (by kernel_rfl) (by simp) ?_
   refine AllReady.cons rfl (fun K hK=>?_) AllReady.nil
   refine step_row rfl 224 _ rfl W2.heap.size 0 rfl (tblL X 29) _ (row_range ((setRow_other _ _ _ _ N4.out).trans P3.out)) Tryz.underlying224 rfl (szL29 X) ?_
   refine hK _ _ ?_
   clear hK K
   refine wpAny_ready (rs:=[3]) (by kernel_rfl) (by simp) ?_
   refine AllReady.cons rfl (fun K hK=>?_) AllReady.nil
   refine step_store_row rfl 224 _ _ rfl rfl (w.heap.size+1) (tblA X 29) rfl rfl 224 (tblA Z 29) ((setRow_other _ _ _ _ N1.out).trans P1.out) (szA29 _) (by rw[tblA_size,tblA_size]) (tblA_one _ _) ?_
   refine hK _ _ ?_
   clear hK K
   refine wpAny_done (by kernel_rfl) ?_ _
   obtain⟨f1,f2,f3⟩:=FIN.out _ rfl
   obtain⟨V,hV⟩:∃V,V=(W3.drew.setRow w.heap.size (tblA T 29)).setRow (w.heap.size+1) (tblA X 29):=⟨_,rfl⟩
   rw[←hV]at f1 f2 f3⊢
   have G1:=Lib.hid f1;have G2:=Lib.hid f2;have G3:=Lib.hid f3
   clear f1 f2 f3 hV
   simp only[Act.put,List.getElem_toArray,List.getElem_cons_zero,List.getElem_cons_succ,List.setIfInBounds_toArray,List.set_cons_zero,List.set_cons_succ]
   go_wp2
   refine bodyPost_ret (cell_two29 rfl _ _ w.heap.size (w.heap.size+1) T X rfl rfl G1.out G2.out) rfl ⟨rfl,G3.out⟩
 ·refine step_row rfl 224 _ rfl W2.heap.size 0 rfl (tblL X 29) _ (row_range P3.out) Tryz.underlying224 rfl (szL29 X) ?_
  refine hK _ _ ?_
  clear hK K
  refine wpAny_ready (rs:=[0]) (by kernel_rfl) (by simp) ?_
  refine AllReady.cons rfl (fun K hK=>?_) AllReady.nil
  refine step_row rfl 224 _ rfl (w.heap.size+1+1) 0 rfl (tblL T 29) _ (row_range P2.out) Tryz.underlying224 rfl (szL29 T) ?_
  refine hK _ _ ?_
  clear hK K
  refine wpAny_ready (rs:=[2]) (by kernel_rfl) (by simp) ?_
  refine AllReady.cons rfl (fun K hK=>?_) AllReady.nil
  refine step_store_row rfl 224 _ _ rfl rfl w.heap.size (tblA T 29) rfl rfl 224 (tblA Z 29) P0.out (szA29 _) (by rw[tblA_size,tblA_size]) (tblA_one _ _) ?_
  refine hK _ _ ?_
  clear hK K
  refine wpAny_ready (rs:=[3]) (by kernel_rfl) (by simp) ?_
  refine AllReady.cons rfl (fun K hK=>?_) AllReady.nil
  refine step_store_row rfl 224 _ _ rfl rfl (w.heap.size+1) (tblA X 29) rfl rfl 224 (tblA Z 29) ((setRow_other _ _ _ _ N1.out).trans P1.out) (szA29 _) (by rw[tblA_size,tblA_size]) (tblA_one _ _) ?_
  refine hK _ _ ?_
  clear hK K
  refine wpAny_done (by kernel_rfl) ?_ _
  obtain⟨f1,f2,f3⟩:=FIN.out _ rfl
  obtain⟨V,hV⟩:∃V,V=(W3.drew.setRow w.heap.size (tblA T 29)).setRow (w.heap.size+1) (tblA X 29):=⟨_,rfl⟩
  rw[←hV]at f1 f2 f3⊢
  have G1:=Lib.hid f1;have G2:=Lib.hid f2;have G3:=Lib.hid f3
  clear f1 f2 f3 hV
  simp only[Act.put,List.getElem_toArray,List.getElem_cons_zero,List.getElem_cons_succ,List.setIfInBounds_toArray,List.set_cons_zero,List.set_cons_succ]
  go_wp2
  refine bodyPost_ret (cell_two29 rfl _ _ w.heap.size (w.heap.size+1) T X rfl rfl G1.out G2.out) rfl ⟨rfl,G3.out⟩
theorem inforfars:(Tryz.prog.info? 151).map (fun i=>(i.zero,i.size))=some (some (.agg (tblA (fun _=>0) 30)),30):=by kernel_rfl
theorem szA30(T:Nat→Int):(Tryz.prog.info? 151).map (·.size)=some (tblA T 30).size:=by rw[tblA_size];kernel_rfl
theorem szL30(T:Nat→Int):(Tryz.prog.info? 151).map (·.size)=some (tblL T 30).length:=by rw[tblL_length];kernel_rfl
theorem cell_two30{fn:Func}{p q:Tmp}(h:fn.results=#[.cell p 151,.cell q 151])(tmps:Array Value)(w:World)(g g2:Nat)(T X:Nat→Int)(hp:tmps.getD p undef=.pointer (some ⟨g,0,none⟩))(hq:tmps.getD q undef=.pointer (some ⟨g2,0,none⟩))
  (ht:w.heap[g]?=some (.cells (tblA T 30) 151 (0,0))) (ht2:w.heap[g2]?=some (.cells (tblA X 30) 151 (0,0))):
  (results fn tmps).run Tryz.prog w=.ok (.tuple #[.agg (tblA T 30),.agg (tblA X 30)]) w:=by
 have hp':tmps[p]?.getD undef=.pointer (some ⟨g,0,none⟩):=by simpa using hp
 have hq':tmps[q]?.getD undef=.pointer (some ⟨g2,0,none⟩):=by simpa using hq
 have hl:=run_loadVar_row (P:=Tryz.prog) w g 151 151 _ (0,0) _ ht Tryz.underlying151 rfl (szA30 T)
 have hl2:=run_loadVar_row (P:=Tryz.prog) w g2 151 151 _ (0,0) _ ht2 Tryz.underlying151 rfl (szA30 X)
 simp[results,h,hp',hq',asAddr,hl,hl2]
theorem flatfarT:(([1,2,3,4,5,7,9,13,17,25,33,49,65,97,129,193,257,385,513,769,1025,1537,2049,3073,4097,6145,8193,12289,16385,24577]:List Int).map (Value.int .i64)).toArray=tblA (fun i=>(farT i:Int)) 30:=by kernel_rfl
theorem flatfarX:(([0,0,0,0,1,1,2,2,3,3,4,4,5,5,6,6,7,7,8,8,9,9,10,10,11,11,12,12,13,13]:List Int).map (Value.int .i64)).toArray=tblA (fun i=>(farX i:Int)) 30:=by kernel_rfl
theorem rfars_any(w:World):Calls Tryz.prog 154 #[] w fun e w'=>e=.returned (.tuple #[.agg (tblA (fun i=>(farT i:Int)) 30),.agg (tblA (fun i=>(farX i:Int)) 30)])∧Below w.heap.size w w':=by
 have hz:=(zero_of_info inforfars).1
 obtain⟨T,hT⟩:∃T:Nat→Int,T=fun i=>(farT i:Int):=⟨_,rfl⟩
 obtain⟨X,hX⟩:∃X:Nat→Int,X=fun i=>(farX i:Int):=⟨_,rfl⟩
 obtain⟨Z,hZ⟩:∃Z:Nat→Int,Z=fun _=>0:=⟨_,rfl⟩
 rw[←hT,←hX]
 rw[←hZ]at hz
 have f1:=flatfarT
 have f2:=flatfarX
 rw[←hT]at f1
 rw[←hX]at f2
 obtain⟨b,hb⟩:∃b,b=w.heap.size:=⟨_,rfl⟩
 obtain⟨W1,hW1⟩:∃W1,W1=(w.alloc (.cells (tblA Z 30) 151)).alloc (.cells (tblA Z 30) 151):=⟨_,rfl⟩
 obtain⟨W2,hW2⟩:∃W2,W2=mkV W1 (tblA Z 30) (tblA T 30) 151:=⟨_,rfl⟩
 obtain⟨W3,hW3⟩:∃W3,W3=mkV W2 (tblA Z 30) (tblA X 30) 151:=⟨_,rfl⟩
 have s1:W1.heap.size=b+2:=by rw[hW1,hb];simp
 have s2:W2.heap.size=b+3:=by rw[hW2,mkV_size,s1]
 have b1:Below w.heap.size w W1:=by rw[hW1];exact((Below.refl _ _).alloc (Nat.le_refl _) _).alloc (by simp) _
 have b2:Below W1.heap.size W1 W2:=by rw[hW2];exact mkV_below _ _ _ _
 have b3:Below W2.heap.size W2 W3:=by rw[hW3];exact mkV_below _ _ _ _
 have b03:Below w.heap.size w W3:=(b1.trans (b2.mono (by omega))).trans (b3.mono (by omega))
 have r0:W1.heap[b]?=some (.cells (tblA Z 30) 151 (0,0)):=by rw[hW1,hb];exact(Below.heap_alloc _ _ _ (by simp)).trans (heap_alloc_new w _)
 have r1:W1.heap[b+1]?=some (.cells (tblA Z 30) 151 (0,0)):=by
  have:=heap_alloc_new (w.alloc (.cells (tblA Z 30) 151)) (.cells (tblA Z 30) 151)
  rw[World.size_alloc,←hW1,←hb]at this;exact this
 have r2:W2.heap[b+2]?=some (.cells (tblA T 30) 151 (0,0)):=by
  have:=mkV_row W1 (tblA Z 30) (tblA T 30) 151
  rw[s1,←hW2]at this;exact this
 have r3:W3.heap[b+3]?=some (.cells (tblA X 30) 151 (0,0)):=by
  have:=mkV_row W2 (tblA Z 30) (tblA X 30) 151
  rw[s2,←hW3]at this;exact this
 have q0:=(b3.block b (by omega)).trans ((b2.block b (by omega)).trans r0)
 have q1:=(b3.block (b+1) (by omega)).trans ((b2.block (b+1) (by omega)).trans r1)
 have q2:=(b3.block (b+2) (by omega)).trans r2
 have n2:(W1.alloc (.cells (tblA Z 30) 151)).heap[w.heap.size+1+1]?=some (.cells (tblA Z 30) 151 (0,0)):=by
  have:=heap_alloc_new W1 (.cells (tblA Z 30) 151)
  rw[s1,hb]at this;exact this
 have v2:(W1.alloc (.cells (tblA Z 30) 151)).setRow (w.heap.size+1+1) (tblA T 30)=W2:=by
  rw[hW2];unfold mkV;rw[s1,hb]
 have HN2:=Lib.hid n2;have HV2:=Lib.hid v2
 have F1:=Lib.hid f1;have F2:=Lib.hid f2;have HW1:=Lib.hid hW1;have HW2:=Lib.hid hW2;have HW3:=Lib.hid hW3;have HB:=Lib.hid hb;have Q0:=Lib.hid q0;have Q1:=Lib.hid q1;have Q2:=Lib.hid q2;have Q3:=Lib.hid r3;have B03:=Lib.hid b03;have S1:=Lib.hid s1;have S2:=Lib.hid s2
 clear n2 v2 f1 f2 hW1 hW2 hW3 hb q0 q1 q2 r0 r1 r2 r3 b1 b2 b3 b03 s1 s2 hT hX hZ
 go_enter Tryz.func154,Tryz.ntmps154
 go_wp2_with (first
  |(refine wpList_buildFlatArrTo rfl 151 3 30 _ rfl .i64 [1,2,3,4,5,7,9,13,17,25,33,49,65,97,129,193,257,385,513,769,1025,1537,2049,3073,4097,6145,8193,12289,16385,24577] (some 4) rfl Tryz.underlying151 (by kernel_rfl) (by kernel_rfl) rfl ?_;rw[F1.out])
  |(refine wpList_buildFlatArrTo rfl 151 3 30 _ rfl .i64 [0,0,0,0,1,1,2,2,3,3,4,4,5,5,6,6,7,7,8,8,9,9,10,10,11,11,12,12,13,13] (some 5) rfl Tryz.underlying151 (by kernel_rfl) (by kernel_rfl) rfl ?_;rw[F2.out])
  |(rw[←HW1.out];refine wpList_store_rowTo rfl _ _ _ rfl rfl (w.heap.size+1+1) (tblA T 30) rfl rfl 151 (tblA Z 30) HN2.out (szA30 _) (by rw[tblA_size,tblA_size]) (tblA_one _ _) ?_;rw[HV2.out])
  |(refine wpList_store_rowTo rfl _ _ _ rfl rfl W2.heap.size (tblA X 30) rfl rfl 151 (tblA Z 30) (heap_alloc_new W2 _) (szA30 _) (by rw[tblA_size,tblA_size]) (tblA_one _ _) ?_;change wpList _ _ _ _ _ (mkV W2 (tblA Z 30) (tblA X 30) 151);rw[←HW3.out]))
 have hne1:w.heap.size+1≠w.heap.size:=by omega
 have hne2:w.heap.size+1+1≠w.heap.size:=by omega
 have hne3:w.heap.size+1+1≠w.heap.size+1:=by omega
 have hne4:W2.heap.size≠w.heap.size:=by have:=S2.out;have:=HB.out;omega
 have hne5:W2.heap.size≠w.heap.size+1:=by have:=S2.out;have:=HB.out;omega
 have q0:W3.drew.heap[w.heap.size]?=some (.cells (tblA Z 30) 151 (0,0)):=by rw[←HB.out];exact Q0.out
 have q1:W3.drew.heap[w.heap.size+1]?=some (.cells (tblA Z 30) 151 (0,0)):=by rw[←HB.out];exact Q1.out
 have q2:W3.drew.heap[w.heap.size+1+1]?=some (.cells (tblA T 30) 151 (0,0)):=by rw[←HB.out];exact Q2.out
 have q3:W3.drew.heap[W2.heap.size]?=some (.cells (tblA X 30) 151 (0,0)):=by rw[S2.out];exact Q3.out
 have P0:=Lib.hid q0;have P1:=Lib.hid q1;have P2:=Lib.hid q2;have P3:=Lib.hid q3;have N1:=Lib.hid hne1;have N2:=Lib.hid hne2;have N3:=Lib.hid hne3;have N4:=Lib.hid hne4;have N5:=Lib.hid hne5
 have FIN:Hid (∀V:World,V=(W3.drew.setRow w.heap.size (tblA T 30)).setRow (w.heap.size+1) (tblA X 30)→V.heap[w.heap.size]?=some (.cells (tblA T 30) 151 (0,0))∧V.heap[w.heap.size+1]?=some (.cells (tblA X 30) 151 (0,0))∧Below w.heap.size w V):=Lib.hid fun V hV=>by
  have r0:=setRow_heap _ _ _ (tblA T 30) _ _ q0
  have r1:=(setRow_other W3.drew w.heap.size _ (tblA T 30) hne1).trans q1
  rw[hV]
  refine⟨(setRow_other _ _ _ _ hne1.symm).trans r0,setRow_heap _ _ _ _ _ _ r1,?_⟩
  exact below_row9 (below_row9 (Below.drew B03.out) (Nat.le_refl _) _) (by omega) _
 clear q0 q1 q2 q3 hne1 hne2 hne3 hne4 hne5
 refine wp_region_any (by kernel_rfl) ?_
 change wpAny _ _ _ _ _ _ _ (World.drew _)
 refine wpAny_ready (rs:=[0,1]) (by kernel_rfl) (by simp) ?_
 refine AllReady.cons rfl (fun K hK=>?_) (AllReady.cons rfl (fun K hK=>?_) AllReady.nil)
 ·refine step_row rfl 151 _ rfl (w.heap.size+1+1) 0 rfl (tblL T 30) _ (row_range P2.out) Tryz.underlying151 rfl (szL30 T) ?_
  refine hK _ _ ?_
  clear hK K
  refine wpAny_ready (rs:=[1,2]) (by kernel_rfl) (by simp) ?_
  refine AllReady.cons rfl (fun K hK=>?_) (AllReady.cons rfl (fun K hK=>?_) AllReady.nil)
  ·refine step_row rfl 151 _ rfl W2.heap.size 0 rfl (tblL X 30) _ (row_range P3.out) Tryz.underlying151 rfl (szL30 X) ?_
   refine hK _ _ ?_
   clear hK K
   refine wpAny_ready (rs:=[2]) (by kernel_rfl) (by simp) ?_
   refine AllReady.cons rfl (fun K hK=>?_) AllReady.nil
   refine step_store_row rfl 151 _ _ rfl rfl w.heap.size (tblA T 30) rfl rfl 151 (tblA Z 30) P0.out (szA30 _) (by rw[tblA_size,tblA_size]) (tblA_one _ _) ?_
   refine hK _ _ ?_
   clear hK K
   refine wpAny_ready (rs:=[3]) (by kernel_rfl) (by simp) ?_
   refine AllReady.cons rfl (fun K hK=>?_) AllReady.nil
   refine step_store_row rfl 151 _ _ rfl rfl (w.heap.size+1) (tblA X 30) rfl rfl 151 (tblA Z 30) ((setRow_other _ _ _ _ N1.out).trans P1.out) (szA30 _) (by rw[tblA_size,tblA_size]) (tblA_one _ _) ?_
   refine hK _ _ ?_
   clear hK K
   refine wpAny_done (by kernel_rfl) ?_ _
   obtain⟨f1,f2,f3⟩:=FIN.out _ rfl
   obtain⟨V,hV⟩:∃V,V=(W3.drew.setRow w.heap.size (tblA T 30)).setRow (w.heap.size+1) (tblA X 30):=⟨_,rfl⟩
   rw[←hV]at f1 f2 f3⊢
   have G1:=Lib.hid f1;have G2:=Lib.hid f2;have G3:=Lib.hid f3
   clear f1 f2 f3 hV
   simp only[Act.put,List.getElem_toArray,List.getElem_cons_zero,List.getElem_cons_succ,List.setIfInBounds_toArray,List.set_cons_zero,List.set_cons_succ]
   go_wp2
   refine bodyPost_ret (cell_two30 rfl _ _ w.heap.size (w.heap.size+1) T X rfl rfl G1.out G2.out) rfl ⟨rfl,G3.out⟩
  ·refine step_store_row rfl 151 _ _ rfl rfl w.heap.size (tblA T 30) rfl rfl 151 (tblA Z 30) P0.out (szA30 _) (by rw[tblA_size,tblA_size]) (tblA_one _ _) ?_
   refine hK _ _ ?_
   clear hK K
   refine wpAny_ready (rs:=[1]) (by kernel_rfl) (by simp) ?_
   refine AllReady.cons rfl (fun K hK=>?_) AllReady.nil
   refine step_row rfl 151 _ rfl W2.heap.size 0 rfl (tblL X 30) _ (row_range ((setRow_other _ _ _ _ N4.out).trans P3.out)) Tryz.underlying151 rfl (szL30 X) ?_
   refine hK _ _ ?_
   clear hK K
   refine wpAny_ready (rs:=[3]) (by kernel_rfl) (by simp) ?_
   refine AllReady.cons rfl (fun K hK=>?_) AllReady.nil
   refine step_store_row rfl 151 _ _ rfl rfl (w.heap.size+1) (tblA X 30) rfl rfl 151 (tblA Z 30) ((setRow_other _ _ _ _ N1.out).trans P1.out) (szA30 _) (by rw[tblA_size,tblA_size]) (tblA_one _ _) ?_
   refine hK _ _ ?_
   clear hK K
   refine wpAny_done (by kernel_rfl) ?_ _
   obtain⟨f1,f2,f3⟩:=FIN.out _ rfl
   obtain⟨V,hV⟩:∃V,V=(W3.drew.setRow w.heap.size (tblA T 30)).setRow (w.heap.size+1) (tblA X 30):=⟨_,rfl⟩
   rw[←hV]at f1 f2 f3⊢
   have G1:=Lib.hid f1;have G2:=Lib.hid f2;have G3:=Lib.hid f3
   clear f1 f2 f3 hV
   simp only[Act.put,List.getElem_toArray,List.getElem_cons_zero,List.getElem_cons_succ,List.setIfInBounds_toArray,List.set_cons_zero,List.set_cons_succ]
   go_wp2
   refine bodyPost_ret (cell_two30 rfl _ _ w.heap.size (w.heap.size+1) T X rfl rfl G1.out G2.out) rfl ⟨rfl,G3.out⟩
 ·refine step_row rfl 151 _ rfl W2.heap.size 0 rfl (tblL X 30) _ (row_range P3.out) Tryz.underlying151 rfl (szL30 X) ?_
  refine hK _ _ ?_
  clear hK K
  refine wpAny_ready (rs:=[0]) (by kernel_rfl) (by simp) ?_
  refine AllReady.cons rfl (fun K hK=>?_) AllReady.nil
  refine step_row rfl 151 _ rfl (w.heap.size+1+1) 0 rfl (tblL T 30) _ (row_range P2.out) Tryz.underlying151 rfl (szL30 T) ?_
  refine hK _ _ ?_
  clear hK K
  refine wpAny_ready (rs:=[2]) (by kernel_rfl) (by simp) ?_
  refine AllReady.cons rfl (fun K hK=>?_) AllReady.nil
  refine step_store_row rfl 151 _ _ rfl rfl w.heap.size (tblA T 30) rfl rfl 151 (tblA Z 30) P0.out (szA30 _) (by rw[tblA_size,tblA_size]) (tblA_one _ _) ?_
  refine hK _ _ ?_
  clear hK K
  refine wpAny_ready (rs:=[3]) (by kernel_rfl) (by simp) ?_
  refine AllReady.cons rfl (fun K hK=>?_) AllReady.nil
  refine step_store_row rfl 151 _ _ rfl rfl (w.heap.size+1) (tblA X 30) rfl rfl 151 (tblA Z 30) ((setRow_other _ _ _ _ N1.out).trans P1.out) (szA30 _) (by rw[tblA_size,tblA_size]) (tblA_one _ _) ?_
  refine hK _ _ ?_
  clear hK K
  refine wpAny_done (by kernel_rfl) ?_ _
  obtain⟨f1,f2,f3⟩:=FIN.out _ rfl
  obtain⟨V,hV⟩:∃V,V=(W3.drew.setRow w.heap.size (tblA T 30)).setRow (w.heap.size+1) (tblA X 30):=⟨_,rfl⟩
  rw[←hV]at f1 f2 f3⊢
  have G1:=Lib.hid f1;have G2:=Lib.hid f2;have G3:=Lib.hid f3
  clear f1 f2 f3 hV
  simp only[Act.put,List.getElem_toArray,List.getElem_cons_zero,List.getElem_cons_succ,List.setIfInBounds_toArray,List.set_cons_zero,List.set_cons_succ]
  go_wp2
  refine bodyPost_ret (cell_two30 rfl _ _ w.heap.size (w.heap.size+1) T X rfl rfl G1.out G2.out) rfl ⟨rfl,G3.out⟩
end Go.Proofs.YtgokdgcmkcmjeaaGreat
