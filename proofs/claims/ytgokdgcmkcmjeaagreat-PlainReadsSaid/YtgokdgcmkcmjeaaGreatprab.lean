/-
  Words and walks.
-/
import Derived.BigRegion
import Derived.Lib.AppendZeros
import Derived.LoopN
import Derived.Deep.MidRow
import Derived.Deep.SlicePairs
import Derived.Lib.SmallJoins
import Derived.BigQuiet
import Derived.Deep.RegionLaw
import Derived.Shelf.Abstract
import Derived.Great.BuildSlice
import Derived.Laws.Tables
import Derived.StillTailTactics
import Derived.Test.YtgokdgcmkcmjeaaGreatpraa
set_option maxRecDepth 100000
set_option maxHeartbeats 16000000
namespace Go.Proofs.YtgokdgcmkcmjeaaGreat
open Go.RowKit
def Clean(f:Nat→Nat)(k:Nat):Prop:=(∀j,f j<256)∧(∀j,k/8<j→f j=0)∧f (k/8)<2^(k%8)
end Go.Proofs.YtgokdgcmkcmjeaaGreat
namespace Go.Proofs.YtgokdgcmkcmjeaaGreat
def fixA(i:Nat):Nat:=if 256≤i∧i≤279 then 7 else if 144≤i∧i≤255 then 9 else 8
def fixB(_:Nat):Nat:=5
def ordN(i:Nat):Nat:=[16,17,18,0,8,7,9,6,10,5,11,4,12,3,13,2,14,1,15].getD i 0
end Go.Proofs.YtgokdgcmkcmjeaaGreat
namespace Go.Proofs.YtgokdgcmkcmjeaaGreat
open Go.RowKit
def ByR(w:World)(B:Nat)(A:Option Addr)(n c:Nat)(f:Nat→Nat):Prop:=RdB w B A n f∧(A=none→c=0)∧n≤c∧c≤maxLen
theorem ByR.below{w w':World}{B B' n c:Nat}{A:Option Addr}{f:Nat→Nat}(h:ByR w B A n c f)(hb:Below B' w w')(hB:B≤B'):ByR w' B A n c f:=⟨h.1.below hb hB,h.2⟩
theorem ByR.more{w:World}{B B' n c:Nat}{A:Option Addr}{f:Nat→Nat}(h:ByR w B A n c f)(hB:B≤B'):ByR w B' A n c f:=⟨h.1.more hB,h.2⟩
theorem ByR.nil(w:World)(B:Nat)(f:Nat→Nat)(hf:∀j,f j<256):ByR w B none 0 0 f:=⟨⟨hf,fun h=>by omega⟩,fun _=>rfl,Nat.le_refl _,by unfold maxLen;omega⟩
theorem ByR.of_own{w:World}{base n c:Nat}{A:Option Addr}{f:Nat→Nat}(h:w.ownsRow base 5 1 (.slice A n c) n (bytesL n f))(hf:∀j,f j<256):ByR w w.heap.size A n c f:=by
 refine⟨RdB.of_own h hf,?_⟩
 rcases h.2 with⟨hv,h0⟩|⟨g,cap,cur,hv,_,_,h1,h2,_⟩
 ·injection hv with h3 h4 h5
  exact⟨fun _=>h5,by omega,by unfold maxLen;omega⟩
 ·injection hv with h3 h4 h5
  exact⟨(fun h=>by rw[h]at h3;cases h3),by omega,by omega⟩
theorem open_byr{H:Type}{enc:TypeId×Value→H}{W:World}{base:Nat}{sp:Nat→Bool}{hd:Bool}{a:Option Addr}{len cap:Nat}{d:DataW H}{p:List MemPlace}
  (h:∃fuel,DataW.trod enc Tryz.prog W base sp hd fuel 22 (Value.slice a len cap).cells.toList=some (d,p)):∃f,ByR W W.heap.size a len cap f:=by
 obtain⟨f,h1,h2,h3,h4⟩:=open_bytes h
 exact⟨f,h1,h2,h3,h4⟩
theorem ByR.drop{w:World}{B n c p:Nat}{a:Addr}{A2:Option Addr}{f:Nat→Nat}(h:ByR w B (some a) n c f)(hp:p≤n)(hA:(if c=p then some a else some (a.add p))=A2):ByR w B A2 (n-p) (c-p) (fun j=>f (j+p)):=by
 obtain⟨h1,h2,h3,h4⟩:=h
 refine⟨⟨fun j=>h1.1 _,fun hn=>?_⟩,fun h=>?_,by omega,by omega⟩
 ·obtain⟨b,o,e,hb,hcc⟩:=h1.2 (by omega)
  cases e
  rw[if_neg (by omega)]at hA
  have e:(⟨b,o,none⟩:Addr).add p=⟨b,o+p,none⟩:=by unfold Addr.add;split<;>simp_all
  rw[e]at hA
  refine⟨b,o+p,hA.symm,hb,fun j hj=>?_⟩
  have:=hcc (j+p) (by omega)
  rw[show o+p+j=o+(j+p) by omega]
  exact this
 ·rw[h]at hA;split at hA<;>cases hA
theorem bytesL_ext{n:Nat}{f g:Nat→Nat}(h:∀j,j<n→f j=g j):bytesL n f=bytesL n g:=by
 unfold bytesL
 exact List.map_congr_left fun j hj=>by rw[h j (List.mem_range.1 hj)]
theorem run_oneB(w:World)(base:Nat)(A:Option Addr)(n c:Nat)(F:Nat→Nat)(hF:∀j,F j<256)(hown:w.ownsRow base 5 1 (.slice A n c) n (bytesL n F))(x:Nat)(hx:x=F n)(hn:n≤1000000000)(hbase:base≤w.heap.size):
  ∃A' c' w',(Builtin.append_ #[22,22] 22 #[.slice A n c,.slice (some ⟨w.heap.size,0,none⟩) 1 1]).run Tryz.prog (w.alloc (.cells #[.int .u8 (x:Int)] 5))=.ok (.slice A' (n+1) c') w'∧
   w'.ownsRow base 5 1 (.slice A' (n+1) c') (n+1) (bytesL (n+1) F)∧Below base w w':=by
 subst hx
 have hb1:Below base w (w.alloc (.cells #[.int .u8 (F n:Int)] 5)):=(Below.refl base w).alloc hbase _
 have hr:RdB (w.alloc (.cells #[.int .u8 (F n:Int)] 5)) (w.alloc (.cells #[.int .u8 (F n:Int)] 5)).heap.size (some ⟨w.heap.size,0,none⟩) 1 (fun _=>F n):=
  ⟨fun _=>hF n,fun _=>⟨w.heap.size,0,rfl,by simp,fun j hj=>by
   obtain rfl:j=0:=by omega
   rw[cell_of_row _ _ _ _ _ (0,0) (heap_alloc_new w _)];rfl⟩⟩
 obtain⟨A',c',w',h1,h2,h3⟩:=run_more (w.alloc (.cells #[.int .u8 (F n:Int)] 5)) base _ (.slice A n c) n F (hown.alloc _) (some ⟨w.heap.size,0,none⟩) 1 1 (fun _=>F n) hr (by omega) 22 (fun h=>by cases h) (Nat.le_trans hbase hb1.size)
 refine⟨A',c',w',h1,?_,hb1.trans h3⟩
 rw[←bytesL_ext (f:=cat F n (fun _=>F n)) (g:=F)]
 ·exact h2
 ·intro j hj
  unfold cat
  split
  ·rfl
  ·rw[show j=n by omega]
theorem make_cap8(n:Nat)(h:n≤1000000000):∀u:World,(Instr.makeSlice 22 (.int .i64 0) (.int .i64 (n:Int))).run Tryz.prog u=
   .ok (.slice (some ⟨u.heap.size,0,none⟩) 0 n) (u.alloc (.cells (madeCells #[.int .u8 0] n) 5)):=fun u=>by
 obtain⟨i0,hi,hz0,hz1,hz2⟩:=info_parts infoU8
 have h:=run_make (P:=Tryz.prog) u 22 5 i0 _ Tryz.underlying22 hi hz0 .i64 .i64 0 (n:Int) (by omega) (by omega) (by rw[hz2];omega) (by omega)
 rw[Int.toNat_natCast,hz1,Nat.mul_one]at h
 exact h
theorem own_madeB(u:World)(n:Nat)(h:n≤1000000000)(F:Nat→Nat):(u.alloc (.cells (madeCells #[.int .u8 0] n) 5)).ownsRow u.heap.size 5 1 (.slice (some ⟨u.heap.size,0,none⟩) 0 n) 0 (bytesL 0 F):=
 World.ownsRow_made u _ n (Nat.le_refl _) (by unfold maxLen;omega) (by simp[madeCells])
def sumU(n:Nat→Nat):Nat→Nat
 |0=>0
 |k+1=>sumU n k+n k
def catU(n:Nat→Nat)(f:Nat→Nat→Nat):Nat→Nat→Nat
 |0,_=>0
 |k+1,j=>cat (catU n f k) (sumU n k) (f k) j
theorem sumU_mono(n:Nat→Nat){a b:Nat}(h:a≤b):sumU n a≤sumU n b:=by
 induction h with
 |refl=>exact Nat.le_refl _
 |step _ ih=>exact Nat.le_trans ih (Nat.le_add_right _ _)
def RowsB(w:World)(B:Nat)(A:Option Addr)(k:Nat)(n:Nat→Nat)(f:Nat→Nat→Nat):Prop:=
 0<k→∃b o,A=some ⟨b,o,none⟩∧b<B∧∀i,i<k→∃Ai ci,w.cell? ⟨b,o+i,none⟩=some (.slice Ai (n i) ci)∧RdB w B Ai (n i) (f i)∧(Ai=none→ci=0)
theorem RowsB.below{w w':World}{B B' k:Nat}{A:Option Addr}{n:Nat→Nat}{f:Nat→Nat→Nat}(h:RowsB w B A k n f)(hb:Below B' w w')(hB:B≤B'):RowsB w' B A k n f:=fun hk=>by
 obtain⟨b,o,h1,h2,h3⟩:=h hk
 refine⟨b,o,h1,h2,fun i hi=>?_⟩
 obtain⟨Ai,ci,q1,q2,q3⟩:=h3 i hi
 exact⟨Ai,ci,by rw[hb.cell (p:=⟨b,o+i,none⟩) (by show b<B';omega)];exact q1,q2.below hb hB,q3⟩
end Go.Proofs.YtgokdgcmkcmjeaaGreat
namespace Go.Proofs.YtgokdgcmkcmjeaaGreat
open Go.RowKit Go.ChangeShapes Go.WideShapes Go.ChangeAt Go.Joins
theorem own_keepG{w w':World}{base:Nat}{e:TypeId}{sz:Nat}{v:Value}{n:Nat}{xs:List Value}(h:w.ownsRow base e sz v n xs)(hb:Below w.heap.size w w'):w'.ownsRow base e sz v n xs:=by
 obtain⟨h1,h2⟩:=h
 refine⟨h1,?_⟩
 rcases h2 with h2|⟨g,cap,cur,hv,hg,hh,r⟩
 ·exact .inl h2
 ·exact .inr ⟨g,cap,cur,hv,hg,(hb.block g (Array.getElem?_eq_some_iff.1 hh).1).trans hh,r⟩
end Go.Proofs.YtgokdgcmkcmjeaaGreat
namespace Go.Proofs.YtgokdgcmkcmjeaaGreat
open Go.RowKit
theorem step_call{ops:Array Oper}{o:Oper}{a:Act}{w:World}{K:Act→World→Prop}{Q:Exit→Act→World→Prop}{E:Prop}(hgd:o.guard=none)(f:FuncId)(xs:Array Operand)(ts:Array TypeId)
  (ho:o.op=.call {callee:=.value (.func f),args:=xs,argTypes:=ts}) (eg:∀args w,(callFunc f args).run Tryz.prog w=.ok (.enter f args) w) (args:Array Value) (hx:xs.map a.eval=args) {R:Ending→World→Prop} (hc:Calls Tryz.prog f args w R)
  (h:∀e w',R e w'→∃v,e=.returned v∧K (a.put o.dst v) w'):
  if Region.wanted o (yielded ops a.tmps)=true then Oper.wp Tryz.prog o a w K Q else E:=by
 have hw:Region.wanted o (yielded ops a.tmps)=true:=by simp[Region.wanted,hgd]
 rw[if_pos hw]
 unfold Oper.wp
 have hrun:(execOp a.eval o).run Tryz.prog w=.ok (.enter f args) w:=by
  simp[execOp,ho,resolve,invoke,hx,go_sem,eg,Deferred.ofValue]
 rw[hrun]
 refine hc.mono fun e w' hr=>?_
 obtain⟨v,rfl,hk⟩:=h e w' hr
 exact hk
theorem step_call_on{ops:Array Oper}{o:Oper}{a:Act}{w:World}{K:Act→World→Prop}{Q:Exit→Act→World→Prop}{E:Prop}(hw:Region.wanted o (yielded ops a.tmps)=true)(f:FuncId)(xs:Array Operand)(ts:Array TypeId)
  (ho:o.op=.call {callee:=.value (.func f),args:=xs,argTypes:=ts}) (eg:∀args w,(callFunc f args).run Tryz.prog w=.ok (.enter f args) w) (args:Array Value) (hx:xs.map a.eval=args) {R:Ending→World→Prop} (hc:Calls Tryz.prog f args w R)
  (h:∀e w',R e w'→∃v,e=.returned v∧K (a.put o.dst v) w'):
  if Region.wanted o (yielded ops a.tmps)=true then Oper.wp Tryz.prog o a w K Q else E:=by
 rw[if_pos hw]
 unfold Oper.wp
 have hrun:(execOp a.eval o).run Tryz.prog w=.ok (.enter f args) w:=by
  simp[execOp,ho,resolve,invoke,hx,go_sem,eg,Deferred.ofValue]
 rw[hrun]
 refine hc.mono fun e w' hr=>?_
 obtain⟨v,rfl,hk⟩:=h e w' hr
 exact hk
theorem step_row{ops:Array Oper}{o:Oper}{a:Act}{w:World}{K:Act→World→Prop}{Q:Exit→Act→World→Prop}{E:Prop}(hgd:o.guard=none)(ty:TypeId)(x:Operand)(ho:o.op=.load ty x)(b k:Nat)(hx:a.eval x=.pointer (some ⟨b,k,none⟩))(cs:List Value)(d:TypeDesc)
  (hS:w.rangeAt b k cs) (hu:Tryz.prog.underlying ty=some d) (hd:d.isRow=true) (hi:(Tryz.prog.info? ty).map (·.size)=some cs.length) (h:K (a.put o.dst (.agg cs.toArray)) w):
  if Region.wanted o (yielded ops a.tmps)=true then Oper.wp Tryz.prog o a w K Q else E:=by
 rw[if_pos (by simp[Region.wanted,hgd])]
 unfold Oper.wp execOp
 simp only[ho,hx,Instr.loadAt,Instr.sureAddr,Sem.run_bind,Sem.run_pure,Result.andThen_ok,run_loadVar_mid w b k ty cs d hS hu hd hi]
 exact h
end Go.Proofs.YtgokdgcmkcmjeaaGreat
namespace Go.Proofs.YtgokdgcmkcmjeaaGreat
open Go.RowKit
theorem step_store_row{ops:Array Oper}{o:Oper}{a:Act}{w:World}{K:Act→World→Prop}{Q:Exit→Act→World→Prop}{E:Prop}(hgd:o.guard=none)(ty:TypeId)(x y:Operand)(ho:o.op=.store ty x y)(hdst:o.dst=none)
  (g:Nat) (cells:Array Value) (hx:a.eval x=.pointer (some ⟨g,0,none⟩)) (hy:a.eval y=.agg cells)
  (t:TypeId) (old:Array Value) (hg:w.heap[g]?=some (.cells old t (0,0))) (hi:(Tryz.prog.info? ty).map (·.size)=some cells.size) (hold:old.size=cells.size) (h1:cells.all (·.oneCell')=true) (h:K a (w.setRow g cells)):
  if Region.wanted o (yielded ops a.tmps)=true then Oper.wp Tryz.prog o a w K Q else E:=by
 rw[if_pos (by simp[Region.wanted,hgd])]
 unfold Oper.wp execOp
 have:=run_storeVar_row (P:=Tryz.prog) w g t ty old cells hg hi hold h1
 simp[ho,hx,hy,Instr.storeAt,Instr.sureAddr,this,Result.andThen]
 show K (a.put o.dst undef) (w.setRow g cells)
 rw[show a.put o.dst undef=a by rw[hdst];rfl]
 exact h
def tblL(T:Nat→Int)(n:Nat):List Value:=(List.range n).map fun i=>.int .i64 (T i)
def tblA(T:Nat→Int)(n:Nat):Array Value:=(tblL T n).toArray
theorem tblA_size(T:Nat→Int)(n:Nat):(tblA T n).size=n:=by simp[tblA,tblL]
theorem tblL_length(T:Nat→Int)(n:Nat):(tblL T n).length=n:=by simp[tblL]
theorem tblA_one(T:Nat→Int)(n:Nat):(tblA T n).all (·.oneCell')=true:=
 all_oneCell_toArray fun u hu=>by
  unfold tblL at hu
  obtain⟨i,_,rfl⟩:=List.mem_map.1 hu;rfl
theorem tblA_get(T:Nat→Int)(n i:Nat)(h:i<n):(tblA T n)[i]?=some (.int .i64 (T i)):=by simp[tblA,tblL,h]
theorem tbl_ext{T T':Nat→Int}{n:Nat}(h:∀i,i<n→T i=T' i):tblA T n=tblA T' n:=by
 unfold tblA tblL
 congr 1
 exact List.map_congr_left fun i hi=>by rw[h i (List.mem_range.1 hi)]
theorem tbl_set(T:Nat→Int)(n i:Nat)(x:Int):(tblA T n).setIfInBounds i (.int .i64 x)=tblA (fun k=>if k=i then x else T k) n:=by
 apply Array.ext_getElem?
 intro k
 rw[Array.getElem?_setIfInBounds,tblA_size]
 rcases Nat.lt_or_ge k n with h|h
 ·rw[tblA_get _ _ _ h]
  by_cases e:i=k
  ·subst e;rw[if_pos rfl,if_pos h,tblA_get _ _ _ h,if_pos rfl]
  ·rw[if_neg e,tblA_get _ _ _ h,if_neg (fun g:k=i=>e g.symm)]
 ·have h1:(tblA T n)[k]?=none:=Array.getElem?_eq_none (by rw[tblA_size];exact h)
  have h2:(tblA (fun k=>if k=i then x else T k) n)[k]?=none:=Array.getElem?_eq_none (by rw[tblA_size];exact h)
  rw[h1,h2]
  by_cases e:i=k
  ·subst e;rw[if_pos rfl,if_neg (by omega)]
  ·rw[if_neg e]
theorem tbl_cell{w:World}{g:Nat}{T:Nat→Int}{n:Nat}{t:TypeId}(hg:w.heap[g]?=some (.cells (tblA T n) t (0,0))){i:Nat}(h:i<n):w.cell? ⟨g,i,none⟩=some (.int .i64 (T i)):=
 (cell_of_row w g _ _ _ (0,0) hg).trans (tblA_get T n i h)
end Go.Proofs.YtgokdgcmkcmjeaaGreat
