/-
  Words and walks.
-/
import Derived.RangeFuncFrom
import Derived.RangeFuncBox
import Derived.RangeFuncLeaves
import Derived.RangeFuncBound
import Derived.RangeFuncCalls
import Derived.Shelf.Abstract
import Derived.Shelf.RegionOpen
import Derived.OwnWalkIn
import Derived.TacticsInMore
import Derived.LoopNIn
import Derived.LoopIn
import Derived.RangeFuncOwn
import Derived.Laws.Tables
import Derived.Sort.QuietIn
import Derived.Lib.Bytes
import Derived.Deep.DeepCutAuto
import Derived.BigRegion
import Derived.BigQuiet
import Derived.Lib.SmallJoins
import Derived.Great.BuildSlice
import Derived.Deep.RegionLaw
import Derived.Lib.AppendZeros
import Derived.Deep.MidRow
import Derived.StillTailTactics
import Derived.Deep.WholeRow
import Derived.Test.YtcmpmighjglnpaaGreattaaa
set_option maxRecDepth 100000
set_option maxHeartbeats 16000000
namespace Go.Proofs.YtcmpmighjglnpaaGreat
open Go.RowKit
def SeqTied(F:Fence)(n:Nat)(P:Program)(g:Nat)(lb:Array Value)(encs:Nat→Array Value)(Kp:World→World→Prop)(L:Nat)(w:World):Prop:=
 ∀(l:Nat) (J:Nat→World→Prop) (W:World),Below w.heap.size w W→
  (∀j W1,J j W1→j<L→YieldAt F (n-1) P l (encs j) W1 fun e W'=>e=.returned (.bool true)∧J (j+1) W'∧Kp W1 W')→
  J 0 W→CallsIn F n P g (#[.func (.yield l) #[] #[]]++lb) W fun e W'=>(∃v,e=.returned v)∧J L W'
theorem wpIn_range_tied{F:Fence}{n:Nat}{P:Program}{g:Operand}{ps:Array Tmp}{assign body:Code}{Q:Exit→Act→World→Prop}{a:Act}{w:World}
  (hro:F.round=none) (h1:1≤n) {gf:Nat} {lb:Array Value} (hg:a.eval g=.func (.func gf) #[] lb) (hFg:F.fn gf) (eg:∀args w,(callFunc gf args).run P w=.ok (.enter gf args) w)
  {encs:Nat→Array Value} {Kp:World→World→Prop} {L:Nat} (hseq:SeqTied F (n-1) P gf lb encs Kp L w)
  (hKt:∀{A B C:World},Kp A B→Kp B C→Kp A C) (hKb:∀(W:World) (l:Nat) (o o':Obj),w.heap.size≤l→W.heap[l]?=some o→o.isCells=false→o.isWalk=false→Kp W (W.putObj l o')) (hps:∀j,(encs j).size=ps.size)
  (I:Nat→World→Prop) (hI:OwnFrom w.heap.size I) (h0:I 0 w) (a₁:Nat→Act)
  (hassign:∀(l j:Nat) (W:World) (K:Act→World→Prop),K (a₁ j) W→
   assign.wpIn (F.inRound l) (n-1-1) P (Exit.then K (fun _ _ _=>False)) {tmps:=(ps.zip (encs j)).foldl (fun t (p,v)=>t.setIfInBounds p v) a.tmps,defers:=[]} W)
  (hbody:∀(l j:Nat) (W:World),I j W→j<L→body.wpIn (F.inRound l) (n-1-1) P (fun e _ W'=>e=.normal∧KeepsOthers W W'∧Kp W W'∧I (j+1) W') (a₁ j) W)
  (hdone:∀(D:Nat) (W:World),w.heap.size≤D→I L W→W.heap[D]?=some (.deferred (some []))→Q .normal {a with defers:={target:=.collected D,args:=#[]}::a.defers} W):
  (Code.rangeFunc g ps assign body).wpIn F n P Q a w:=by
 refine wpIn_rangeFunc fun fn hfn=>?_
 rw[hro]
 obtain⟨rec,hrec⟩:∃rec:LoopState→Loop,rec=fun st=>{state:=st,pending:=none,fn,tmps:=a.tmps,params:=ps,assign,body,defers:=w.heap.size}:=⟨_,rfl⟩
 obtain⟨D,hD⟩:∃D,D=w.heap.size:=⟨_,rfl⟩
 obtain⟨W1,hW1⟩:∃W1,W1=(w.alloc (.deferred (some []))).alloc (.loop (rec .ready)):=⟨_,rfl⟩
 have hL1:W1.heap[D+1]?=some (.loop (rec .ready)):=by
  rw[hW1,hD];have h:=World.alloc_heap_new (w.alloc (.deferred (some []))) (.loop (rec .ready));rwa[World.size_alloc]at h
 have hK1:W1.heap[D]?=some (.deferred (some [])):=by
  rw[hW1,hD];exact(Below.heap_alloc _ _ _ (by simp)).trans (World.alloc_heap_new w _)
 have hI1:I 0 W1:=by rw[hW1];exact hI.alloc _ (hI.alloc _ h0)
 have hb1:Below w.heap.size w W1:=by
  rw[hW1];exact((Below.refl _ w).alloc (Nat.le_refl _) _).alloc (by simp) _
 refine⟨D+1,[{target:=.collected D,args:=#[]}],W1,{target:=.fn (.func gf) lb,args:=#[.func (.yield (D+1)) #[] #[]]},W1,gf,#[.func (.yield (D+1)) #[] #[]]++lb,W1,?_,?_,?_,?_,fun _=>h1,?_⟩
 ·rw[hW1,hrec,hD];exact run_enterLoop_outer _ _ _ _ _
 ·simp only[resolve,hg]
  simp[go_sem]
 ·intro f' hf';simp[Target.leads]at hf';subst hf';exact hFg
 ·simp[invoke,go_sem,eg]
 ·refine(hseq (D+1) (fun j W=>I j W∧W.heap[D+1]?=some (.loop (rec .ready))∧W.heap[D]?=some (.deferred (some []))) W1 hb1 ?_ ⟨hI1,hL1,hK1⟩).mono ?_
  ·rintro j W ⟨hi,hl,hk⟩ hj
   have hlt:D+1<W.heap.size:=(Array.getElem?_eq_some_iff.1 hl).1
   have hy:=run_yield (P:=P) (args:=encs j) hl (by rw[hrec];exact hps j)
   rw[hrec]at hy
   refine⟨fn,_,assign,body,hy,roundIn_of_wpIn hfn (hassign _ j W _ ⟨_,run_beginRound hl (by rw[hrec]),?_⟩)⟩
   have hl2:(W.putObj (D+1) (.loop {rec .ready with state:=.busy})).heap[D+1]?=some (.loop {rec .ready with state:=.busy}):=World.putObj_heap_same hlt
   have hk2:(W.putObj (D+1) (.loop {rec .ready with state:=.busy})).heap[D]?=some (.deferred (some [])):=(World.putObj_heap_other (by omega)).trans hk
   have hp2:Kp W (W.putObj (D+1) (.loop {rec .ready with state:=.busy})):=hKb W _ _ _ (by omega) hl rfl rfl
   refine wpIn_mono (hbody _ j _ (hI.putObj _ hi (by omega) hl rfl) hj) ?_
   rintro e a3 W3 ⟨rfl,hk3,hp3,hi3⟩
   have hl3:=hk3.same _ _ hl2 rfl
   have hr:=run_endRound (P:=P) none hl3
   rw[hrec]at hr hl3
   refine⟨_,_,hr,rfl,⟨hI.putObj _ hi3 (by omega) hl3 rfl,?_,(World.putObj_heap_other (by omega)).trans (hk3.same _ _ hk2 rfl)⟩,hKt (hKt hp2 hp3) (hKb W3 _ _ _ (by omega) hl3 rfl rfl)⟩
   rw[World.putObj_heap_same (Array.getElem?_eq_some_iff.1 hl3).1,hrec];rfl
  ·rintro e W2 ⟨⟨v,rfl⟩,hi,hl,hk⟩
   refine⟨none,_,by have h:=run_endLoop (P:=P) hl (by rw[hrec];simp);rw[hrec]at h;exact h,?_⟩
   exact hdone D _ (by omega) (hI.putObj _ hi (by omega) hl rfl) ((World.putObj_heap_other (by omega)).trans hk)
end Go.Proofs.YtcmpmighjglnpaaGreat
namespace Go.Proofs.YtcmpmighjglnpaaGreat
open Go.RowKit
def KpB(S:Nat→Prop)(W W':World):Prop:=∀k,S k→W'.heap[k]?=W.heap[k]?
theorem KpB.refl(S:Nat→Prop)(W:World):KpB S W W:=fun _ _=>rfl
theorem KpB.tr{S:Nat→Prop}{A B C:World}(h:KpB S A B)(k:KpB S B C):KpB S A C:=fun i hi=>(k i hi).trans (h i hi)
theorem KpB.cell{S:Nat→Prop}{W W':World}(h:KpB S W W'){p:Addr}(hp:S p.block):W'.cell? p=W.cell? p:=by
 simp only[World.cell?,h _ hp]
theorem RdB.kept{S:Nat→Prop}{w w':World}{B n:Nat}{A:Option Addr}{f:Nat→Nat}(h:RdB w B A n f)(hk:KpB S w w')(hS:∀k,k<B→S k):RdB w' B A n f:=by
 refine⟨h.1,fun hn=>?_⟩
 obtain⟨b,o,rfl,hlt,hc⟩:=h.2 hn
 exact⟨b,o,rfl,hlt,fun j hj=>by rw[hk.cell (p:=⟨b,o+j,none⟩) (hS b hlt)];exact hc j hj⟩
end Go.Proofs.YtcmpmighjglnpaaGreat
namespace Go.Proofs.YtcmpmighjglnpaaGreat
open Go.RowKit
theorem run_app_g{T E:TypeId}{z:Value}{sz by_:Nat}(hT:Tryz.prog.underlying T=some (.slice E))(hI:(Tryz.prog.info? E).map (fun i=>(i.zero,i.size,i.bytes))=some (some z,sz,by_))(hz:z.cells.size=sz)(hsz:0<sz)
  (w:World) (base B:Nat) (v0:Value) (n:Nat) (xs:List Value) (hown:w.ownsRow base E sz v0 n xs) (A:Option Addr) (m c:Nat) (ys:List Value) (hr:SrcL w B sz A m ys) (h1:∀u∈ys,u.oneCell'=true)
  (hnm:n+m≤maxLen) (hby:(n+m)*by_≤140737488355328) (ty:TypeId) (hA:A=none→c=0) (hbase:base≤w.heap.size):
  ∃A' c' w',(Builtin.append_ #[T,T] ty #[v0,.slice A m c]).run Tryz.prog w=.ok (.slice A' (n+m) c') w'∧w'.ownsRow base E sz (.slice A' (n+m) c') (n+m) (xs++ys)∧w.grownBy w' v0.ownBlock:=by
 obtain⟨i0,hi,hz0,hz1,hz2⟩:=info_parts hI
 have key:∃v' w',(Builtin.append_ #[T,T] ty #[v0,.slice A m c]).run Tryz.prog w=.ok v' w'∧w'.ownsRow base E sz v' (n+m) (xs++ys)∧w.grownBy w' v0.ownBlock:=by
  rcases A with _|ad
  ·have h0:m=0:=by
    rcases Nat.eq_zero_or_pos m with h|h
    ·exact h
    ·obtain⟨b,o,h,_⟩:=hr.2 h;cases h
   subst h0
   obtain rfl:=hA rfl
   have hy:ys=[]:=List.length_eq_zero_iff.1 (by have:=hr.1;omega)
   subst hy
   refine⟨v0,w,run_append_owned_none (P:=Tryz.prog) (w:=w) base T ty E i0 sz hT hi v0 n _ hown,?_,World.grownBy.refl _ _⟩
   simpa using hown
  ·have hcells:∀j u,ys[j]?=some u→w.cell? (ad.add j)=some u:=by
    intro j u hu
    have hm:0<m:=by
     rcases Nat.eq_zero_or_pos m with h|h
     ·have hy:ys=[]:=List.length_eq_zero_iff.1 (by have:=hr.1;rw[h]at this;omega)
      rw[hy]at hu;cases hu
     ·exact h
    obtain⟨b,o,h,_,hc⟩:=hr.2 hm
    injection h with h
    subst h
    have e:(⟨b,o,none⟩:Addr).add j=⟨b,o+j,none⟩:=by unfold Addr.add;split<;>simp_all
    rw[e];exact hc j u hu
   obtain⟨v',w',h1,h2,h3,_,_⟩:=run_append_own_at (P:=Tryz.prog) w base T ty E i0 z sz by_ hT hi hz0 hz1 hz2 hz hsz v0 n xs hown ad m c ys hr.1 hcells h1 hnm hby hbase
   exact⟨v',w',h1,h2,h3⟩
 obtain⟨v',w',h1,h2,h3⟩:=key
 have hv:∃A' c',v'=.slice A' (n+m) c':=by
  rcases h2.2 with⟨rfl,h⟩|⟨g,cap,cur,rfl,_⟩
  ·exact⟨none,0,by rw[h]⟩
  ·exact⟨_,_,rfl⟩
 obtain⟨A',c',rfl⟩:=hv
 exact⟨A',c',w',h1,h2,h3⟩
theorem own_cells{w:World}{base sz n:Nat}{e:TypeId}{v:Value}{xs:List Value}(h:w.ownsRow base e sz v n xs):∀(j:Nat) (o:Obj),v.ownBlock=some j→w.heap[j]?=some o→o.isCells=true:=by
 intro j o hj ho
 rcases h.2 with⟨rfl,_⟩|⟨g,cap,cur,rfl,hg,hh,_⟩
 ·simp[Value.ownBlock]at hj
 ·simp[Value.ownBlock]at hj
  subst hj
  rw[ho]at hh
  cases hh;rfl
theorem own_grown{w w':World}{base sz n:Nat}{e:TypeId}{v:Value}{xs:List Value}{row:Option Nat}(h:w.ownsRow base e sz v n xs)(hg:w.grownBy w' row)(hr:∀r,row=some r→∃o:Obj,w.heap[r]?=some o∧o.isCells=false):w'.ownsRow base e sz v n xs:=by
 obtain⟨h1,h2⟩:=h
 refine⟨h1,?_⟩
 rcases h2 with h2|⟨g,cap,cur,hv,hge,hh,r⟩
 ·exact .inl h2
 ·refine .inr ⟨g,cap,cur,hv,hge,?_,r⟩
  refine(hg.block g (Array.getElem?_eq_some_iff.1 hh).1 fun he=>?_).trans hh
  obtain⟨o,ho,hc⟩:=hr g he.symm
  rw[ho]at hh
  cases hh;cases hc
theorem run_one_g(w:World)(base:Nat)(A:Option Addr)(n c:Nat)(xs:List Int)(hown:w.ownsRow base 3 1 (.slice A n c) n (intsL xs))(x:Int)(hn:n≤1000000)(hbase:base≤w.heap.size):
  ∃A' c' w',(Builtin.append_ #[24,24] 24 #[.slice A n c,.slice (some ⟨w.heap.size,0,none⟩) 1 1]).run Tryz.prog (w.alloc (.cells #[.int .i64 x] 3))=.ok (.slice A' (n+1) c') w'∧
   w'.ownsRow base 3 1 (.slice A' (n+1) c') (n+1) (intsL (xs++[x]))∧Below base w w'∧KeepsOthers w w':=by
 have hb1:Below base w (w.alloc (.cells #[.int .i64 x] 3)):=(Below.refl base w).alloc hbase _
 have ho1:=hown.alloc (.cells #[.int .i64 x] 3)
 obtain⟨A',c',w',h2,o2,b2⟩:=run_app_g (z:=.int .i64 0) (by_:=8) Tryz.underlying24 infoInt rfl (by decide) (w.alloc (.cells #[.int .i64 x] 3)) base _ (.slice A n c) n _ ho1 _ 1 1 _
  (SrcL.new w 1 1 #[.int .i64 x] 3 rfl) (fun u hu=>by simp at hu;subst hu;rfl) (by unfold maxLen;omega) (by omega) 24 (fun h=>by cases h) (Nat.le_trans hbase hb1.size)
 refine⟨A',c',w',h2,?_,hb1.trans ((Below.refl base _).grown b2 (Nat.le_trans hbase hb1.size) (own_geS ho1)),(KeepsOthers.alloc w _).trans (KeepsOthers.of_grownBy b2 (own_cells ho1))⟩
 have e:intsL xs++(#[Value.int .i64 x]:Array Value).toList=intsL (xs++[x]):=by simp[intsL]
 rw[e]at o2
 exact o2
end Go.Proofs.YtcmpmighjglnpaaGreat
namespace Go.Proofs.YtcmpmighjglnpaaGreat
open Go.RowKit
theorem wpListIn_append_run{F:Fence}{n:Nat}{P:Program}{w:World}{ops:Array Oper}{rest:List Oper}{o:Oper}{a:Act}{Q:Exit→Act→World→Prop}(hg:o.guard=none)(s x:Operand)(t:TypeId)
  (hop:o.op=.call {callee:=.builtin .append,args:=#[s,x],argTypes:=#[t,t]}) (v u v':Value) (w':World) (hs:a.eval s=v) (hx:a.eval x=u)
  (hrun:(Builtin.append_ #[t,t] o.type #[v,u]).run P w=.ok v' w') (h:wpListIn F n P ops Q rest (a.put o.dst v') w'):wpListIn F n P ops Q (o::rest) a w:=by
 refine wpListIn_plain hg fun K hK'=>?_
 unfold Oper.wpIn
 refine⟨?_,?_⟩
 ·simp[Oper.about,hop,resolve,Target.leads,Sem.run_pure]
 ·rw[Oper.semAt_plain F _ _ (by rw[hop];intro c hc';cases hc')]
  simp[execOp,hop,resolve,invoke,builtin,hs,hx,hrun,Result.andThen]
  exact hK' _ _ h
theorem wpListIn_load_row{F:Fence}{n:Nat}{P:Program}{ops:Array Oper}{rest:List Oper}{o:Oper}{a:Act}{w:World}{Q:Exit→Act→World→Prop}(hgd:o.guard=none)(ty:TypeId)(x:Operand)(ho:o.op=.load ty x)
  (g:Nat) (hx:a.eval x=.pointer (some ⟨g,0,none⟩)) (t:TypeId) (cs:Array Value) (fr:Nat×Nat) (d:TypeDesc) (hg:w.heap[g]?=some (.cells cs t fr))
  (hu:P.underlying ty=some d) (hd:(match d with| .struct _| .array _ _=>true|_=>false)=true) (hi:(P.info? ty).map (·.size)=some cs.size)
  (h:wpListIn F n P ops Q rest (a.put o.dst (.agg cs)) w):wpListIn F n P ops Q (o::rest) a w:=by
 refine wpListIn_plain hgd fun K hK'=>?_
 unfold Oper.wpIn
 refine⟨?_,?_⟩
 ·simp[Oper.about,ho]
 ·rw[Oper.semAt_plain F _ _ (by rw[ho];intro c hc';cases hc')]
  have:=run_loadVar_row (P:=P) w g t ty cs fr d hg hu hd hi
  simp[execOp,ho,hx,Instr.loadAt,Instr.sureAddr,this,Result.andThen]
  exact hK' _ _ h
theorem wpListIn_store_row{F:Fence}{n:Nat}{P:Program}{ops:Array Oper}{rest:List Oper}{o:Oper}{a:Act}{w:World}{Q:Exit→Act→World→Prop}(hgd:o.guard=none)(ty:TypeId)(x y:Operand)(ho:o.op=.store ty x y)
  (hdst:o.dst=none) (g:Nat) (cells:Array Value) (hx:a.eval x=.pointer (some ⟨g,0,none⟩)) (hy:a.eval y=.agg cells)
  (t:TypeId) (old:Array Value) (hg:w.heap[g]?=some (.cells old t (0,0))) (hi:(P.info? ty).map (·.size)=some cells.size)
  (hold:old.size=cells.size) (h1:cells.all (·.oneCell')=true)
  (h:wpListIn F n P ops Q rest a (w.setRow g cells)):wpListIn F n P ops Q (o::rest) a w:=by
 refine wpListIn_plain hgd fun K hK'=>?_
 unfold Oper.wpIn
 refine⟨?_,?_⟩
 ·simp[Oper.about,ho]
 ·rw[Oper.semAt_plain F _ _ (by rw[ho];intro c hc';cases hc')]
  have:=run_storeVar_row (P:=P) w g t ty old cells hg hi hold h1
  simp[execOp,ho,hx,hy,Instr.storeAt,Instr.sureAddr,this,Result.andThen]
  show K (a.put o.dst undef) _
  rw[show a.put o.dst undef=a by rw[hdst];rfl]
  exact hK' _ _ h
end Go.Proofs.YtcmpmighjglnpaaGreat
namespace Go.Proofs.YtcmpmighjglnpaaGreat
open Go.RowKit Go.Shelf
attribute [local go_sem] Oper.semAt_some
theorem wide_fn(f:FuncId):Fence.wide.fn f=True:=rfl
attribute [local simp] wide_fn
end Go.Proofs.YtcmpmighjglnpaaGreat
namespace Go.Proofs.YtcmpmighjglnpaaGreat
open Go.RowKit Go.ChangeShapes Go.WideShapes Go.ChangeAt Go.Joins
def TkR(w:World)(B:Nat)(A:Option Addr)(n c:Nat)(l:List Tok):Prop:=n=l.length∧RdT w B A l∧(A=none→c=0)∧n≤c∧c≤maxLen
theorem TkR.nil(w:World)(B:Nat):TkR w B none 0 0 []:=⟨rfl,RdT.nil w B none,fun _=>rfl,Nat.le_refl _,by unfold maxLen;omega⟩
theorem TkR.of_own{w:World}{base n c:Nat}{A:Option Addr}{l:List Tok}(h:w.ownsRow base 82 3 (.slice A n c) n (toksL l)):TkR w w.heap.size A n c l:=by
 obtain⟨h1,h2⟩:=RdT.of_own h
 refine⟨h1,h2,?_⟩
 rcases h.2 with⟨hv,h0⟩|⟨g,cap,cur,hv,_,_,k1,k2,_⟩
 ·injection hv with h3 h4 h5
  exact⟨fun _=>h5,by omega,by unfold maxLen;omega⟩
 ·injection hv with h3 h4 h5
  exact⟨(fun h=>by rw[h]at h3;cases h3),by omega,by omega⟩
end Go.Proofs.YtcmpmighjglnpaaGreat
namespace Go.Proofs.YtcmpmighjglnpaaGreat
open Go.RowKit Go.ChangeShapes Go.WideShapes Go.ChangeAt Go.Joins Go.Deep
def TokIn(t:Tok):Prop:=t.x<256∧(-9223372036854775808≤t.d∧t.d≤9223372036854775807)∧(-9223372036854775808≤t.n∧t.n≤9223372036854775807)
end Go.Proofs.YtcmpmighjglnpaaGreat
namespace Go.Proofs.YtcmpmighjglnpaaGreat
open Go.RowKit
theorem step_app{ops:Array Oper}{o:Oper}{a:Act}{w:World}{K:Act→World→Prop}{Q:Exit→Act→World→Prop}{E:Prop}(hgd:o.guard=none)(s x:Operand)(t tn:TypeId)
  (ho:o.op=.call {callee:=.builtin .append,args:=#[s,x],argTypes:=#[t,tn]}) (vs vx:Value) (hs:a.eval s=vs) (hx:a.eval x=vx)
  (v':Value) (w':World) (hr:(Builtin.append_ #[t,tn] o.type #[vs,vx]).run Tryz.prog w=.ok v' w') (h:K (a.put o.dst v') w'):
  if Region.wanted o (yielded ops a.tmps)=true then Oper.wp Tryz.prog o a w K Q else E:=by
 have hw:Region.wanted o (yielded ops a.tmps)=true:=by simp[Region.wanted,hgd]
 rw[if_pos hw]
 exact Go.Lib.wp_append_run w s x t tn ho vs vx hs hx v' w' hr h
end Go.Proofs.YtcmpmighjglnpaaGreat
namespace Go.Proofs.YtcmpmighjglnpaaGreat
open Go.RowKit
theorem step_call{ops:Array Oper}{o:Oper}{a:Act}{w:World}{K:Act→World→Prop}{Q:Exit→Act→World→Prop}{E:Prop}(hgd:o.guard=none)(f:FuncId)(xs:Array Operand)(ts:Array TypeId)
  (ho:o.op=.call {callee:=.value (.func f),args:=xs,argTypes:=ts}) (eg:∀args w,(callFunc f args).run Tryz.prog w=.ok (.enter f args) w) (args:Array Value) (hx:xs.map a.eval=args) {R:Ending→World→Prop} (hc:Calls Tryz.prog f args w R)
  (h:∀e w',R e w'→∃v,e=.returned v∧K (a.put o.dst v) w'):
  if Region.wanted o (yielded ops a.tmps)=true then Oper.wp Tryz.prog o a w K Q else E:=by
 have hw:Region.wanted o (yielded ops a.tmps)=true:=by simp[Region.wanted,hgd]
 rw[if_pos hw]
 unfold Oper.wp
 have hrun:(execOp a.eval o).run Tryz.prog w=.ok (.enter f args) w:=by
  simp[execOp,ho,resolve,invoke,hx,go_sem,eg,Deferred.ofValue]
 rw[hrun]
 refine hc.mono fun e w' hr=>?_
 obtain⟨v,rfl,hk⟩:=h e w' hr
 exact hk
theorem step_call_on{ops:Array Oper}{o:Oper}{a:Act}{w:World}{K:Act→World→Prop}{Q:Exit→Act→World→Prop}{E:Prop}(hw:Region.wanted o (yielded ops a.tmps)=true)(f:FuncId)(xs:Array Operand)(ts:Array TypeId)
  (ho:o.op=.call {callee:=.value (.func f),args:=xs,argTypes:=ts}) (eg:∀args w,(callFunc f args).run Tryz.prog w=.ok (.enter f args) w) (args:Array Value) (hx:xs.map a.eval=args) {R:Ending→World→Prop} (hc:Calls Tryz.prog f args w R)
  (h:∀e w',R e w'→∃v,e=.returned v∧K (a.put o.dst v) w'):
  if Region.wanted o (yielded ops a.tmps)=true then Oper.wp Tryz.prog o a w K Q else E:=by
 rw[if_pos hw]
 unfold Oper.wp
 have hrun:(execOp a.eval o).run Tryz.prog w=.ok (.enter f args) w:=by
  simp[execOp,ho,resolve,invoke,hx,go_sem,eg,Deferred.ofValue]
 rw[hrun]
 refine hc.mono fun e w' hr=>?_
 obtain⟨v,rfl,hk⟩:=h e w' hr
 exact hk
end Go.Proofs.YtcmpmighjglnpaaGreat
namespace Go.Proofs.YtcmpmighjglnpaaGreat
open Go.RowKit Go.ChangeShapes Go.WideShapes Go.ChangeAt Go.Joins
theorem stp_lt{L:List Nat}{t:Tok}(h:∀x∈L,x<256)(hx:t.x<256):∀x∈stpT L t,x<256:=by
 intro x hm
 unfold stpT at hm
 split at hm
 ·rw[List.mem_append]at hm
  rcases hm with hm|hm
  ·exact h x hm
  ·simp at hm;omega
 ·rw[List.mem_append]at hm
  rcases hm with hm|hm
  ·exact h x hm
  ·unfold copL at hm
   rw[List.mem_map]at hm
   obtain⟨i,_,rfl⟩:=hm
   exact lst_lt h _
theorem preL_lst(f:Nat→Nat)(n:Nat):bytesL n f=bytesL n (lst (preL f n)):=bytesL_ext fun _ hj=>(preL_get f hj).symm
theorem plyR_step{A:Nat}{l:List Tok}{i:Nat}(h:i<l.length)(L:List Nat):plyR A (l.drop i) L=
  if mayT (l.getD i tok0)=false then(8,[])else if(L.length:Int)<(l.getD i tok0).d then(60,[])else if 131072<L.length-A+lenT (l.getD i tok0)then(4,[])else plyR A (l.drop (i+1)) (stpT L (l.getD i tok0)):=by
 have e:l.drop i=l.getD i tok0::l.drop (i+1):=by
  rw[List.drop_eq_getElem_cons h,List.getD_eq_getElem?_getD,List.getElem?_eq_getElem h];rfl
 rw[e];rfl
def plyO(f:Nat→Nat)(n:Nat)(l:List Tok):Int×List Nat:=if 131072<n∨131072<l.length then(4,[])else plyR n l (preL f n)
theorem mayT_is{t:Tok}(h:mayT t=true):(t.n=0∧t.d=0)∨(t.n≠0∧t.x=0∧3≤t.n∧t.n≤258∧1≤t.d∧t.d≤32768):=by unfold mayT at h;exact of_decide_eq_true h
end Go.Proofs.YtcmpmighjglnpaaGreat
namespace Go.Proofs.YtcmpmighjglnpaaGreat
open Go.RowKit Go.ChangeShapes Go.WideShapes Go.ChangeAt Go.Joins
def tokE(t:Tok):Int:=if mayT t=true then 0 else 8
end Go.Proofs.YtcmpmighjglnpaaGreat
namespace Go.Proofs.YtcmpmighjglnpaaGreat
def atN(T:Nat→Nat)(n:Nat):Nat→Nat
 |0=>0
 |k+1=>if T k≤n then k else atN T n k
theorem atN_one{T:Nat→Nat}{n i k:Nat}(hk:i<k)(h1:T i≤n)(h2:∀j,i<j→j<k→n<T j):atN T n k=i:=by
 induction k with
 |zero=>omega
 |succ k ih=>
  simp only[atN]
  rcases Nat.eq_or_lt_of_le (Nat.le_of_lt_succ hk)with e|e
  ·subst e;rw[if_pos h1]
  ·rw[if_neg (by have:=h2 k e (by omega);omega)]
   exact ih e (fun j g1 g2=>h2 j g1 (by omega))
structure Rises (T X:Nat→Nat) (N hi:Nat):Prop where
 pos:0<N
 up:∀i,i+1<N→T i<T (i+1)∧T (i+1)≤T i+2^X i
 last:T (N-1)≤hi∧hi<T (N-1)+2^X (N-1)
theorem Rises.mono{T X:Nat→Nat}{N hi:Nat}(h:Rises T X N hi){i:Nat}:∀d,i+d<N→T i+d≤T (i+d)
 |0,_=>Nat.le_refl _
 |d+1,hd=>by
  have:=h.mono (i:=i) d (by omega)
  have:=(h.up (i+d) (by omega)).1
  rw[Nat.add_assoc]at this
  omega
theorem Rises.lt{T X:Nat→Nat}{N hi:Nat}(h:Rises T X N hi){i j:Nat}(hij:i<j)(hj:j<N):T i<T j:=by
 have:=h.mono (i:=i) (j-i) (by omega)
 rw[show i+(j-i)=j by omega]at this
 omega
theorem Rises.back{T X:Nat→Nat}{N hi i x:Nat}(h:Rises T X N hi)(hi1:i<N)(hx:∀j,i+1=j→j<N→T i+x<T j):atN T (T i+x) N=i:=by
 refine atN_one hi1 (by omega) fun j h1 h2=>?_
 rcases Nat.eq_or_lt_of_le (show i+1≤j by omega)with e|e
 ·exact hx j e h2
 ·have:=hx (i+1) rfl (by omega)
  have:=h.lt e h2
  omega
def longT(i:Nat):Nat:=[3,4,5,6,7,8,9,10,11,13,15,17,19,23,27,31,35,43,51,59,67,83,99,115,131,163,195,227,258].getD i 0
def longX(i:Nat):Nat:=[0,0,0,0,0,0,0,0,1,1,1,1,2,2,2,2,3,3,3,3,4,4,4,4,5,5,5,5,0].getD i 0
def farT(i:Nat):Nat:=[1,2,3,4,5,7,9,13,17,25,33,49,65,97,129,193,257,385,513,769,1025,1537,2049,3073,4097,6145,8193,12289,16385,24577].getD i 0
def farX(i:Nat):Nat:=[0,0,0,0,1,1,2,2,3,3,4,4,5,5,6,6,7,7,8,8,9,9,10,10,11,11,12,12,13,13].getD i 0
theorem all_lt{P:Nat→Prop}[DecidablePred P]{n:Nat}(h:((List.range n).all fun i=>decide (P i))=true):∀i,i<n→P i:=fun i hi=>by
 have:=List.all_eq_true.1 h i (List.mem_range.2 hi)
 exact of_decide_eq_true this
theorem longs_rise:Rises longT longX 29 258 where
 pos:=by omega
 up:=fun i hi=>all_lt (P:=fun i=>longT i<longT (i+1)∧longT (i+1)≤longT i+2^longX i) (n:=28) (by decide+kernel) i (by omega)
 last:=by decide
theorem fars_rise:Rises farT farX 30 32768 where
 pos:=by omega
 up:=fun i hi=>all_lt (P:=fun i=>farT i<farT (i+1)∧farT (i+1)≤farT i+2^farX i) (n:=29) (by decide+kernel) i (by omega)
 last:=by decide
theorem long_next:∀i,i<28→i≠27→longT (i+1)=longT i+2^longX i:=fun i hi hn=>
 all_lt (P:=fun i=>i≠27→longT (i+1)=longT i+2^longX i) (n:=28) (by decide+kernel) i hi hn
theorem far_next:∀i,i<29→farT (i+1)=farT i+2^farX i:=fun i hi=>all_lt (P:=fun i=>farT (i+1)=farT i+2^farX i) (n:=29) (by decide+kernel) i hi
theorem long_back{i x:Nat}(hi:i<29)(hx:x<2^longX i)(hn:¬(i=27∧x=31)):atN longT (longT i+x) 29=i∧3≤longT i+x∧longT i+x≤258:=by
 have h3:3≤longT i∧longT i≤258:=all_lt (P:=fun i=>3≤longT i∧longT i≤258) (n:=29) (by decide+kernel) i hi
 have hnx:∀j,i+1=j→j<29→longT i+x<longT j:=fun j e hj=>by
  subst e
  by_cases h27:i=27
  ·subst h27
   have e1:longT 27=227:=rfl
   have e2:longT (27+1)=258:=rfl
   have e3:(2:Nat)^longX 27=32:=rfl
   omega
  ·rw[long_next i (by omega) h27];omega
 refine⟨longs_rise.back hi hnx,by omega,?_⟩
 rcases Nat.lt_or_ge (i+1) 29 with g|g
 ·have h1:=hnx (i+1) rfl g
  have h2:longT (i+1)≤258:=(all_lt (P:=fun i=>3≤longT i∧longT i≤258) (n:=29) (by decide+kernel) (i+1) g).2
  omega
 ·obtain rfl:i=28:=by omega
  have e1:longT 28=258:=rfl
  have e3:(2:Nat)^longX 28=1:=rfl
  omega
theorem far_back{i x:Nat}(hi:i<30)(hx:x<2^farX i):atN farT (farT i+x) 30=i∧1≤farT i+x∧farT i+x≤32768:=by
 have h3:1≤farT i∧farT i≤32768:=all_lt (P:=fun i=>1≤farT i∧farT i≤32768) (n:=30) (by decide+kernel) i hi
 have hnx:∀j,i+1=j→j<30→farT i+x<farT j:=fun j e hj=>by
  subst e
  rw[far_next i (by omega)];omega
 refine⟨fars_rise.back hi hnx,by omega,?_⟩
 rcases Nat.lt_or_ge (i+1) 30 with g|g
 ·have h1:=hnx (i+1) rfl g
  have h2:farT (i+1)≤32768:=(all_lt (P:=fun i=>1≤farT i∧farT i≤32768) (n:=30) (by decide+kernel) (i+1) g).2
  omega
 ·obtain rfl:i=29:=by omega
  have e1:farT 29=24577:=rfl
  have e3:(2:Nat)^farX 29=8192:=rfl
  omega
end Go.Proofs.YtcmpmighjglnpaaGreat
namespace Go.Proofs.YtcmpmighjglnpaaGreat
def lgI(n:Int):Nat:=atN longT n.toNat 29
def lgE(n:Int):Int:=if 3≤n∧n≤258 then 0 else 2
def lgS(n:Int):Int:=if 3≤n∧n≤258 then((257+lgI n:Nat):Int)else 0
def lgX(n:Int):Int:=if 3≤n∧n≤258 then((n.toNat-longT (lgI n):Nat):Int)else 0
def lbE(s:Int):Int:=if 257≤s∧s≤285 then 0 else 90
def lbV(s:Int):Int:=if 257≤s∧s≤285 then((longX (s-257).toNat:Nat):Int)else 0
def loE(s x:Int):Int:=if 257≤s∧s≤285 then(if x<0∨((2^longX (s-257).toNat:Nat):Int)≤x then 2 else if s=284∧x=31 then 90 else 0)else 90
def loV(s x:Int):Int:=if loE s x=0 then((longT (s-257).toNat:Nat):Int)+x else 0
def frI(n:Int):Nat:=atN farT n.toNat 30
def frE(n:Int):Int:=if 1≤n∧n≤32768 then 0 else 2
def frS(n:Int):Int:=if 1≤n∧n≤32768 then((frI n:Nat):Int)else 0
def frX(n:Int):Int:=if 1≤n∧n≤32768 then((n.toNat-farT (frI n):Nat):Int)else 0
def fbE(s:Int):Int:=if 0≤s∧s≤29 then 0 else 90
def fbV(s:Int):Int:=if 0≤s∧s≤29 then((farX s.toNat:Nat):Int)else 0
def foE(s x:Int):Int:=if 0≤s∧s≤29 then(if x<0∨((2^farX s.toNat:Nat):Int)≤x then 2 else 0)else 90
def foV(s x:Int):Int:=if foE s x=0 then((farT s.toNat:Nat):Int)+x else 0
theorem longX_le(i:Nat):longX i≤5:=by
 rcases Nat.lt_or_ge i 29 with h|h
 ·exact all_lt (P:=fun i=>longX i≤5) (n:=29) (by decide+kernel) i h
 ·unfold longX;rw[List.getD_eq_getElem?_getD,List.getElem?_eq_none (by simpa using h)];exact Nat.zero_le _
theorem farX_le(i:Nat):farX i≤13:=by
 rcases Nat.lt_or_ge i 30 with h|h
 ·exact all_lt (P:=fun i=>farX i≤13) (n:=30) (by decide+kernel) i h
 ·unfold farX;rw[List.getD_eq_getElem?_getD,List.getElem?_eq_none (by simpa using h)];exact Nat.zero_le _
theorem lg_ok{n:Int}(h:lgE n=0):3≤n∧n≤258:=by
 unfold lgE at h;split at h<;>omega
theorem lo_ok{s x:Int}(h:loE s x=0):257≤s∧s≤285∧0≤x∧x<((2^longX (s-257).toNat:Nat):Int)∧¬(s=284∧x=31):=by
 unfold loE at h
 split at h
 ·split at h
  ·omega
  ·split at h<;>omega
 ·omega
theorem fo_ok{s x:Int}(h:foE s x=0):0≤s∧s≤29∧0≤x∧x<((2^farX s.toNat:Nat):Int):=by
 unfold foE at h
 split at h
 ·split at h<;>omega
 ·omega
theorem long_here{s x:Int}(h:loE s x=0):lgE (loV s x)=0∧lgS (loV s x)=s∧lgX (loV s x)=x:=by
 obtain⟨h1,h2,h3,h4,h5⟩:=lo_ok h
 obtain⟨y,rfl⟩:=Int.eq_ofNat_of_zero_le h3
 obtain⟨i,hi⟩:∃i,i=(s-257).toNat:=⟨_,rfl⟩
 have es:s=((257+i:Nat):Int):=by omega
 have eV:loV s (y:Int)=((longT i+y:Nat):Int):=by unfold loV;rw[if_pos h,←hi];omega
 rw[←hi]at h4
 obtain⟨g1,g2,g3⟩:=long_back (i:=i) (x:=y) (by omega) (by omega) (by omega)
 rw[eV]
 have hk:3≤((longT i+y:Nat):Int)∧((longT i+y:Nat):Int)≤258:=by omega
 have eI:lgI ((longT i+y:Nat):Int)=i:=g1
 refine⟨by unfold lgE;rw[if_pos hk],by unfold lgS;rw[if_pos hk,eI];exact es.symm,?_⟩
 unfold lgX
 rw[if_pos hk,eI,Int.toNat_natCast];omega
theorem far_here{s x:Int}(h:foE s x=0):frE (foV s x)=0∧frS (foV s x)=s∧frX (foV s x)=x:=by
 obtain⟨h1,h2,h3,h4⟩:=fo_ok h
 obtain⟨y,rfl⟩:=Int.eq_ofNat_of_zero_le h3
 obtain⟨i,rfl⟩:=Int.eq_ofNat_of_zero_le h1
 rw[Int.toNat_natCast]at h4
 have eV:foV (i:Int) (y:Int)=((farT i+y:Nat):Int):=by unfold foV;rw[if_pos h,Int.toNat_natCast];omega
 obtain⟨g1,g2,g3⟩:=far_back (i:=i) (x:=y) (by omega) (by omega)
 rw[eV]
 have hk:1≤((farT i+y:Nat):Int)∧((farT i+y:Nat):Int)≤32768:=by omega
 have eI:frI ((farT i+y:Nat):Int)=i:=g1
 refine⟨by unfold frE;rw[if_pos hk],by unfold frS;rw[if_pos hk,eI],?_⟩
 unfold frX
 rw[if_pos hk,eI,Int.toNat_natCast];omega
end Go.Proofs.YtcmpmighjglnpaaGreat
namespace Go.Proofs.YtcmpmighjglnpaaGreat
open Go.RowKit
theorem step_store_row{ops:Array Oper}{o:Oper}{a:Act}{w:World}{K:Act→World→Prop}{Q:Exit→Act→World→Prop}{E:Prop}(hgd:o.guard=none)(ty:TypeId)(x y:Operand)(ho:o.op=.store ty x y)(hdst:o.dst=none)
  (g:Nat) (cells:Array Value) (hx:a.eval x=.pointer (some ⟨g,0,none⟩)) (hy:a.eval y=.agg cells)
  (t:TypeId) (old:Array Value) (hg:w.heap[g]?=some (.cells old t (0,0))) (hi:(Tryz.prog.info? ty).map (·.size)=some cells.size) (hold:old.size=cells.size) (h1:cells.all (·.oneCell')=true) (h:K a (w.setRow g cells)):
  if Region.wanted o (yielded ops a.tmps)=true then Oper.wp Tryz.prog o a w K Q else E:=by
 rw[if_pos (by simp[Region.wanted,hgd])]
 unfold Oper.wp execOp
 have:=run_storeVar_row (P:=Tryz.prog) w g t ty old cells hg hi hold h1
 simp[ho,hx,hy,Instr.storeAt,Instr.sureAddr,this,Result.andThen]
 show K (a.put o.dst undef) (w.setRow g cells)
 rw[show a.put o.dst undef=a by rw[hdst];rfl]
 exact h
def tblL(T:Nat→Int)(n:Nat):List Value:=(List.range n).map fun i=>.int .i64 (T i)
def tblA(T:Nat→Int)(n:Nat):Array Value:=(tblL T n).toArray
theorem tblA_size(T:Nat→Int)(n:Nat):(tblA T n).size=n:=by simp[tblA,tblL]
theorem tblA_one(T:Nat→Int)(n:Nat):(tblA T n).all (·.oneCell')=true:=
 all_oneCell_toArray fun u hu=>by
  unfold tblL at hu
  obtain⟨i,_,rfl⟩:=List.mem_map.1 hu;rfl
theorem tblA_get(T:Nat→Int)(n i:Nat)(h:i<n):(tblA T n)[i]?=some (.int .i64 (T i)):=by simp[tblA,tblL,h]
theorem tbl_ext{T T':Nat→Int}{n:Nat}(h:∀i,i<n→T i=T' i):tblA T n=tblA T' n:=by
 unfold tblA tblL
 congr 1
 exact List.map_congr_left fun i hi=>by rw[h i (List.mem_range.1 hi)]
theorem tbl_set(T:Nat→Int)(n i:Nat)(x:Int):(tblA T n).setIfInBounds i (.int .i64 x)=tblA (fun k=>if k=i then x else T k) n:=by
 apply Array.ext_getElem?
 intro k
 rw[Array.getElem?_setIfInBounds,tblA_size]
 rcases Nat.lt_or_ge k n with h|h
 ·rw[tblA_get _ _ _ h]
  by_cases e:i=k
  ·subst e;rw[if_pos rfl,if_pos h,tblA_get _ _ _ h,if_pos rfl]
  ·rw[if_neg e,tblA_get _ _ _ h,if_neg (fun g:k=i=>e g.symm)]
 ·have h1:(tblA T n)[k]?=none:=Array.getElem?_eq_none (by rw[tblA_size];exact h)
  have h2:(tblA (fun k=>if k=i then x else T k) n)[k]?=none:=Array.getElem?_eq_none (by rw[tblA_size];exact h)
  rw[h1,h2]
  by_cases e:i=k
  ·subst e;rw[if_pos rfl,if_neg (by omega)]
  ·rw[if_neg e]
theorem tbl_cell{w:World}{g:Nat}{T:Nat→Int}{n:Nat}{t:TypeId}(hg:w.heap[g]?=some (.cells (tblA T n) t (0,0))){i:Nat}(h:i<n):w.cell? ⟨g,i,none⟩=some (.int .i64 (T i)):=
 (cell_of_row w g _ _ _ (0,0) hg).trans (tblA_get T n i h)
end Go.Proofs.YtcmpmighjglnpaaGreat
namespace Go.Proofs.YtcmpmighjglnpaaGreat
open Go.RowKit
theorem below_row9{B:Nat}{a w:World}(h:Below B a w){g:Nat}(hp:B≤g)(cs:Array Value):Below B a (w.setRow g cs):=
 ⟨h.os,h.tape,h.output,by rw[size_setRow];exact h.size,fun k hk=>(setRow_other w g k cs (by omega)).trans (h.block k hk)⟩
def mkV(w:World)(z cs:Array Value)(t:TypeId):World:=(w.alloc (.cells z t)).setRow w.heap.size cs
theorem mkV_row(w:World)(z cs:Array Value)(t:TypeId):(mkV w z cs t).heap[w.heap.size]?=some (.cells cs t (0,0)):=setRow_heap _ _ _ _ _ _ (heap_alloc_new w _)
theorem mkV_below(w:World)(z cs:Array Value)(t:TypeId):Below w.heap.size w (mkV w z cs t):=below_row9 ((Below.refl _ _).alloc (Nat.le_refl _) _) (Nat.le_refl _) cs
theorem mkV_size(w:World)(z cs:Array Value)(t:TypeId):(mkV w z cs t).heap.size=w.heap.size+1:=by unfold mkV;rw[size_setRow];simp
end Go.Proofs.YtcmpmighjglnpaaGreat
