/-
  Words and walks.
-/
import Derived.OwnWalkIn
import Derived.Laws.Tables
import Derived.Deep.DeepCutAuto
import Derived.BigRegion
import Derived.BigQuiet
import Derived.Great.BuildSlice
import Derived.Test.Ytgokdgcmkcmjeaapaaa
import Derived.Test.Ytgokdgcmkcmjeaapaab
import Derived.Test.Ytgokdgcmkcmjeaapaad
import Derived.Test.Ytgokdgcmkcmjeaapaaf
import Derived.Test.Ytgokdgcmkcmjeaapaag
set_option maxRecDepth 100000
set_option maxHeartbeats 16000000
namespace Go.Proofs.Ytgokdgcmkcmjeaa
open Go.RowKit
theorem wpListIn_append_run{F:Fence}{n:Nat}{P:Program}{w:World}{ops:Array Oper}{rest:List Oper}{o:Oper}{a:Act}{Q:Exit→Act→World→Prop}(hg:o.guard=none)(s x:Operand)(t:TypeId)
  (hop:o.op=.call {callee:=.builtin .append,args:=#[s,x],argTypes:=#[t,t]}) (v u v':Value) (w':World) (hs:a.eval s=v) (hx:a.eval x=u)
  (hrun:(Builtin.append_ #[t,t] o.type #[v,u]).run P w=.ok v' w') (h:wpListIn F n P ops Q rest (a.put o.dst v') w'):wpListIn F n P ops Q (o::rest) a w:=by
 refine wpListIn_plain hg fun K hK'=>?_
 unfold Oper.wpIn
 refine⟨?_,?_⟩
 ·simp[Oper.about,hop,resolve,Target.leads,Sem.run_pure]
 ·rw[Oper.semAt_plain F _ _ (by rw[hop];intro c hc';cases hc')]
  simp[execOp,hop,resolve,invoke,builtin,hs,hx,hrun,Result.andThen]
  exact hK' _ _ h
theorem wpListIn_load_row{F:Fence}{n:Nat}{P:Program}{ops:Array Oper}{rest:List Oper}{o:Oper}{a:Act}{w:World}{Q:Exit→Act→World→Prop}(hgd:o.guard=none)(ty:TypeId)(x:Operand)(ho:o.op=.load ty x)
  (g:Nat) (hx:a.eval x=.pointer (some ⟨g,0,none⟩)) (t:TypeId) (cs:Array Value) (fr:Nat×Nat) (d:TypeDesc) (hg:w.heap[g]?=some (.cells cs t fr))
  (hu:P.underlying ty=some d) (hd:(match d with| .struct _| .array _ _=>true|_=>false)=true) (hi:(P.info? ty).map (·.size)=some cs.size)
  (h:wpListIn F n P ops Q rest (a.put o.dst (.agg cs)) w):wpListIn F n P ops Q (o::rest) a w:=by
 refine wpListIn_plain hgd fun K hK'=>?_
 unfold Oper.wpIn
 refine⟨?_,?_⟩
 ·simp[Oper.about,ho]
 ·rw[Oper.semAt_plain F _ _ (by rw[ho];intro c hc';cases hc')]
  have:=run_loadVar_row (P:=P) w g t ty cs fr d hg hu hd hi
  simp[execOp,ho,hx,Instr.loadAt,Instr.sureAddr,this,Result.andThen]
  exact hK' _ _ h
theorem wpListIn_store_row{F:Fence}{n:Nat}{P:Program}{ops:Array Oper}{rest:List Oper}{o:Oper}{a:Act}{w:World}{Q:Exit→Act→World→Prop}(hgd:o.guard=none)(ty:TypeId)(x y:Operand)(ho:o.op=.store ty x y)
  (hdst:o.dst=none) (g:Nat) (cells:Array Value) (hx:a.eval x=.pointer (some ⟨g,0,none⟩)) (hy:a.eval y=.agg cells)
  (t:TypeId) (old:Array Value) (hg:w.heap[g]?=some (.cells old t (0,0))) (hi:(P.info? ty).map (·.size)=some cells.size)
  (hold:old.size=cells.size) (h1:cells.all (·.oneCell')=true)
  (h:wpListIn F n P ops Q rest a (w.setRow g cells)):wpListIn F n P ops Q (o::rest) a w:=by
 refine wpListIn_plain hgd fun K hK'=>?_
 unfold Oper.wpIn
 refine⟨?_,?_⟩
 ·simp[Oper.about,ho]
 ·rw[Oper.semAt_plain F _ _ (by rw[ho];intro c hc';cases hc')]
  have:=run_storeVar_row (P:=P) w g t ty old cells hg hi hold h1
  simp[execOp,ho,hx,hy,Instr.storeAt,Instr.sureAddr,this,Result.andThen]
  show K (a.put o.dst undef) _
  rw[show a.put o.dst undef=a by rw[hdst];rfl]
  exact hK' _ _ h
end Go.Proofs.Ytgokdgcmkcmjeaa
namespace Go.Proofs.Ytgokdgcmkcmjeaa
open Go.RowKit Go.Shelf
attribute [local go_sem] Oper.semAt_some
def cntT(f:Nat→Nat)(L:List Nat)(m:Nat):Int:=((L.countP fun x=>f x==m:Nat):Int)
theorem countP_row(f:Nat→Nat)(k m:Nat):∀n,(rowM f k n).countP (fun x=>f x==m)=if k=m then(rowM f k n).length else 0
 |0=>by simp[rowM]
 |n+1=>by
  simp only[rowM,List.countP_append,List.length_append]
  rw[countP_row f k m n]
  by_cases h:f n=k
  ·rw[if_pos h]
   by_cases e:k=m
   ·simp[e,h]
   ·simp[e,h]
  ·rw[if_neg h];simp
theorem countP_sym(f:Nat→Nat)(m n:Nat):∀M,(symL f n M).countP (fun x=>f x==m)=if 0<m∧m≤M then tcN f m n else 0
 |0=>by simp[symL];omega
 |M+1=>by
  simp only[symL,List.countP_append]
  rw[countP_sym f m n M,countP_row]
  by_cases e:M+1=m
  ·subst e
   rw[if_neg (by omega),if_pos rfl,if_pos ⟨by omega,Nat.le_refl _⟩,rowM_length f (by omega),Nat.zero_add]
  ·rw[if_neg e]
   by_cases h:0<m∧m≤M
   ·rw[if_pos h,if_pos ⟨h.1,by omega⟩,Nat.add_zero]
   ·rw[if_neg h,if_neg (by omega)]
theorem cntT_all(f:Nat→Nat)(n:Nat){m:Nat}(hm:m<16):cntT f (symL f n 15) m=(tcN f m n:Int):=by
 unfold cntT
 rw[countP_sym]
 by_cases h:0<m
 ·rw[if_pos ⟨h,by omega⟩]
 ·obtain rfl:m=0:=by omega
  rw[if_neg (by omega),cntN_zero]
theorem sym_take{f:Nat→Nat}{n j:Nat}(h:j<sumC f n 15):(symL f n 15).take (j+1)=(symL f n 15).take j++[symN f n j]:=by
 rw[←symL_length]at h
 rw[List.take_succ_eq_append_getElem h]
 unfold symN
 rw[List.getD_eq_getElem?_getD,List.getElem?_eq_getElem h];rfl
theorem sym_mem{f:Nat→Nat}{n j:Nat}(h:j<sumC f n 15):symN f n j<n∧0<f (symN f n j)∧f (symN f n j)≤15:=by
 rw[←symL_length]at h
 have hm:symN f n j∈symL f n 15:=by
  unfold symN
  rw[List.getD_eq_getElem?_getD,List.getElem?_eq_getElem h];exact List.getElem_mem _
 have key:∀M x,x∈symL f n M→x<n∧0<f x∧f x≤M:=by
  intro M
  induction M with
  |zero=>intro x hx;simp[symL]at hx
  |succ M ih=>
   intro x hx
   simp only[symL,List.mem_append]at hx
   rcases hx with hx|hx
   ·have:=ih x hx;omega
   ·have:=(rowM_mem f (M+1) x n).1 hx;omega
 exact key 15 _ hm
theorem cntT_step{f:Nat→Nat}{n j:Nat}(h:j<sumC f n 15):(fun m=>if m=f (symN f n j)then cntT f ((symL f n 15).take j) (f (symN f n j))+1 else cntT f ((symL f n 15).take j) m)=cntT f ((symL f n 15).take (j+1)):=by
 funext m
 rw[sym_take h]
 unfold cntT
 rw[List.countP_append]
 by_cases e:m=f (symN f n j)
 ·subst e;simp
 ·rw[if_neg e]
  have:(f (symN f n j)==m)=false:=by simp;omega
  simp[this]
def SGr(B b k:Nat):Prop:=k<B∨k=b+1
def GrI(w u:World)(b:Nat)(f:Nat→Nat)(n j:Nat)(W:World):Prop:=
 Below w.heap.size w W∧KpB (SGr w.heap.size b) u W∧u.heap.size≤W.heap.size∧TreA W w.heap.size (fun _=>0) (.slice none 0 0)∧
 ∃(A:Option Addr) (c:Nat),TreA W b (cntT f ((symL f n 15).take j)) (.slice A j c)∧W.ownsRow (b+2) 3 1 (.slice A j c) j (intsL (natsI ((symL f n 15).take j)))
theorem GrI.own(w u:World)(b:Nat)(f:Nat→Nat)(n:Nat)(hb:w.heap.size<b)(hu:u.heap.size=b+2):OwnFrom u.heap.size (GrI w u b f n):=by
 rintro j W W' row ⟨h1,h2,h3,h4,A,c,h5,h6⟩ hgr hr
 have hk:∀k,k<u.heap.size→W'.heap[k]?=W.heap[k]?:=fun k hk=>hgr.block k (by omega) (fun e=>by have:=(hr k e.symm).1;omega)
 refine⟨h1.grown hgr ?_ (fun r e=>?_),fun k hS=>(hk k ?_).trans (h2 k hS),Nat.le_trans h3 hgr.size,(hk _ (by omega)).trans h4,A,c,(hk _ (by omega)).trans h5,own_grown h6 hgr (fun r e=>(hr r e).2)⟩
 ·omega
 ·have:=(hr r e).1;omega
 ·rcases hS with hS|hS<;>omega
end Go.Proofs.Ytgokdgcmkcmjeaa
namespace Go.Proofs.Ytgokdgcmkcmjeaa
open Go.RowKit Go.Shelf
attribute [local go_sem] Oper.semAt_some
theorem tgrow_own(w:World)(A:Option Addr)(n c:Nat)(f:Nat→Nat)(most:Int)(hr:RdB w w.heap.size A n f)(hn:n≤1000000):
  Calls Try.prog 57 #[.slice A n c,.int .i64 most] w fun e w'=>∃v,e=.returned (.tuple #[.agg (trA (grC f n most) v),.int .i64 (checkE f n most)])∧OwnS w' w.heap.size v (grS f n most)∧Below w.heap.size w w':=by
 have hz:=(zero_of_info infoTree).1
 obtain⟨E,hE⟩:∃E,E=checkE f n most:=⟨_,rfl⟩
 have hb1:=(Below.refl w.heap.size w).alloc (Nat.le_refl _) (.cells (trA (fun _=>0) (.slice none 0 0)) 33)
 have ht1:TreA (w.alloc (.cells (trA (fun _=>0) (.slice none 0 0)) 33)) w.heap.size (fun _=>0) (.slice none 0 0):=heap_alloc_new w _
 have hck:=check_any (w.alloc (.cells (trA (fun _=>0) (.slice none 0 0)) 33)) A n c f most ((hr.below hb1 (Nat.le_refl _)).more hb1.size) hn
 rw[←hE]at hck⊢
 have HR:=Lib.hid hr;have HCK:=Lib.hid hck;have HB1:=Lib.hid hb1;have HT1:=Lib.hid ht1
 clear hr hck hb1 ht1
 by_cases h0:E=0
 ·have hn320:n≤320:=(check_ok (hE.symm.trans h0)).2.2.1
  have e1:(fun m=>(tcN f m n:Int))=grC f n most:=by funext m;unfold grC;rw[if_pos (by rw[←hE];exact h0)]
  have e2:natsI (symL f n 15)=grS f n most:=by unfold grS;rw[if_pos (by rw[←hE];exact h0)]
  rw[←e1,←e2]
  clear hE e1 e2
  subst h0
  refine(callsIn_wide (n:=5)).1 ?_
  refine callsIn_of_wp_marks Try.func57 rfl trivial ?_ rfl
  simp only[Try.ntmps57,List.size_toArray,List.length_cons,List.length_nil,Nat.reduceAdd,Nat.reduceSub,Array.replicate_succ,Array.replicate_zero,List.push_toArray,List.append_toArray,List.nil_append,List.cons_append]
  gi_wp2_with fail
  refine⟨trivial,(callsIn_wide.2 HCK.out).mono ?_⟩
  rintro e w2 ⟨rfl,hb2⟩
  have HT2:=Lib.hid (HT1.out.below hb2 HT1.out.lt)
  have HB2:=Lib.hid (HB1.out.trans (hb2.mono HB1.out.size))
  have hsz2:w.heap.size<w2.heap.size:=by have:=hb2.size;simp at this;omega
  clear hb2 HCK HB1 HT1
  gi_wp2_with (refine⟨trivial,?_⟩;gi_at_call 69;refine(byl_in _ _ trivial rfl _ _ _ _).mono ?_;rintro e w' ⟨rfl,rfl⟩)
  obtain⟨u,hu⟩:∃u,u=(w2.alloc (.cells (trA (fun _=>0) (.slice none 0 0)) 33)).alloc (.cells #[.slice A n c] 22):=⟨_,rfl⟩
  have husz:u.heap.size=w2.heap.size+2:=by rw[hu];simp
  have hbu:Below w.heap.size w u:=by rw[hu];exact(HB2.out.alloc (by omega) _).alloc (by simp;omega) _
  have htu:TreA u w2.heap.size (fun _=>0) (.slice none 0 0):=by rw[hu];exact heap_alloc2_old w2 _ _
  have hru:TreA u w.heap.size (fun _=>0) (.slice none 0 0):=by rw[hu];exact TreA.alloc (HT2.out.alloc _) _
  have hx3:u.cell? ⟨w2.heap.size+1,0,none⟩=some (.slice A n c):=by
   rw[hu]
   have h:=(Boxed.new (w2.alloc (.cells (trA (fun _=>0) (.slice none 0 0)) 33)) 22 (.slice A n c)).cell
   rwa[World.size_alloc]at h
  have hrb:RdB u w.heap.size A n f:=HR.out.below hbu (Nat.le_refl _)
  rw[←hu]
  have HBU:=Lib.hid hbu;have HTU:=Lib.hid htu;have HRU:=Lib.hid hru;have HRBU:=Lib.hid hrb
  clear hu hbu htu hru hrb HT2 HB2
  refine wpIn_range_tied (L:=sumC f n 15) rfl (by omega) (gf:=79) (lb:=#[.pointer (some ⟨w2.heap.size+1,0,none⟩)]) rfl trivial (enters_of Try.func79 (by kernel_rfl) rfl)
   (byl_tied _ _ trivial rfl (by omega) (w2.heap.size+1) w.heap.size A n c f (SGr w.heap.size w2.heap.size) (.inr rfl) (fun k hk=>.inl hk) (by omega) u hx3 (by omega) (by omega) HRBU.out)
   (fun h k=>h.tr k) (fun W l ob ob' hl _ _ _ k hS=>World.putObj_heap_other (by rcases hS with hS|hS<;>omega)) (fun _=>rfl)
   (GrI w u w2.heap.size f n) (GrI.own w u w2.heap.size f n hsz2 husz) ?start
   (fun j=>{tmps:=#[.slice A n c,.int .i64 most,undef,undef,.pointer (some ⟨w.heap.size,0,none⟩),.int .i64 0,.int .i64 0,.pointer (some ⟨w2.heap.size,0,none⟩),.int .i64 ((symN f n j:Nat):Int),.int .u8 ((f (symN f n j):Nat):Int),.slice A n c,.int .i64 most,.int .i64 0,.int .i64 0,.bool false,undef,undef,.slice A n c,.func (.func 79) #[] #[.pointer (some ⟨w2.heap.size+1,0,none⟩)],.int .i64 ((symN f n j:Nat):Int),.int .u8 ((f (symN f n j):Nat):Int),undef,undef,undef,undef,undef,undef,undef,undef,undef,undef,undef,undef,undef,undef],defers:=[]}) ?assign ?body ?done
  case start=>
   exact⟨HBU.out,KpB.refl _ _,Nat.le_refl _,HRU.out,none,0,by rw[List.take_zero];exact HTU.out,World.ownsRow_nil _ _ _ 1⟩
  case assign=>
   intro l j W K hK
   simp only[symEnc]
   gi_wp2
   exact hK
  case body=>
   rintro l j W ⟨h1,h2,h3,h4,Ao,co,h5,h6⟩ hj
   obtain⟨hsn,hk0,hk15⟩:=sym_mem hj
   have hct:=cntT_step hj
   have htk:=sym_take hj
   have hjn:j≤1000000:=by
    have:=sumC_le f n 15;omega
   obtain⟨y,hy⟩:∃y,y=symN f n j:=⟨_,rfl⟩
   rw[←hy]at hk0 hk15 hct htk hsn⊢
   obtain⟨k,hk⟩:∃k,k=f y:=⟨_,rfl⟩
   rw[←hk]at hk0 hk15 hct⊢
   have c1:=h5.cnt (show k<16 by omega)
   have f1:=h5.frozen k
   have hcb:0≤cntT f ((symL f n 15).take j) k∧cntT f ((symL f n 15).take j) k≤1000000:=by
    unfold cntT
    have h1:=List.countP_le_length (p:=fun x=>f x==k) (l:=(symL f n 15).take j)
    have h2:=List.length_take_le j (symL f n 15)
    omega
   have hset:=h5.setCnt (show k<16 by omega) (cntT f ((symL f n 15).take j) k+1)
   rw[hct]at hset
   obtain⟨x,hx⟩:∃x,x=cntT f ((symL f n 15).take j) k:=⟨_,rfl⟩
   rw[←hx]at c1 hset hcb
   have hown2:=ownsRow_setCell_below h6 (a:=⟨w2.heap.size,k,none⟩) (by show w2.heap.size<_;omega) (.int .i64 (x+1))
   have hsz:(W.setCell ⟨w2.heap.size,k,none⟩ (.int .i64 (x+1))).heap.size=W.heap.size:=by simp[World.setCell]
   obtain⟨A',c',w3,hrun,hown3,hb3,hko3⟩:=run_one_g (W.setCell ⟨w2.heap.size,k,none⟩ (.int .i64 (x+1))) (w2.heap.size+2) Ao j co _ hown2 (y:Int) hjn (by rw[hsz];omega)
   rw[hsz]at hrun
   have hs1:=hset.syms
   have ht3:=hset.below hb3 (by omega)
   have hr3:=(h4.other (p:=⟨w2.heap.size,k,none⟩) (by show w.heap.size≠w2.heap.size;omega) (.int .i64 (x+1))).below hb3 (by omega)
   have hbb:=(h1.setCell (p:=⟨w2.heap.size,k,none⟩) (by show w.heap.size≤w2.heap.size;omega) (.int .i64 (x+1))).trans (hb3.mono (by omega))
   have hkp:KpB (SGr w.heap.size w2.heap.size) W w3:=fun b hS=>by
    have hne:b≠w2.heap.size:=by rcases hS with hS|hS<;>omega
    have hlt:b<w2.heap.size+2:=by rcases hS with hS|hS<;>omega
    exact(hb3.block b hlt).trans (Below.heap_setCell W _ _ b hne)
   have hko:KeepsOthers W w3:=(KeepsOthers.setCell W _ _).trans hko3
   have hf3:=ht3.frozen 16
   have hs3:=ht3.syms
   have hsz3:u.heap.size≤w3.heap.size:=by have:=hb3.size;rw[hsz]at this;omega
   have HSET:=Lib.hid ht3;have HR3:=Lib.hid hr3;have HBB:=Lib.hid hbb;have HRUN:=Lib.hid hrun;have HOWN:=Lib.hid hown3;have HKP:=Lib.hid hkp;have HKO:=Lib.hid hko;have H2:=Lib.hid h2;have HTK:=Lib.hid htk
   clear h1 h2 h4 h5 h6 hset hown2 hrun hown3 hb3 hko3 ht3 hr3 hbb hkp hko htk hct hx hy hk hsz hsn
   gi_wp2_with (gi_at_builtin;refine wpListIn_append_run rfl (.tmp 29) (.tmp 31) 31 rfl (.slice Ao j co) (.slice (some ⟨W.heap.size,0,none⟩) 1 1) (.slice A' (j+1) c') w3 rfl rfl HRUN.out ?_)
   refine⟨HKO.out.trans (KeepsOthers.setCell _ _ _),?_,?_⟩
   ·exact fun b hS=>(Below.heap_setCell w3 _ _ b (by show b≠w2.heap.size;rcases hS with hS|hS<;>omega)).trans (HKP.out b hS)
   ·refine⟨HBB.out.setCell (p:=⟨w2.heap.size,16,none⟩) (by show w.heap.size≤w2.heap.size;omega) _,fun b hS=>((Below.heap_setCell w3 _ _ b (by show b≠w2.heap.size;rcases hS with hS|hS<;>omega)).trans (HKP.out b hS)).trans (H2.out b hS),by rw[show(w3.setCell ⟨w2.heap.size,16,none⟩ (.slice A' (j+1) c')).heap.size=w3.heap.size by simp[World.setCell]];exact hsz3,HR3.out.other (by show w.heap.size≠w2.heap.size;omega) _,A',c',HSET.out.setSyms _,?_⟩
    have e2:natsI ((symL f n 15).take j)++[(y:Int)]=natsI ((symL f n 15).take (j+1)):=by rw[HTK.out,←natsI_app];rfl
    rw[←e2]
    exact ownsRow_setCell_below HOWN.out (by show w2.heap.size<_;omega) _
  case done=>
   rintro D W hD ⟨h1,h2,h3,h4,Ao,co,h5,h6⟩ hK
   rw[List.take_of_length_le (by rw[symL_length];omega)]at h5 h6
   have h5':TreA W w2.heap.size (fun m=>(tcN f m n:Int)) (.slice Ao (sumC f n 15) co):=by
    have e:=trA_ext (.slice Ao (sumC f n 15) co) (fun m hm=>cntT_all f n (m:=m) hm)
    unfold TreA at h5⊢
    rw[e]at h5;exact h5
   have H1:=Lib.hid h1;have H2:=Lib.hid h2;have H4:=Lib.hid h4;have H5:=Lib.hid h5';have H6:=Lib.hid h6;have HK:=Lib.hid hK
   clear h1 h2 h4 h5 h5' h6 hK
   gi_wp2_with (first
    |(refine wpListIn_load_row rfl _ _ rfl w2.heap.size rfl _ (trA (fun m=>(tcN f m n:Int)) (.slice Ao (sumC f n 15) co)) (0,0) _ H5.out Try.underlying33 rfl (by rw[trA_size];exact szTree) ?_)
    |(refine wpListIn_store_row rfl _ _ _ rfl rfl w.heap.size (trA (fun m=>(tcN f m n:Int)) (.slice Ao (sumC f n 15) co)) rfl rfl _ (trA (fun _=>0) (.slice none 0 0)) H4.out (by rw[trA_size];exact szTree) (by rw[trA_size,trA_size]) (trA_one _ _ rfl) ?_))
   have hD2:D≠w.heap.size:=by omega
   have hT:=setRow_tre (d:=fun m=>(tcN f m n:Int)) (v:=.slice Ao (sumC f n 15) co) H4.out
   obtain⟨Y,hY⟩:∃Y,Y=W.setRow w.heap.size (trA (fun m=>(tcN f m n:Int)) (.slice Ao (sumC f n 15) co)):=⟨_,rfl⟩
   have hYo:∀k,k≠w.heap.size→Y.heap[k]?=W.heap[k]?:=fun k hk=>by rw[hY];exact setRow_other _ _ _ _ hk
   have hYB:Below w.heap.size w Y:=by rw[hY];exact below_setRowT H1.out (Nat.le_refl _) _
   rw[←hY]at hT⊢
   have hKY:Y.heap[D]?=some (.deferred (some [])):=(hYo D hD2).trans HK.out
   refine⟨by simp,.inl ⟨_,_,rfl,run_takeDeferred hKY,?_⟩⟩
   refine⟨_,(cell_tree rfl _ _ w.heap.size _ _ rfl ?_).trans rfl,.slice Ao (sumC f n 15) co,rfl,?_,?_⟩
   ·exact(World.putObj_heap_other (by omega)).trans hT
   ·have ho:OwnS (Y.putObj D (.deferred none)) (w2.heap.size+2) (.slice Ao (sumC f n 15) co) (natsI (symL f n 15)):=by
     unfold OwnS
     rw[natsI_length,symL_length]
     have h0:Y.ownsRow (w2.heap.size+2) 3 1 (.slice Ao (sumC f n 15) co) (sumC f n 15) (intsL (natsI (symL f n 15))):=ownsRow_same H6.out (fun g hg=>hYo g (by omega))
     exact own_grown h0 (grownBy_putObj' Y D _) (fun r e=>by cases e;exact⟨_,hKY,rfl⟩)
    exact ownsRow_lower ho (by omega)
   ·exact hYB.grown (grownBy_putObj' Y D _) hYB.size (fun r e=>by cases e;omega)
 ·have hne:(E !=0)=true:=by simpa using h0
  have e1:grC f n most=fun _=>0:=by funext m;unfold grC;rw[if_neg (by rw[←hE];exact h0)]
  have e2:grS f n most=[]:=by unfold grS;rw[if_neg (by rw[←hE];exact h0)]
  rw[e1,e2]
  clear hE h0 e1 e2
  go_enter Try.func57,Try.ntmps57
  go_wp2_with fail
  refine HCK.out.mono ?_
  rintro e w2 ⟨rfl,hb2⟩
  have HT2:=Lib.hid (HT1.out.below hb2 HT1.out.lt)
  have HB2:=Lib.hid (HB1.out.trans (hb2.mono HB1.out.size))
  clear hb2
  have hs1:=fun(v:Value) (h:v.oneCell'=true)=>trA_one (fun _=>0) v h
  go_wp2_with (refine wpList_store_rowT rfl _ _ _ rfl w.heap.size (trA (fun _=>0) (.slice none 0 0)) rfl rfl 33 (trA (fun _=>0) (.slice none 0 0)) HT2.out (by rw[trA_size];exact szTree) rfl (hs1 _ rfl) ?_)
  refine bodyPost_ret (v:=.tuple #[.agg (trA (fun _=>0) (.slice none 0 0)),.int .i64 E]) ((cell_tree rfl _ _ w.heap.size _ _ rfl (setRow_tre HT2.out)).trans rfl) rfl ⟨_,rfl,World.ownsRow_nil _ _ _ 1,below_setRowT HB2.out (Nat.le_refl _) _⟩
end Go.Proofs.Ytgokdgcmkcmjeaa
namespace Go.Proofs.Ytgokdgcmkcmjeaa
open Go.RowKit
theorem szTreeL13(c:Nat→Int)(v:Value):(Try.prog.info? 33).map (·.size)=some (trL c v).length:=by
 rw[show(trL c v).length=17 by simp[trL,cntV]];exact szTree
theorem tree_range13{w:World}{b:Nat}{c:Nat→Int}{v:Value}(h:TreA w b c v):w.rangeAt b 0 (trL c v):=fun j u hu=>by
 rw[Nat.zero_add,cell_of_row w b j _ _ (0,0) h]
 simpa[trA]using hu
def TrF(S:Nat→Prop)(w:World)(F:Nat→Nat)(c:Nat→Int)(u:Value):Prop:=∃sy,RiF S w u sy∧IsTree c sy F
theorem TrF.fr{S:Nat→Prop}{w w':World}{F:Nat→Nat}{c:Nat→Int}{u:Value}(h:TrF S w F c u)(k:Fr S w w'):TrF S w' F c u:=by
 obtain⟨sy,h1,h2⟩:=h;exact⟨sy,h1.fr k,h2⟩
theorem psym_any(w:World)(p:Nat)(A:Option Addr)(l c:Nat)(g:Nat→Nat)(s:Rz)(h:Rdr w p A l c s)(hg:RdB w w.heap.size A l g)(hl:l≤1000000)(hs:s.1≤8*l)(S:Nat→Prop)(F:Nat→Nat)(ct:Nat→Int)(u:Value)(_hu:u.oneCell'=true)(ht:s.2=0→TrF S w F ct u):
  Calls Try.prog 47 #[.pointer (some ⟨p,0,none⟩),.agg (trA ct u)] w fun e w'=>e=.returned (.int .i64 (syV (readR F 320 g l s.1 17 0) s:Int))∧Rdr w' p A l c (syS (readR F 320 g l s.1 17 0) s)∧Fr (At p) w w':=by
 obtain⟨W1,hW1⟩:∃W1,W1=w.alloc (.cells (trA ct u) 33):=⟨_,rfl⟩
 have hb1:Below w.heap.size w W1:=by rw[hW1];exact(Below.refl _ _).alloc (Nat.le_refl _) _
 have hs1:W1.heap.size=w.heap.size+1:=by rw[hW1];simp
 have hx1:TreA W1 w.heap.size ct u:=by rw[hW1];exact heap_alloc_new w _
 have h1:Rdr W1 p A l c s:=BoxC.below h hb1 h.lt
 have c2:=h1.e
 have HW1:=Lib.hid hW1
 have HB1:=Lib.hid hb1;have HS1:=Lib.hid hs1
 obtain⟨a,e0⟩:=s
 by_cases h0:e0=0
 ·subst h0
  have ha:a≤8*l:=hs
  obtain⟨sy,hrd,hit⟩:=ht rfl
  have c0:∀q:After W1.heap.size W1,q.w.cell? ⟨p,0,none⟩=some (.slice A l c):=fun q=>Rdr.b (BoxC.below h1 q.h h1.lt)
  have c1:∀q:After W1.heap.size W1,q.w.cell? ⟨p,1,none⟩=some (.int .i64 (a:Int)):=fun q=>Rdr.a (BoxC.below h1 q.h h1.lt)
  have R1:=Lib.hid fun V (hV:Below W1.heap.size W1 V)=>(BoxC.below h1 hV h1.lt:Rdr V p A l c (a,0))
  have K1:=Lib.hid fun V (hV:Below W1.heap.size W1 V) x=>pkeep_any V p A l c (a,0) (BoxC.below h1 hV h1.lt) x
  have LLA:Hid (∀V,(∃q:After W1.heap.size W1,V=q.w)→V.rangeAt w.heap.size 0 (trL ct u)):=Lib.hid (by
   rintro V ⟨q,rfl⟩
   exact tree_range13 (hx1.below q.h (by omega)))
  have T1:=Lib.hid fun V (hV:Below W1.heap.size W1 V)=>(tnext_any V ct u sy ((hrd.1.below (hb1.trans (hV.mono hb1.size)) (Nat.le_refl _)).more (by have:=hV.size;omega)) (by have:=(isTree_length hit).2;omega) A l c g ((hg.below (hb1.trans (hV.mono hb1.size)) (Nat.le_refl _)).more (by have:=hV.size;omega)) hl (a:Int) (by omega) (by omega)).mono fun e w' ⟨q1,q2⟩=>(show e=Ending.returned (RdOut (readR F 320 g l a 17 0))∧Below W1.heap.size W1 w' by
   rcases q1 with⟨f,hf,he⟩|⟨hno,_⟩
   ·rw[isTree_one hf hit]at he
    unfold nxtP at he
    rw[if_neg (by omega),Int.toNat_natCast]at he
    exact⟨he,hV.trans (q2.mono hV.size)⟩
   ·exact absurd hit (hno F))
  show Calls _ _ _ _ (fun e w'=>e=.returned (.int .i64 (syV (readR F 320 g l a 17 0) (a,0):Int))∧Rdr w' p A l c (syS (readR F 320 g l a 17 0) (a,0))∧Fr (At p) w w')
  obtain⟨⟨y,b,e⟩,hr⟩:∃r,r=readR F 320 g l a 17 0:=⟨_,rfl⟩
  rw[←hr]at T1⊢
  unfold RdOut trA at T1
  dsimp only at T1
  by_cases he:e=0
  ·subst he
   have e1:syV (y,b,(0:Int)) (a,0)=y:=rfl
   have e2:syS (y,b,(0:Int)) (a,0)=(b,0):=rfl
   rw[e1,e2]
   clear e1 e2 h hg ht hrd hit hr hs h1 hx1 hb1 hs1 hW1 K1 _hu ha
   go_enter Try.func47,Try.ntmps47
   go_wp2_with (first|(rw[←HW1.out])|fail)
   refine wp_region_after W1.heap.size W1 (Below.refl _ _) (by kernel_rfl) (by kernel_rfl) ?_
   repeat (first
    |(go_big_quiet_want;with_reducible refine quiet_load_row _ _ rfl _ _ rfl _ _ LLA.out Try.underlying33 rfl (szTreeL13 _ _) ?_;go_big_quiet_on;simp only[Act.put,List.setIfInBounds_toArray,List.set_cons_zero,List.set_cons_succ])
    |(go_big_quiet_step (with_reducible exact call_after T1.out _)))
   refine wpQuiet_nil ?_
   rintro V ⟨⟨V,hV⟩,rfl⟩
   have HV:=Lib.hid hV
   have RV:Rdr V p A l c (a,0):=R1.out V hV
   have k1:=RV.a
   have k2:=RV.free 1
   have HRV:=Lib.hid RV
   clear hV RV R1 c0 c1 c2 T1
   go_wp2
   go_ret
   refine⟨rfl,HRV.out.setA b,((Fr.of HB1.out).trans (Fr.of HV.out)).trans (Fr.cell _ _ _ _)⟩
  ·have e1:syV (y,b,e) (a,0)=0:=by unfold syV;rw[if_neg (fun h=>h rfl),if_pos he]
   have e2:syS (y,b,e) (a,0)=keepS (a,0) e:=by unfold syS keepS;rw[if_neg (fun h=>h rfl),if_pos he,if_pos rfl]
   have d0:(e==0)=false:=beq_eq_false_iff_ne.2 he
   have d1:(e !=0)=true:=by simp[bne,d0]
   rw[e1,e2]
   clear e1 e2 h hg ht hrd hit hr hs h1 hx1 hb1 hs1 hW1 _hu ha he R1
   go_enter Try.func47,Try.ntmps47
   go_wp2_with (first|(rw[←HW1.out])|fail)
   refine wp_region_after W1.heap.size W1 (Below.refl _ _) (by kernel_rfl) (by kernel_rfl) ?_
   repeat (first
    |(go_big_quiet_want;with_reducible refine quiet_load_row _ _ rfl _ _ rfl _ _ LLA.out Try.underlying33 rfl (szTreeL13 _ _) ?_;go_big_quiet_on;simp only[Act.put,List.setIfInBounds_toArray,List.set_cons_zero,List.set_cons_succ])
    |(go_big_quiet_step (with_reducible exact call_after T1.out _)))
   refine wpQuiet_nil ?_
   rintro V ⟨⟨V,hV⟩,rfl⟩
   have HV:=Lib.hid hV
   have KV:=Lib.hid (K1.out V hV e)
   clear hV c0 c1 c2 T1 K1
   go_wp2_with fail
   refine KV.out.mono ?_
   rintro e w2 ⟨rfl,h2,f2⟩
   have H2:=Lib.hid h2;have F2:=Lib.hid f2
   clear h2 f2
   go_wp2
   go_ret
   exact⟨rfl,H2.out,((Fr.of HB1.out).trans (Fr.of HV.out)).trans F2.out⟩
 ·have d0:(e0==0)=false:=beq_eq_false_iff_ne.2 h0
  have d1:(e0 !=0)=true:=by simp[bne,d0]
  rw[syS_err (s:=(a,e0)) h0,syV_err (s:=(a,e0)) h0]
  have HH:=Lib.hid h1
  clear h hg h0 hs ht h1 hx1 hb1 hs1 hW1
  go_enter Try.func47,Try.ntmps47
  go_wp2_with (first|(rw[←HW1.out])|fail)
  go_ret
  exact⟨rfl,HH.out,Fr.of HB1.out⟩
end Go.Proofs.Ytgokdgcmkcmjeaa
namespace Go.Proofs.Ytgokdgcmkcmjeaa
open Go.RowKit
def smC(M:Nat→Nat):Nat→Nat
 |0=>0
 |b+1=>smC M b+M b
def smS(M:Nat→Nat):Nat→Nat
 |0=>0
 |b+1=>smS M b+M b*p2N b
def kdC(l m f s o:Int)(M:Nat→Nat):Nat→Int:=fun i=>if i=0 then l else if i=1 then m else if i=2 then f else if i=3 then s else if i<18 then((M (i-4):Nat):Int)else o
def kdA(l m f s o:Int)(M:Nat→Nat):Array Value:=tblA (kdC l m f s o M) 19
theorem infoKd:(Try.prog.info? 112).map (fun i=>(i.zero,i.size))=some (some (.agg (kdA 0 0 0 0 0 (fun _=>0))),19):=by kernel_rfl
theorem szKd(T:Nat→Int):(Try.prog.info? 112).map (·.size)=some (tblA T 19).size:=by rw[tblA_size];kernel_rfl
def Knd(w:World)(g:Nat)(l m f s o:Int)(M:Nat→Nat):Prop:=w.heap[g]?=some (.cells (kdA l m f s o M) 112 (0,0))
section
variable {w w':World} {g:Nat} {l m f s o:Int} {M:Nat→Nat}
theorem Knd.lt(h:Knd w g l m f s o M):g<w.heap.size:=(Array.getElem?_eq_some_iff.1 h).1
theorem Knd.at(h:Knd w g l m f s o M){i:Nat}(hi:i<19):w.cell? ⟨g,i,none⟩=some (.int .i64 (kdC l m f s o M i)):=tbl_cell h hi
theorem Knd.least(h:Knd w g l m f s o M):w.cell? ⟨g,0,none⟩=some (.int .i64 l):=h.at (i:=0) (by omega)
theorem Knd.most(h:Knd w g l m f s o M):w.cell? ⟨g,1,none⟩=some (.int .i64 m):=h.at (i:=1) (by omega)
theorem Knd.first(h:Knd w g l m f s o M):w.cell? ⟨g,2,none⟩=some (.int .i64 f):=h.at (i:=2) (by omega)
theorem Knd.last(h:Knd w g l m f s o M):w.cell? ⟨g,3,none⟩=some (.int .i64 s):=h.at (i:=3) (by omega)
theorem Knd.own(h:Knd w g l m f s o M):w.cell? ⟨g,18,none⟩=some (.int .i64 o):=h.at (i:=18) (by omega)
theorem Knd.many(h:Knd w g l m f s o M){b:Nat}(hb:b<14):w.cell? ⟨g,4+b,none⟩=some (.int .i64 ((M b:Nat):Int)):=by
 have:=h.at (i:=4+b) (by omega)
 have e:kdC l m f s o M (4+b)=((M b:Nat):Int):=by
  unfold kdC
  rw[if_neg (by omega),if_neg (by omega),if_neg (by omega),if_neg (by omega),if_pos (by omega),show 4+b-4=b by omega]
 rw[e]at this;exact this
theorem Knd.frozen(h:Knd w g l m f s o M)(j:Nat):w.frozen? ⟨g,j,none⟩=false:=frozen_of_row w g j _ _ h
theorem Knd.below{B:Nat}(h:Knd w g l m f s o M)(hb:Below B w w')(hg:g<B):Knd w' g l m f s o M:=(hb.block g hg).trans h
theorem Knd.drew(h:Knd w g l m f s o M):Knd w.drew g l m f s o M:=h
theorem Knd.drewN(h:Knd w g l m f s o M)(k:Nat):Knd (w.drewN k) g l m f s o M:=h
end
theorem knd_new(w:World)(l m f s o:Int)(M:Nat→Nat):Knd (w.alloc (.cells (kdA l m f s o M) 112)) w.heap.size l m f s o M:=heap_alloc_new w _
theorem has9_any(w:World)(l m f s o:Int)(M:Nat→Nat)(y:Int)(h:Bool)(hh:h=decide (f≤y∧y≤s)):
  Calls Try.prog 76 #[.agg (kdA l m f s o M),.int .i64 y] w fun e w'=>e=.returned (.bool h)∧Below w.heap.size w w':=by
 have hk:=knd_new w l m f s o M
 have hb:Below w.heap.size w (w.alloc (.cells (kdA l m f s o M) 112)):=(Below.refl _ _).alloc (Nat.le_refl _) _
 have k2:=hk.first
 have k3:=hk.last
 obtain⟨a,ha⟩:∃a,a=decide (f≤y):=⟨_,rfl⟩
 obtain⟨c,hc⟩:∃c,c=decide (y≤s):=⟨_,rfl⟩
 have hh2:h=(a&&c):=by rw[hh,ha,hc];simp
 have HB:=Lib.hid hb;have HH:=Lib.hid hh2
 clear hk hb hh hh2
 have ha1:decide (f≤y)=a:=ha.symm
 have hc1:decide (y≤s)=c:=hc.symm
 clear ha hc
 rcases a with _|_
 ·go_enter Try.func76,Try.ntmps76
  go_wp2
  go_ret
  exact⟨by rw[HH.out];rfl,HB.out⟩
 ·go_enter Try.func76,Try.ntmps76
  go_wp2
  go_ret
  exact⟨by rw[HH.out];rfl,HB.out⟩
theorem belowN9{B:Nat}{a w:World}(h:Below B a w)(n:Nat):Below B a (w.drewN n):=⟨h.os,h.tape,h.output,h.size,h.block⟩
theorem sh9(z b:Nat)(hz:z≤40000)(hb:b<14):wrap64 ((z:Int)*2^b)=((z*p2N b:Nat):Int)∧z*p2N b≤327680000:=by
 have e:(z:Int)*2^b=((z*2^b:Nat):Int):=by rw[Int.natCast_mul,Int.natCast_pow];rfl
 have h1:2^b≤2^13:=Nat.pow_le_pow_right (by omega) (by omega)
 have h2:z*2^b≤40000*2^13:=Nat.mul_le_mul hz h1
 have h3:40000*2^13=327680000:=rfl
 rw[e]
 unfold p2N
 generalize z*2^b=x at h2
 unfold wrap64
 omega
def BgOut(l f:Int)(M:Nat→Nat)(y:Int)(e:Ending):Prop:=
 ∃b z:Nat,b<14∧z<M b∧y=f+((smC M b+z:Nat):Int)∧e=.returned (.tuple #[.int .i64 (l+((smS M b+z*p2N b:Nat):Int)),.int .i64 (b:Int)])
theorem smC_mono(M:Nat→Nat){i:Nat}:∀d,smC M i≤smC M (i+d)
 |0=>Nat.le_refl _
 |d+1=>Nat.le_trans (smC_mono M d) (Nat.le_add_right _ _)
theorem smS_mono(M:Nat→Nat){i:Nat}:∀d,smS M i≤smS M (i+d)
 |0=>Nat.le_refl _
 |d+1=>Nat.le_trans (smS_mono M d) (Nat.le_add_right _ _)
theorem smC_le(M:Nat→Nat){i j:Nat}(h:i≤j):smC M i≤smC M j:=by
 have:=smC_mono M (i:=i) (j-i);rwa[show i+(j-i)=j by omega]at this
theorem smS_le(M:Nat→Nat){i j:Nat}(h:i≤j):smS M i≤smS M j:=by
 have:=smS_mono M (i:=i) (j-i);rwa[show i+(j-i)=j by omega]at this
theorem begin9_own(w:World)(l m f s o:Int)(M:Nat→Nat)(ho:o≠0):
  Calls Try.prog 77 #[.agg (kdA l m f s o M),.int .i64 s] w fun e w'=>e=.returned (.tuple #[.int .i64 o,.int .i64 0])∧Below w.heap.size w w':=by
 have hk:=knd_new w l m f s o M
 have hb:Below w.heap.size w (w.alloc (.cells (kdA l m f s o M) 112)):=(Below.refl _ _).alloc (Nat.le_refl _) _
 have k2:=hk.own
 have k3:=hk.last
 have h1:(o !=0)=true:=by simpa using ho
 have h2:(s==s)=true:=by simp
 have HB:=Lib.hid hb
 clear hk hb ho
 go_enter Try.func77,Try.ntmps77
 go_wp2
 go_ret2
 exact⟨rfl,HB.out⟩
theorem begin9_any(w:World)(l m f s o:Int)(M:Nat→Nat)(y:Int)(hown:o=0∨y≠s)(hl:0≤l∧l≤1000)(hf:0≤f∧f≤1000)(h1:f≤y)(h2:y<f+((smC M 14:Nat):Int))(hC:smC M 14≤40)(hS:smS M 14≤40000):
  Calls Try.prog 77 #[.agg (kdA l m f s o M),.int .i64 y] w fun e w'=>BgOut l f M y e∧Below w.heap.size w w':=by
 have hk:=knd_new w l m f s o M
 have hb:Below w.heap.size w (w.alloc (.cells (kdA l m f s o M) 112)):=(Below.refl _ _).alloc (Nat.le_refl _) _
 have k2:=hk.own
 have k3:=hk.last
 have k4:=hk.least
 have k5:=hk.first
 obtain⟨B1,hB1⟩:∃B1,B1=(o !=0):=⟨_,rfl⟩
 obtain⟨B2,hB2⟩:∃B2,B2=(y==s):=⟨_,rfl⟩
 have hyb:y≤1040:=by omega
 have hB:B1=false∨B2=false:=by
  rcases hown with e|e
  ·left;rw[hB1,e];rfl
  ·right;rw[hB2];simpa using e
 have e1:=hB1.symm
 have e2:=hB2.symm
 have HB:=Lib.hid hb;have HC:=Lib.hid hC;have HS:=Lib.hid hS;have HK:=Lib.hid hk;have H2:=Lib.hid h2;have HBB:=Lib.hid hB
 clear hb hC hS hk h2 hB1 hB2 hown hB
 rcases B1 with _|_<;>rcases B2 with _|_
 case true.true=>rcases HBB.out with h|h<;>cases h
 all_goals(
  clear HBB
  go_enter Try.func77,Try.ntmps77
  go_wp2
  go_quiet (fail)
  go_wp2
  go_loopw [4,5,6] (fun lv bv fv wr=>∃b z S:Nat,b<14∧z≤40∧S≤40000∧lv=.int .i64 (l+(S:Int))∧bv=.int .i64 (b:Int)∧fv=.int .i64 (z:Int)∧Hid (S=smS M b)∧Hid (y=f+((smC M b+z:Nat):Int))∧Hid (Knd wr w.heap.size l m f s o M)∧Hid (Below w.heap.size w wr)) (fun _ bv _ _=>14-(intOf bv).toNat)
  case atStart=>
   refine⟨0,(y-f).toNat,0,by omega,?_,by omega,by simp,rfl,?_,Lib.hid rfl,Lib.hid ?_,Lib.hid (HK.out.drewN _),Lib.hid (belowN9 HB.out _)⟩
   ·have:=H2.out;have:=HC.out;omega
   ·exact val_int (by omega)
   ·show y=f+((0+(y-f).toNat:Nat):Int);omega
  case round=>
   obtain⟨b,z,S,hb,hz,hS,rfl,rfl,rfl,HSS,HY,HKR,HBR⟩:=hrel
   have c1:=HKR.out.many hb
   obtain⟨q,hq⟩:∃q,q=M b:=⟨_,rfl⟩
   rw[←hq]at c1
   have HQ:=Lib.hid hq
   clear hq
   have hq40:q≤40:=by
    rw[HQ.out]
    have:smC M (b+1)≤smC M 14:=smC_le M (by omega)
    have h3:smC M (b+1)=smC M b+M b:=rfl
    have:=HC.out;omega
   by_cases hlt:q≤z
   ·have hlt2:(q:Int)≤(z:Int):=by omega
    have hd:decide ((q:Int)≤(z:Int))=true:=decY hlt2
    have hd2:decide (q≤z)=true:=decY hlt
    go_wp2
    go_roundw
    case rel=>
     obtain⟨g1,g2⟩:=sh9 q b (by omega) hb
     have hb13:b+1<14:=by
      rcases Nat.lt_or_ge (b+1) 14 with h|h
      ·exact h
      ·exfalso
       have e13:b=13:=by omega
       have h1:=H2.out;have h2:=HY.out
       have h3:smC M 14=smC M 13+M 13:=rfl
       rw[e13]at h2 HQ
       have:=HQ.out
       omega
     have hS1:smS M (b+1)=S+q*p2N b:=by rw[HSS.out,HQ.out];rfl
     have hS2:smS M (b+1)≤40000:=Nat.le_trans (smS_le M (by omega)) HS.out
     have hC1:smC M (b+1)=smC M b+q:=by rw[HQ.out];rfl
     refine⟨b+1,z-q,S+q*p2N b,hb13,by omega,by omega,val_int ?_,by go_num,val_int (by omega),Lib.hid hS1.symm,Lib.hid ?_,HKR,HBR⟩
     ·rw[g1];unfold wrap64;omega
     ·rw[HY.out,hC1];omega
    case measure=>simp[intOf];omega
   ·have hd:decide ((q:Int)≤(z:Int))=false:=decN (by omega)
    have hd2:decide (q≤z)=false:=decN hlt
    go_wp2
    go_ret2
    obtain⟨g1,g2⟩:=sh9 z b (by omega) hb
    refine⟨⟨b,z,hb,by rw[←HQ.out];omega,HY.out,?_⟩,HBR.out⟩
    rw[g1,←HSS.out]
    have e:wrap64 (l+(S:Int)+((z*p2N b:Nat):Int))=l+((S+z*p2N b:Nat):Int):=by unfold wrap64;omega
    rw[e]
    rfl)
def BgN(l f s o:Int)(M:Nat→Nat)(y L:Int)(b:Nat):Prop:=
 (o≠0∧y=s∧L=o∧b=0)∨((o=0∨y≠s)∧∃z:Nat,b<14∧z<M b∧y=f+((smC M b+z:Nat):Int)∧L=l+((smS M b+z*p2N b:Nat):Int))
structure KndOk (l m f s o:Int) (M:Nat→Nat):Prop where
 l0:0≤l∧l≤1000
 f0:0≤f∧f≤1000
 o0:0≤o∧o≤1000
 s0:s≤1100
 m0:m<l+((smS M 14:Nat):Int)
 sC:(o=0∧s<f+((smC M 14:Nat):Int))∨(o≠0∧s≤f+((smC M 14:Nat):Int))
 C14:smC M 14≤40
 S14:smS M 14≤40000
theorem many_le{M:Nat→Nat}{b:Nat}(hb:b<14):smC M b+M b≤smC M 14∧smS M b+M b*p2N b≤smS M 14:=
 ⟨smC_le M (i:=b+1) (by omega),smS_le M (i:=b+1) (by omega)⟩
theorem bg_le{l m f s o:Int}{M:Nat→Nat}(hk:KndOk l m f s o M){y L:Int}{b:Nat}(h:BgN l f s o M y L b):0≤L∧L≤42000∧b<14:=by
 have h1:=hk.l0;have h2:=hk.o0;have h3:=hk.S14
 rcases h with⟨_,_,rfl,rfl⟩|⟨_,z,hb,hz,_,rfl⟩
 ·omega
 ·have h4:=(many_le (M:=M) hb).2
  have h5:z*p2N b≤M b*p2N b:=Nat.mul_le_mul_right _ (by omega)
  omega
theorem begin9_all(w:World)(l m f s o:Int)(M:Nat→Nat)(hk:KndOk l m f s o M)(y:Int)(hy:f≤y∧y≤s):
  Calls Try.prog 77 #[.agg (kdA l m f s o M),.int .i64 y] w fun e w'=>(∃(L:Int) (b:Nat),BgN l f s o M y L b∧e=.returned (.tuple #[.int .i64 L,.int .i64 (b:Int)]))∧Below w.heap.size w w':=by
 by_cases h:o≠0∧y=s
 ·obtain⟨h1,rfl⟩:=h
  refine(begin9_own w l m f y o M h1).mono ?_
  rintro e w' ⟨rfl,hb⟩
  exact⟨⟨o,0,.inl ⟨h1,rfl,rfl,rfl⟩,rfl⟩,hb⟩
 ·have h2:o=0∨y≠s:=by
   by_cases h0:o=0
   ·exact .inl h0
   ·exact .inr fun e=>h ⟨h0,e⟩
  have hC:=hk.sC
  refine(begin9_any w l m f s o M y h2 hk.l0 hk.f0 hy.1 (by rcases h2 with e|e<;>omega) hk.C14 hk.S14).mono ?_
  rintro e w' ⟨⟨b,z,h3,h4,h5,rfl⟩,hb⟩
  exact⟨⟨_,b,.inr ⟨h2,z,h3,h4,h5,rfl⟩,rfl⟩,hb⟩
end Go.Proofs.Ytgokdgcmkcmjeaa
namespace Go.Proofs.Ytgokdgcmkcmjeaa
open Go.RowKit
section
variable {w:World} {g:Nat} {l m f s o:Int} {M:Nat→Nat}
theorem Knd.setMany(h:Knd w g l m f s o M){j:Nat}(hj:j<14)(x:Nat):Knd (w.setCell ⟨g,4+j,none⟩ (.int .i64 (x:Int))) g l m f s o (fun i=>if i=j then x else M i):=by
 unfold Knd kdA
 rw[heap_setCell_same w g (4+j) _ _ _ h]
 unfold kdA
 rw[tbl_set]
 refine congrArg (fun a=>some (Obj.cells a 112 (0,0))) (tbl_ext fun i hi=>?_)
 unfold kdC
 by_cases e:i=4+j
 ·subst e
  rw[if_pos rfl,if_neg (by omega),if_neg (by omega),if_neg (by omega),if_neg (by omega),if_pos (by omega)]
  show(x:Int)=((if 4+j-4=j then x else M (4+j-4):Nat):Int)
  rw[if_pos (by omega)]
 ·rw[if_neg e]
  by_cases h4:i<4
  ·have:i=0∨i=1∨i=2∨i=3:=by omega
   rcases this with rfl|rfl|rfl|rfl<;>rfl
  ·rw[if_neg (show¬i=0 by omega),if_neg (show¬i=1 by omega),if_neg (show¬i=2 by omega),if_neg (show¬i=3 by omega),if_neg (show¬i=0 by omega),if_neg (show¬i=1 by omega),if_neg (show¬i=2 by omega),if_neg (show¬i=3 by omega)]
   show _=(if i<18 then((if i-4=j then x else M (i-4):Nat):Int)else o)
   rw[if_neg (show¬i-4=j by omega)]
theorem Knd.setAt(h:Knd w g l m f s o M){l' m' f' s' o':Int}(k:Nat)(x:Int)(he:∀i,i<19→(if i=k then x else kdC l m f s o M i)=kdC l' m' f' s' o' M i):Knd (w.setCell ⟨g,k,none⟩ (.int .i64 x)) g l' m' f' s' o' M:=by
 unfold Knd kdA
 rw[heap_setCell_same w g k _ _ _ h]
 unfold kdA
 rw[tbl_set]
 exact congrArg (fun a=>some (Obj.cells a 112 (0,0))) (tbl_ext he)
theorem Knd.setMost(h:Knd w g l m f s o M)(x:Int):Knd (w.setCell ⟨g,1,none⟩ (.int .i64 x)) g l x f s o M:=
 h.setAt 1 x fun i hi=>by
  unfold kdC
  by_cases e:i=1
  ·subst e;rfl
  ·rw[if_neg e];by_cases e0:i=0
   ·subst e0;rfl
   ·rw[if_neg e0,if_neg e,if_neg e0,if_neg e]
theorem Knd.setLast(h:Knd w g l m f s o M)(x:Int):Knd (w.setCell ⟨g,3,none⟩ (.int .i64 x)) g l m f x o M:=
 h.setAt 3 x fun i hi=>by
  unfold kdC
  by_cases e:i=3
  ·subst e;rfl
  ·rw[if_neg e,if_neg e,if_neg e]
theorem Knd.setOwn(h:Knd w g l m f s o M)(x:Int):Knd (w.setCell ⟨g,18,none⟩ (.int .i64 x)) g l m f s x M:=
 h.setAt 18 x fun i hi=>by
  unfold kdC
  by_cases e:i=18
  ·subst e;rfl
  ·rw[if_neg e]
   by_cases e0:i<18
   ·rw[if_pos e0,if_pos e0]
   ·omega
theorem Knd.other(h:Knd w g l m f s o M){p:Addr}(hp:g≠p.block)(u:Value):Knd (w.setCell p u) g l m f s o M:=(Below.heap_setCell w p u g hp).trans h
end
theorem built_kd(a b c d:Int):Try.prog.built 112 [(0,.int .i64 a),(1,.int .i64 b),(2,.int .i64 c),(3,.int .i64 d)]=some (kdA a b c d 0 (fun _=>0)):=by kernel_rfl
def fstM(L:List Nat)(j:Nat):Nat→Nat:=fun i=>if i<j then L.getD i 0 else 0
theorem fstM_next(L:List Nat)(j:Nat):(fun i=>if i=j then L.getD j 0 else fstM L j i)=fstM L (j+1):=by
 funext i
 unfold fstM
 by_cases e:i=j
 ·subst e;rw[if_pos rfl,if_pos (by omega)]
 ·rw[if_neg e]
  by_cases h:i<j
  ·rw[if_pos h,if_pos (by omega)]
  ·rw[if_neg h,if_neg (by omega)]
theorem fstM_all(L:List Nat):fstM L L.length=fun i=>L.getD i 0:=by
 funext i
 unfold fstM
 by_cases h:i<L.length
 ·rw[if_pos h]
 ·rw[if_neg h,List.getD_eq_getElem?_getD,List.getElem?_eq_none (by omega)];rfl
def lsM(L:List Nat):Nat→Nat:=fun i=>L.getD i 0
theorem filled9_any(w:World)(l f:Int)(A:Option Addr)(cap N:Nat)(L:List Nat)(hN:N=L.length)(hN14:N≤14)(hr:RdI w w.heap.size A (natsI L))(hl:0≤l∧l≤1000)(hf:0≤f∧f≤1000)(hS:smS (lsM L) N≤40000)(hC:smC (lsM L) N≤40):
  Calls Try.prog 75 #[.int .i64 l,.int .i64 f,.slice A N cap] w fun e w'=>e=.returned (.agg (kdA l (l-1+((smS (lsM L) N:Nat):Int)) f (f-1+((smC (lsM L) N:Nat):Int)) 0 (lsM L)))∧Below w.heap.size w w':=by
 have hz:=(zero_of_info infoKd).1
 have HR:=Lib.hid hr;have HS:=Lib.hid hS;have HC:=Lib.hid hC;have HN:=Lib.hid hN
 obtain⟨hl0,hl1⟩:=hl
 obtain⟨hf0,hf1⟩:=hf
 clear hr hS hC hN
 obtain⟨V,hV⟩:∃V,V=mkV (w.alloc (.cells (kdA 0 0 0 0 0 (fun _=>0)) 112)) (kdA 0 0 0 0 0 (fun _=>0)) (kdA l (l-1) f (f-1) 0 (fun _=>0)) 112:=⟨_,rfl⟩
 have v1:Knd V (w.heap.size+1) l (l-1) f (f-1) 0 (fun _=>0):=by
  have:=mkV_row (w.alloc (.cells (kdA 0 0 0 0 0 (fun _=>0)) 112)) (kdA 0 0 0 0 0 (fun _=>0)) (kdA l (l-1) f (f-1) 0 (fun _=>0)) 112
  rw[World.size_alloc,←hV]at this;exact this
 have bV:=mkV_below (w.alloc (.cells (kdA 0 0 0 0 0 (fun _=>0)) 112)) (kdA 0 0 0 0 0 (fun _=>0)) (kdA l (l-1) f (f-1) 0 (fun _=>0)) 112
 rw[←hV]at bV
 have v0:Knd V w.heap.size 0 0 0 0 0 (fun _=>0):=(knd_new w 0 0 0 0 0 (fun _=>0)).below bV (by simp)
 have b0:Below w.heap.size w V:=((Below.refl _ _).alloc (Nat.le_refl _) _).trans (bV.mono (by simp))
 have hn:=(heap_alloc_new (w.alloc (.cells (kdA 0 0 0 0 0 (fun _=>0)) 112)) (.cells (kdA 0 0 0 0 0 (fun _=>0)) 112))
 rw[World.size_alloc]at hn
 have hVe:((w.alloc (.cells (kdA 0 0 0 0 0 (fun _=>0)) 112)).alloc (.cells (kdA 0 0 0 0 0 (fun _=>0)) 112)).setRow (w.heap.size+1) (kdA l (l-1) f (f-1) 0 (fun _=>0))=V:=by
  rw[hV];unfold mkV;rw[World.size_alloc]
 have V0:=Lib.hid v0;have V1:=Lib.hid v1;have B0:=Lib.hid b0;have HVN:=Lib.hid hn;have HVE:=Lib.hid hVe
 clear v0 v1 b0 hn hVe bV hV
 go_enter Try.func75,Try.ntmps75
 go_wp2_with (first
  |(refine wpList_buildTo rfl 112 #[(0,.tmp 10),(1,.tmp 12),(2,.tmp 13),(3,.tmp 15)] rfl (some 16) rfl (kdA l (l-1) f (f-1) 0 (fun _=>0)) ?_ ?_;focus(simpa[Act.eval]using built_kd l (l-1) f (f-1)))
  |(refine wpList_store_rowTo rfl _ _ _ rfl rfl (w.heap.size+1) (kdA l (l-1) f (f-1) 0 (fun _=>0)) rfl rfl 112 (kdA 0 0 0 0 0 (fun _=>0)) HVN.out (szKd _) rfl (tblA_one _ _) ?_;rw[HVE.out])
  |fail)
 go_loopw [19] (fun iv wr=>∃j S C:Nat,j≤N∧S≤40000∧C≤40∧iv=.int .i64 (j:Int)∧Hid (S=smS (lsM L) j)∧Hid (C=smC (lsM L) j)∧Hid (Knd wr w.heap.size 0 0 0 0 0 (fun _=>0))∧Hid (Knd wr (w.heap.size+1) l (l-1+(S:Int)) f (f-1+(C:Int)) 0 (fstM L j))∧Hid (Below w.heap.size w wr)) (fun iv _=>N-(intOf iv).toNat)
 case atStart=>
  refine⟨0,0,0,Nat.zero_le _,by omega,by omega,rfl,Lib.hid rfl,Lib.hid rfl,V0,Lib.hid ?_,B0⟩
  have h0:fstM L 0=fun _=>0:=funext fun i=>if_neg (by omega)
  rw[h0]
  simpa using V1.out
 case round=>
  obtain⟨j,S,C,hj,hS,hC,rfl,HSS,HCC,K0,K1,HBR⟩:=hrel
  by_cases hlt:j<N
  ·have hj14:j<14:=by omega
   obtain⟨b,o,rfl,_,hc⟩:=(HR.out.below HBR.out (Nat.le_refl _)).at (k:=j) (by rw[natsI_length,←HN.out];exact hlt)
   have e1:=hc j (by rw[natsI_length,←HN.out];exact hlt)
   rw[natsI_get]at e1
   obtain⟨q,hq⟩:∃q,q=L.getD j 0:=⟨_,rfl⟩
   rw[←hq]at e1
   have HQ:=Lib.hid hq
   clear hq hc
   have r1:=K1.out.many hj14
   have r2:=K1.out.frozen (4+j)
   have s1:=K1.out.setMany hj14 q
   have r3:=s1.most
   have r4:=s1.frozen 1
   have s2:=(s1.setMost (wrap64 (l-1+(S:Int)+wrap64 ((q:Int)*2^j)))).drew
   have r5:=s2.last
   have r6:=s2.frozen 3
   have s3:=s2.setLast (f-1+(C:Int)+(q:Int))
   have t3:=(((K0.out.other (p:=⟨w.heap.size+1,4+j,none⟩) (by simp) (.int .i64 (q:Int))).other (p:=⟨w.heap.size+1,1,none⟩) (by simp) (.int .i64 (wrap64 (l-1+(S:Int)+wrap64 ((q:Int)*2^j))))).drew).other (p:=⟨w.heap.size+1,3,none⟩) (by simp) (.int .i64 (f-1+(C:Int)+(q:Int)))
   have b3:=((((HBR.out.setCell (p:=⟨w.heap.size+1,4+j,none⟩) (by simp) (.int .i64 (q:Int))).setCell (p:=⟨w.heap.size+1,1,none⟩) (by simp) (.int .i64 (wrap64 (l-1+(S:Int)+wrap64 ((q:Int)*2^j))))).drew)).setCell (p:=⟨w.heap.size+1,3,none⟩) (by simp) (.int .i64 (f-1+(C:Int)+(q:Int)))
   have S3:=Lib.hid s3;have T3:=Lib.hid t3;have B3:=Lib.hid b3
   clear s1 s2 s3 t3 b3
   have hq40:q≤40:=by
    have h1:smC (lsM L) (j+1)≤smC (lsM L) N:=smC_le _ (by omega)
    have h2:smC (lsM L) (j+1)=smC (lsM L) j+q:=by rw[HQ.out];rfl
    have:=HC.out;omega
   go_wp2
   go_region
   all_goals(
    go_wp2
    go_roundw
    case rel=>
     obtain⟨g1,g2⟩:=sh9 q j (by omega) hj14
     have hS1:smS (lsM L) (j+1)=S+q*p2N j:=by rw[HSS.out,HQ.out];rfl
     have hS2:smS (lsM L) (j+1)≤40000:=Nat.le_trans (smS_le _ (by omega)) HS.out
     have hC1:smC (lsM L) (j+1)=C+q:=by rw[HCC.out,HQ.out];rfl
     have hC2:smC (lsM L) (j+1)≤40:=Nat.le_trans (smC_le _ (by omega)) HC.out
     have hv1:wrap64 (l-1+(S:Int)+wrap64 ((q:Int)*2^j))=l-1+((S+q*p2N j:Nat):Int):=by rw[g1];unfold wrap64;omega
     have hv2:f-1+(C:Int)+(q:Int)=f-1+((C+q:Nat):Int):=by omega
     have s3:=S3.out;have t3:=T3.out;have b3:=B3.out
     rw[hv1,hv2]at s3
     have hM:(fun i=>if i=j then q else fstM L j i)=fstM L (j+1):=by rw[HQ.out];exact fstM_next L j
     rw[hM]at s3
     rw[hv1,hv2]at t3 b3
     rw[hv1,hv2]
     exact⟨j+1,S+q*p2N j,C+q,by omega,by omega,by omega,by go_num,Lib.hid hS1.symm,Lib.hid hC1.symm,Lib.hid t3,Lib.hid s3,Lib.hid b3⟩
    case measure=>simp[intOf];omega)
  ·obtain rfl:j=N:=by omega
   obtain⟨m1,hm1⟩:∃m1,m1=l-1+(S:Int):=⟨_,rfl⟩
   obtain⟨s1,hs1⟩:∃s1,s1=f-1+(C:Int):=⟨_,rfl⟩
   have k1:=K1.out
   rw[←hm1,←hs1]at k1
   have K2:=Lib.hid k1;have HM1:=Lib.hid hm1;have HS1:=Lib.hid hs1
   clear k1 hm1 hs1 K1
   go_wp2_with (first
    |(refine wpList_load_row rfl _ _ rfl (w.heap.size+1) rfl _ (kdA l m1 f s1 0 (fstM L j)) (0,0) _ K2.out Try.underlying112 rfl (szKd _) ?_)
    |(refine wpList_store_rowTo rfl _ _ _ rfl rfl w.heap.size (kdA l m1 f s1 0 (fstM L j)) rfl rfl 112 (kdA 0 0 0 0 0 (fun _=>0)) K0.out (szKd _) rfl (tblA_one _ _) ?_)
    |fail)
   refine bodyPost_ret (v:=.agg (kdA l m1 f s1 0 (fstM L j))) ?_ rfl ⟨?_,below_row9 HBR.out (Nat.le_refl _) _⟩
   ·exact results_cell_row rfl _ _ w.heap.size _ _ (0,0) _ rfl (setRow_heap _ _ _ _ _ _ K0.out) Try.underlying112 rfl (szKd _)
   ·have hM:fstM L j=lsM L:=by rw[HN.out];exact fstM_all L
    rw[hM,HM1.out,HS1.out,HSS.out,HCC.out]
def longL:List Nat:=[8,4,4,4,4,4]
def farL:List Nat:=[4,2,2,2,2,2,2,2,2,2,2,2,2,2]
theorem made_row(w:World)(Z:Array Value)(T:TypeId)(L:List Nat)(cs:Array Value)(h:cs.toList=intsL (natsI L)):
  RdI ((w.alloc (.cells Z T)).alloc (.cells cs 3)) ((w.alloc (.cells Z T)).alloc (.cells cs 3)).heap.size (some ⟨w.heap.size+1,0,none⟩) (natsI L)∧
  ((w.alloc (.cells Z T)).alloc (.cells cs 3)).heap[w.heap.size]?=some (.cells Z T (0,0))∧Below w.heap.size w ((w.alloc (.cells Z T)).alloc (.cells cs 3))∧w.heap.size<((w.alloc (.cells Z T)).alloc (.cells cs 3)).heap.size:=by
 have h1:=rdI_new (w.alloc (.cells Z T)) (natsI L) cs h
 have h2:((w.alloc (.cells Z T)).alloc (.cells cs 3)).heap[w.heap.size]?=some (.cells Z T (0,0)):=(Below.heap_alloc _ _ _ (by simp)).trans (heap_alloc_new w _)
 refine⟨?_,h2,((Below.refl _ _).alloc (Nat.le_refl _) _).alloc (by simp) _,by simp;omega⟩
 rw[World.size_alloc w]at h1
 exact h1
theorem fars9_any(w:World):Calls Try.prog 66 #[] w fun e w'=>e=.returned (.agg (kdA 1 32768 0 29 0 (lsM farL)))∧Below w.heap.size w w':=by
 have hz:=(zero_of_info infoKd).1
 obtain⟨hr,v0,b0,hlt⟩:=made_row w (kdA 0 0 0 0 0 (fun _=>0)) 112 farL #[.int .i64 4,.int .i64 2,.int .i64 2,.int .i64 2,.int .i64 2,.int .i64 2,.int .i64 2,.int .i64 2,.int .i64 2,.int .i64 2,.int .i64 2,.int .i64 2,.int .i64 2,.int .i64 2] rfl
 have hfl:=filled9_any _ 1 0 _ 14 14 farL rfl (by omega) hr (by omega) (by omega) (by decide) (by decide)
 have e1:(1:Int)-1+((smS (lsM farL) 14:Nat):Int)=32768:=by decide
 have e2:(0:Int)-1+((smC (lsM farL) 14:Nat):Int)=29:=by decide
 rw[e1,e2]at hfl
 obtain⟨V,hV⟩:∃V,V=((w.alloc (.cells (kdA 0 0 0 0 0 (fun _=>0)) 112)).alloc (.cells #[.int .i64 4,.int .i64 2,.int .i64 2,.int .i64 2,.int .i64 2,.int .i64 2,.int .i64 2,.int .i64 2,.int .i64 2,.int .i64 2,.int .i64 2,.int .i64 2,.int .i64 2,.int .i64 2] 3)):=⟨_,rfl⟩
 rw[←hV]at hfl v0 b0 hlt
 have HF:=Lib.hid hfl;have V0:=Lib.hid v0;have B0:=Lib.hid b0;have HV:=Lib.hid hV.symm;have HLT:=Lib.hid hlt
 clear hfl v0 b0 hV hr e1 e2 hlt
 obtain⟨X,hX⟩:∃X,X=kdA 1 32768 0 29 0 (lsM farL):=⟨_,rfl⟩
 obtain⟨x1,x2⟩:X.size=19∧X.all (·.oneCell')=true:=by rw[hX];exact⟨tblA_size _ _,tblA_one _ _⟩
 have x3:(Try.prog.info? 112).map (·.size)=some X.size:=by rw[hX];exact szKd _
 rw[←hX]at HF⊢
 clear hX
 go_enter Try.func66,Try.ntmps66
 go_wp2_with fail
 rw[HV.out]
 refine HF.out.mono ?_
 rintro e w1 ⟨rfl,hb1⟩
 have hk1:=(hb1.block w.heap.size HLT.out).trans V0.out
 have K1:=Lib.hid hk1;have HB1:=Lib.hid (B0.out.trans (hb1.mono (Nat.le_of_lt HLT.out)))
 clear hk1 hb1
 go_wp2_with (first
  |(refine wpList_store_rowTo rfl _ _ _ rfl rfl w.heap.size X rfl rfl 112 (kdA 0 0 0 0 0 (fun _=>0)) K1.out x3 (by rw[x1];rfl) x2 ?_)
  |fail)
 refine bodyPost_ret (v:=.agg X) ?_ rfl ⟨rfl,below_row9 HB1.out (Nat.le_refl _) _⟩
 exact results_cell_row rfl _ _ w.heap.size _ _ (0,0) _ rfl (setRow_heap _ _ _ _ _ _ K1.out) Try.underlying112 rfl x3
end Go.Proofs.Ytgokdgcmkcmjeaa
namespace Go.Proofs.Ytgokdgcmkcmjeaa
open Go.RowKit
theorem longs9_any(w:World):Calls Try.prog 63 #[] w fun e w'=>e=.returned (.agg (kdA 3 258 257 285 258 (lsM longL)))∧Below w.heap.size w w':=by
 have hz:=(zero_of_info infoKd).1
 obtain⟨hr,v0,b0,hlt⟩:=made_row w (kdA 0 0 0 0 0 (fun _=>0)) 112 longL #[.int .i64 8,.int .i64 4,.int .i64 4,.int .i64 4,.int .i64 4,.int .i64 4] rfl
 have hfl:=filled9_any _ 3 257 _ 6 6 longL rfl (by omega) hr (by omega) (by omega) (by decide) (by decide)
 have e1:(3:Int)-1+((smS (lsM longL) 6:Nat):Int)=258:=by decide
 have e2:(257:Int)-1+((smC (lsM longL) 6:Nat):Int)=284:=by decide
 rw[e1,e2]at hfl
 obtain⟨V,hV⟩:∃V,V=((w.alloc (.cells (kdA 0 0 0 0 0 (fun _=>0)) 112)).alloc (.cells #[.int .i64 8,.int .i64 4,.int .i64 4,.int .i64 4,.int .i64 4,.int .i64 4] 3)):=⟨_,rfl⟩
 rw[←hV]at hfl v0 b0 hlt
 have HF:=Lib.hid hfl;have V0:=Lib.hid v0;have B0:=Lib.hid b0;have HV:=Lib.hid hV.symm;have HLT:=Lib.hid hlt
 clear hfl v0 b0 hV hr e1 e2 hlt
 obtain⟨MM,hMM⟩:∃MM,MM=lsM longL:=⟨_,rfl⟩
 rw[←hMM]at HF⊢
 clear hMM
 go_enter Try.func63,Try.ntmps63
 go_wp2_with fail
 rw[HV.out]
 refine HF.out.mono ?_
 rintro e w1 ⟨rfl,hb1⟩
 have hk1:Knd w1 w.heap.size 0 0 0 0 0 (fun _=>0):=(hb1.block w.heap.size HLT.out).trans V0.out
 have bb1:Below w.heap.size w w1:=B0.out.trans (hb1.mono (Nat.le_of_lt HLT.out))
 have hne:w.heap.size≠w1.heap.size:=by have:=hk1.lt;omega
 obtain⟨U,hU⟩:∃U,U=mkV w1 (kdA 0 0 0 0 0 (fun _=>0)) (kdA 3 258 257 284 0 MM) 112:=⟨_,rfl⟩
 have u1:Knd U w1.heap.size 3 258 257 284 0 MM:=by rw[hU];exact mkV_row _ _ _ _
 have bU:Below w1.heap.size w1 U:=by rw[hU];exact mkV_below _ _ _ _
 have u0:Knd U w.heap.size 0 0 0 0 0 (fun _=>0):=hk1.below bU hk1.lt
 have f1:=u1.frozen 18
 have k1:=u1.own
 have u2:=u1.setOwn 258
 have f2:=u2.frozen 3
 have k2:=u2.last
 have u3:=u2.setLast 285
 have z3:=(u0.other (p:=⟨w1.heap.size,18,none⟩) hne (.int .i64 258)).other (p:=⟨w1.heap.size,3,none⟩) hne (.int .i64 285)
 have bb3:=((bb1.trans (bU.mono bb1.size)).setCell (p:=⟨w1.heap.size,18,none⟩) bb1.size (.int .i64 258)).setCell (p:=⟨w1.heap.size,3,none⟩) bb1.size (.int .i64 285)
 have HU:=Lib.hid hU.symm;have U3:=Lib.hid u3;have Z3:=Lib.hid z3;have BB3:=Lib.hid bb3
 clear hk1 bb1 hne hU u1 bU u0 u2 u3 z3 bb3 hb1
 go_wp2_with (first
  |(refine wpList_store_rowTo rfl _ _ _ rfl rfl w1.heap.size (kdA 3 258 257 284 0 MM) rfl rfl 112 (kdA 0 0 0 0 0 (fun _=>0)) (heap_alloc_new w1 _) (szKd _) rfl (tblA_one _ _) ?_;change wpList _ _ _ _ _ (mkV w1 (kdA 0 0 0 0 0 (fun _=>0)) (kdA 3 258 257 284 0 MM) 112);rw[HU.out])
  |(refine wpList_load_row rfl _ _ rfl w1.heap.size rfl _ (kdA 3 258 257 285 258 MM) (0,0) _ U3.out Try.underlying112 rfl (szKd _) ?_)
  |(refine wpList_store_rowTo rfl _ _ _ rfl rfl w.heap.size (kdA 3 258 257 285 258 MM) rfl rfl 112 (kdA 0 0 0 0 0 (fun _=>0)) Z3.out (szKd _) rfl (tblA_one _ _) ?_)
  |fail)
 refine bodyPost_ret (v:=.agg (kdA 3 258 257 285 258 MM)) ?_ rfl ⟨rfl,below_row9 BB3.out (Nat.le_refl _) _⟩
 exact results_cell_row rfl _ _ w.heap.size _ _ (0,0) _ rfl (setRow_heap _ _ _ _ _ _ Z3.out) Try.underlying112 rfl (szKd _)
theorem long_ok9:KndOk 3 258 257 285 258 (lsM longL):=⟨by omega,by omega,by omega,by omega,by decide,.inr (by decide),by decide,by decide⟩
theorem far_ok9:KndOk 1 32768 0 29 0 (lsM farL):=⟨by omega,by omega,by omega,by omega,by decide,.inl (by decide),by decide,by decide⟩
theorem long_tab:∀b,b<14→∀z,z<lsM longL b→smC (lsM longL) b+z<28∧longT (smC (lsM longL) b+z)=3+(smS (lsM longL) b+z*p2N b)∧longX (smC (lsM longL) b+z)=b:=by decide+kernel
theorem far_tab:∀b,b<14→∀z,z<lsM farL b→smC (lsM farL) b+z<30∧farT (smC (lsM farL) b+z)=1+(smS (lsM farL) b+z*p2N b)∧farX (smC (lsM farL) b+z)=b:=by decide+kernel
theorem bg_long{y L:Int}{b:Nat}(hy:257≤y∧y≤285)(h:BgN 3 257 285 258 (lsM longL) y L b):L=((longT (y-257).toNat:Nat):Int)∧b=longX (y-257).toNat:=by
 rcases h with⟨_,rfl,rfl,rfl⟩|⟨_,z,hb,hz,hy2,hL⟩
 ·exact⟨rfl,rfl⟩
 ·obtain⟨h1,h2,h3⟩:=long_tab b hb z hz
  have e:(y-257).toNat=smC (lsM longL) b+z:=by omega
  rw[e,h2,h3,hL]
  exact⟨by omega,rfl⟩
theorem bg_far{y L:Int}{b:Nat}(hy:0≤y∧y≤29)(h:BgN 1 0 29 0 (lsM farL) y L b):L=((farT y.toNat:Nat):Int)∧b=farX y.toNat:=by
 rcases h with⟨h0,_⟩|⟨_,z,hb,hz,hy2,hL⟩
 ·exact absurd rfl h0
 ·obtain⟨h1,h2,h3⟩:=far_tab b hb z hz
  have e:y.toNat=smC (lsM farL) b+z:=by omega
  rw[e,h2,h3,hL]
  exact⟨by omega,rfl⟩
end Go.Proofs.Ytgokdgcmkcmjeaa
namespace Go.Proofs.Ytgokdgcmkcmjeaa
open Go.RowKit
def BtOut(l f s o:Int)(M:Nat→Nat)(y:Int)(e:Ending):Prop:=
 if f≤y∧y≤s then∃(L:Int) (b:Nat),BgN l f s o M y L b∧e=.returned (.tuple #[.int .i64 (b:Int),.int .i64 0])else e=.returned (.tuple #[.int .i64 0,.int .i64 90])
theorem bits9_any(w:World)(l m f s o:Int)(M:Nat→Nat)(hk:KndOk l m f s o M)(y:Int):
  Calls Try.prog 64 #[.agg (kdA l m f s o M),.int .i64 y] w fun e w'=>BtOut l f s o M y e∧Below w.heap.size w w':=by
 obtain⟨h,hh⟩:∃h,h=decide (f≤y∧y≤s):=⟨_,rfl⟩
 have hkn:=knd_new w l m f s o M
 have hb:Below w.heap.size w (w.alloc (.cells (kdA l m f s o M) 112)):=(Below.refl _ _).alloc (Nat.le_refl _) _
 have hhas:=has9_any (w.alloc (.cells (kdA l m f s o M) 112)) l m f s o M y h hh
 have hlt:=hkn.lt
 have HKN:=Lib.hid hkn;have HB:=Lib.hid hb;have HH:=Lib.hid hh;have HHAS:=Lib.hid hhas;have HK:=Lib.hid hk;have HLT:=Lib.hid hlt
 clear hkn hb hh hhas hk hlt
 go_enter Try.func64,Try.ntmps64
 go_wp2_with (first
  |(refine wpList_load_row rfl _ _ rfl w.heap.size rfl _ (kdA l m f s o M) (0,0) _ HKN.out Try.underlying112 rfl (szKd _) ?_)
  |fail)
 refine HHAS.out.mono ?_
 rintro e w1 ⟨rfl,hb1⟩
 have hk1:Knd w1 w.heap.size l m f s o M:=HKN.out.below hb1 HLT.out
 have hb2:=HB.out.trans (hb1.mono (Nat.le_of_lt HLT.out))
 have HK1:=Lib.hid hk1;have HB1:=Lib.hid hb2
 clear hk1 hb1 hb2
 rcases h with _|_
 ·have hn:¬(f≤y∧y≤s):=by have:=HH.out;simpa using this
  go_wp2
  go_ret2
  exact⟨by unfold BtOut;rw[if_neg hn];rfl,HB1.out⟩
 ·have hy:f≤y∧y≤s:=by have:=HH.out;simpa using this
  have hbg:=begin9_all w1 l m f s o M HK.out y hy
  have HBG:=Lib.hid hbg;have HY:=Lib.hid hy
  have HSZ:=Lib.hid (show w.heap.size≤w1.heap.size from HB1.out.size)
  clear hbg hy
  go_wp2_with (first
   |(refine wpList_load_row rfl _ _ rfl w.heap.size rfl _ (kdA l m f s o M) (0,0) _ HK1.out Try.underlying112 rfl (szKd _) ?_)
   |fail)
  refine HBG.out.mono ?_
  rintro e w2 ⟨⟨L,b,hbn,rfl⟩,hb3⟩
  have HBN:=Lib.hid hbn;have HB3:=Lib.hid (HB1.out.trans (hb3.mono HSZ.out))
  clear hbn hb3
  go_wp2
  go_ret2
  exact⟨by unfold BtOut;rw[if_pos HY.out];exact⟨L,b,HBN.out,rfl⟩,HB3.out⟩
def NmOut(l f s o:Int)(M:Nat→Nat)(y x:Int)(e:Ending):Prop:=
 if f≤y∧y≤s then∃(L:Int) (b:Nat),BgN l f s o M y L b∧((x<0∨(p2N b:Int)≤x)∧e=.returned (.tuple #[.int .i64 0,.int .i64 2])∨
  (0≤x∧x<(p2N b:Int))∧((L+x=o∧y≠s)∧e=.returned (.tuple #[.int .i64 0,.int .i64 90])∨¬(L+x=o∧y≠s)∧e=.returned (.tuple #[.int .i64 (L+x),.int .i64 0])))
 else e=.returned (.tuple #[.int .i64 0,.int .i64 90])
theorem number9_any(w:World)(l m f s o:Int)(M:Nat→Nat)(hk:KndOk l m f s o M)(y x:Int):
  Calls Try.prog 65 #[.agg (kdA l m f s o M),.int .i64 y,.int .i64 x] w fun e w'=>NmOut l f s o M y x e∧Below w.heap.size w w':=by
 obtain⟨h,hh⟩:∃h,h=decide (f≤y∧y≤s):=⟨_,rfl⟩
 have hkn:=knd_new w l m f s o M
 have hb:Below w.heap.size w (w.alloc (.cells (kdA l m f s o M) 112)):=(Below.refl _ _).alloc (Nat.le_refl _) _
 have hhas:=has9_any (w.alloc (.cells (kdA l m f s o M) 112)) l m f s o M y h hh
 have hlt:=hkn.lt
 have HKN:=Lib.hid hkn;have HB:=Lib.hid hb;have HH:=Lib.hid hh;have HHAS:=Lib.hid hhas;have HK:=Lib.hid hk;have HLT:=Lib.hid hlt
 clear hkn hb hh hhas hk hlt
 go_enter Try.func65,Try.ntmps65
 go_wp2_with (first
  |(refine wpList_load_row rfl _ _ rfl w.heap.size rfl _ (kdA l m f s o M) (0,0) _ HKN.out Try.underlying112 rfl (szKd _) ?_)
  |fail)
 refine HHAS.out.mono ?_
 rintro e w1 ⟨rfl,hb1⟩
 have hk1:Knd w1 w.heap.size l m f s o M:=HKN.out.below hb1 HLT.out
 have hb2:=HB.out.trans (hb1.mono (Nat.le_of_lt HLT.out))
 have HK1:=Lib.hid hk1;have HB1:=Lib.hid hb2
 clear hk1 hb1 hb2
 rcases h with _|_
 ·have hn:¬(f≤y∧y≤s):=by have:=HH.out;simpa using this
  go_wp2
  go_ret2
  exact⟨by unfold NmOut;rw[if_neg hn];rfl,HB1.out⟩
 ·have hy:f≤y∧y≤s:=by have:=HH.out;simpa using this
  have hbg:=begin9_all w1 l m f s o M HK.out y hy
  have HBG:=Lib.hid hbg;have HY:=Lib.hid hy
  have HSZ:=Lib.hid (show w.heap.size≤w1.heap.size from HB1.out.size)
  clear hbg hy
  go_wp2_with (first
   |(refine wpList_load_row rfl _ _ rfl w.heap.size rfl _ (kdA l m f s o M) (0,0) _ HK1.out Try.underlying112 rfl (szKd _) ?_)
   |fail)
  refine HBG.out.mono ?_
  rintro e w2 ⟨⟨L,b,hbn,rfl⟩,hb3⟩
  have hk2:Knd w2 w.heap.size l m f s o M:=HK1.out.below hb3 HK1.out.lt
  have k2:=hk2.own
  have k3:=hk2.last
  obtain⟨hL0,hL1,hb14⟩:=bg_le HK.out hbn
  have HBN:=Lib.hid hbn;have HB3:=Lib.hid (HB1.out.trans (hb3.mono HSZ.out))
  clear hbn hb3 hk2
  have hp:wrap64 ((2:Int)^b)=((p2N b:Nat):Int)∧p2N b≤8192:=by
   have h1:2^b≤2^13:=Nat.pow_le_pow_right (by omega) (by omega)
   have e:(2:Int)^b=((2^b:Nat):Int):=by rw[Int.natCast_pow];rfl
   rw[e]
   unfold p2N
   generalize 2^b=z at h1
   unfold wrap64
   omega
  obtain⟨P,hP⟩:∃P,P=p2N b:=⟨_,rfl⟩
  rw[←hP]at hp
  obtain⟨hp1,hp2⟩:=hp
  have HP:=Lib.hid hP;have HP1:=Lib.hid hp1
  clear hP hp1
  have key:∀e,((x<0∨(P:Int)≤x)∧e=Ending.returned (.tuple #[.int .i64 0,.int .i64 2])∨(0≤x∧x<(P:Int))∧((L+x=o∧y≠s)∧e=.returned (.tuple #[.int .i64 0,.int .i64 90])∨¬(L+x=o∧y≠s)∧e=.returned (.tuple #[.int .i64 (L+x),.int .i64 0])))→NmOut l f s o M y x e:=fun e he=>by
   unfold NmOut;rw[if_pos HY.out];rw[HP.out]at he;exact⟨L,b,HBN.out,he⟩
  have KEY:=Lib.hid key
  clear key
  by_cases hx0:x<0
  ·have hd:decide (x<0)=true:=decY hx0
   go_wp2
   go_ret2
   exact⟨KEY.out _ (.inl ⟨.inl hx0,rfl⟩),HB3.out⟩
  ·have hd:decide (x<0)=false:=decN hx0
   by_cases hx1:(P:Int)≤x
   ·have hd1:decide ((P:Int)≤x)=true:=decY hx1
    have hd2:decide (wrap64 ((2:Int)^b)≤x)=true:=by rw[HP1.out];exact hd1
    go_wp2
    go_ret2
    exact⟨KEY.out _ (.inl ⟨.inr hx1,rfl⟩),HB3.out⟩
   ·have hd1:decide ((P:Int)≤x)=false:=decN hx1
    have hd2:decide (wrap64 ((2:Int)^b)≤x)=false:=by rw[HP1.out];exact hd1
    obtain⟨B1,hB1⟩:∃B1,B1=(L+x==o):=⟨_,rfl⟩
    obtain⟨B2,hB2⟩:∃B2,B2=(y !=s):=⟨_,rfl⟩
    have e1:=hB1.symm
    have e2:=hB2.symm
    have hBB:(L+x=o∧y≠s)↔(B1&&B2)=true:=by rw[hB1,hB2];simp
    have HBB:=Lib.hid hBB
    clear hB1 hB2 hBB
    rcases B1 with _|_<;>rcases B2 with _|_
    all_goals(
     go_wp2
     go_ret2
     refine⟨KEY.out _ (.inr ⟨⟨by omega,by omega⟩,?_⟩),HB3.out⟩
     first
      |exact .inl ⟨HBB.out.2 rfl,rfl⟩
      |exact .inr ⟨fun h=>absurd (HBB.out.1 h) (by decide),rfl⟩)
end Go.Proofs.Ytgokdgcmkcmjeaa
