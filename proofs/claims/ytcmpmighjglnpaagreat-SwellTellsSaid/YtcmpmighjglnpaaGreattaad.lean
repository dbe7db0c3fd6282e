/-
  Words and walks.
-/
import Derived.BigRegion
import Derived.BigQuiet
import Derived.Deep.RegionLaw
import Derived.Lib.AppendZeros
import Derived.OneCell
import Derived.StillTail
import Derived.Deep.Quiet
import Derived.Laws.Tables
import Derived.Great.BuildSlice
import Derived.Deep.MidRow
import Derived.Deep.SlicePairs
import Derived.Lib.SmallJoins
import Derived.Deep.DeepCutAuto
import Derived.Deep.QuietTactic
import Derived.StillTailTactics
import Derived.ShutString
import Derived.ChangeOld
import Derived.ChangeKeysEq
import Derived.Laws.StructEq
import Derived.Deep.WholeRow
import Derived.Test.YtcmpmighjglnpaaGreattaaa
import Derived.Test.YtcmpmighjglnpaaGreattaab
import Derived.Test.YtcmpmighjglnpaaGreattaac
set_option maxRecDepth 100000
set_option maxHeartbeats 16000000
namespace Go.Proofs.YtcmpmighjglnpaaGreat
open Go.RowKit
theorem decN{p:Prop}[Decidable p](h:¬p):decide p=false:=by simp[h]
theorem decY{p:Prop}[Decidable p](h:p):decide p=true:=by simp[h]
def p2N(k:Nat):Nat:=2^k
end Go.Proofs.YtcmpmighjglnpaaGreat
namespace Go.Proofs.YtcmpmighjglnpaaGreat
open Go.RowKit
theorem infoOrd:(Tryz.prog.info? 160).map (fun i=>(i.zero,i.size))=some (some (.agg (tblA (fun _=>0) 19)),19):=by kernel_rfl
theorem szO19(T:Nat→Int):(Tryz.prog.info? 160).map (·.size)=some (tblA T 19).size:=by rw[tblA_size];kernel_rfl
theorem flatOrd:(([16,17,18,0,8,7,9,6,10,5,11,4,12,3,13,2,14,1,15]:List Int).map (Value.int .i64)).toArray=tblA (fun i=>(ordN i:Int)) 19:=by kernel_rfl
end Go.Proofs.YtcmpmighjglnpaaGreat
namespace Go.Proofs.YtcmpmighjglnpaaGreat
open Go.RowKit
def lowB(l:List Oper)(n:Nat):Bool:=(List.range n).all fun i=>match l[i]? with
 |some o=>o.guard.isNone&&o.after.all fun e=> !Region.binds .any e||decide (e.on<i)
 |none=>false
def doneA(n g:Nat):Array Bool:=(List.replicate n true++List.replicate g false).toArray
def sinkF(l:List Oper)(m n:Nat):Bool:=(List.range n).all fun i=>decide (i<m)||(List.range (n+1)).any fun j=>decide (i<j)&&Region.waitsFor .any l.toArray j i
def splitB(l:List Oper)(m n:Nat):Bool:=Region.noSelect l.toArray&&Region.noSelect (l.take n).toArray&&Region.lexFrom .any (l.take n).toArray (n-m) m (doneA m (n-m))&&decide (n<l.length)&&sinkF l m n&&Region.chainB .any l.toArray n&&lowB l n&&Region.seqB .any l.toArray (l.length-n) n (doneA n (l.length-n))
theorem tail_late{l:List Oper}{m n:Nat}{listed:Array Bool}(hs:sinkF l m n=true)(hc:Region.chainB .any l.toArray n=true)(hn:n<l.length)(inv:HeadInv .any l.toArray n listed)(hm:∀i,i<m→listed.getD i false=true){i:Nat}(hi:i<n)(hu:listed.getD i true=false):
  ∀t,n≤t→t∉Region.ready .any l.toArray listed:=by
 have hsz:listed.size=l.length:=by rw[inv.size];simp
 have key:∀(d i:Nat),d=n-i→i≤n→listed.getD i true=false→n∈Region.ready .any l.toArray listed→i=n:=by
  intro d
  induction d using Nat.strongRecOn with
  |_ d ih=>
   intro i hd hi hu hr
   rcases Nat.eq_or_lt_of_le hi with e|hi
   ·exact e
   ·exfalso
    have hmi:¬i<m:=fun h=>by have:=hm i h;rw[getD_both hu]at this;cases this
    have h1:=List.all_eq_true.1 hs i (List.mem_range.2 hi)
    simp only[Bool.or_eq_true,decide_eq_true_eq]at h1
    rcases h1 with h1|h1
    ·exact hmi h1
    ·obtain⟨j,hj,hj2⟩:=List.any_eq_true.1 h1
     simp only[Bool.and_eq_true,decide_eq_true_eq]at hj2
     obtain⟨oj,hoj,e,he,hb,hon⟩:=Region.waitsFor_spec hj2.2
     have hjn:j≤n:=by have:=List.mem_range.1 hj;omega
     cases hl:listed.getD j false with
     |true=>
      have h2:=inv.closed j oj hoj hl e he hb
      rw[hon,getD_both hu]at h2;cases h2
     |false=>
      have hjt:=ih (n-j) (by omega) j rfl hjn (getD_in (by omega) hl) hr
      subst hjt
      obtain⟨_,ot,hot,hall⟩:=mem_ready.1 hr
      rw[hoj]at hot;cases hot
      have h2:=hall e he hb
      rw[hon,getD_both hu]at h2;cases h2
 intro t ht hr
 by_cases htn:t=n
 ·subst htn
  have:=key (t-i) i rfl (by omega) hu hr
  omega
 ·obtain⟨_,ot,hot,hall⟩:=mem_ready.1 hr
  have htl:t<l.length:=by have:=(Array.getElem?_eq_some_iff.1 hot).1;simpa using this
  have h1:=List.all_eq_true.1 hc t (List.mem_range.2 (by simpa using htl))
  simp only[Bool.or_eq_true,decide_eq_true_eq]at h1
  rcases h1 with h1|h1
  ·omega
  ·obtain⟨o',ho',e,he,hb,hon⟩:=Region.waitsFor_spec h1
   rw[hot]at ho';cases ho'
   have h2:=hall e he hb
   rw[hon,getD_both (inv.tail (t-1) (by omega) (by simp;omega))]at h2;cases h2
theorem lowB_spec{l:List Oper}{n i:Nat}(h:lowB l n=true)(hi:i<n):∃o,l[i]?=some o∧o.guard=none∧∀e∈o.after,Region.binds .any e=true→e.on<i:=by
 have h1:=List.all_eq_true.1 h i (List.mem_range.2 hi)
 split at h1
 ·rename_i o ho
  simp only[Bool.and_eq_true]at h1
  refine⟨o,ho,by simpa using h1.1,fun e he hb=>?_⟩
  have h2:=Array.all_eq_true_iff_forall_mem.1 h1.2 e he
  simp only[hb,Bool.not_true,Bool.false_or,decide_eq_true_eq]at h2
  exact h2
 ·cases h1
theorem wanted_free{o:Oper}(h:o.guard=none)(y:Nat→Option Bool):Region.wanted o y=true:=by simp[Region.wanted,h]
theorem split_done{n g:Nat}{listed:Array Bool}(hsz:listed.size=n+g)(h1:∀i,i<n→listed.getD i true=true)(h2:∀t,n≤t→t<n+g→listed.getD t true=false):listed=doneA n g:=by
 apply Array.ext_getElem?
 intro i
 unfold doneA
 rcases Nat.lt_or_ge i n with h|h
 ·have:=h1 i h
  have hs:i<listed.size:=by omega
  have e:listed[i]?=some true:=by
   rw[Array.getElem?_eq_getElem hs]
   simp[hs]at this
   rw[this]
  rw[e,List.getElem?_toArray,List.getElem?_append_left (by simpa using h),List.getElem?_replicate,if_pos h]
 ·rcases Nat.lt_or_ge i (n+g)with h'|h'
  ·have:=h2 i h h'
   have hs:i<listed.size:=by omega
   have e:listed[i]?=some false:=by
    rw[Array.getElem?_eq_getElem hs]
    simp[hs]at this
    rw[this]
   rw[e,List.getElem?_toArray,List.getElem?_append_right (by simpa using h),List.length_replicate,List.getElem?_replicate,if_pos (by omega)]
  ·rw[Array.getElem?_eq_none (by omega),List.getElem?_toArray,List.getElem?_eq_none (by simp;omega)]
theorem split_any{P:Program}{C:World→Prop}{Q:Exit→Act→World→Prop}{l:List Oper}{m n:Nat}(hn:n<l.length)(hs:sinkF l m n=true)(hc:Region.chainB .any l.toArray n=true)(hlow:lowB l n=true)
  (hseq:Region.seqB .any l.toArray (l.length-n) n (doneA n (l.length-n))=true):
  ∀(f:Nat) (s:List Nat) (listed lh:Array Bool) (a:Act) (w:World),s.length=f→s.Nodup→(∀i,i∈s↔i<n∧listed.getD i true=false)→HeadInv .any l.toArray n listed→(∀i,i<m→listed.getD i false=true)→(∀i,i<n→lh.getD i true=listed.getD i true∧lh.getD i false=listed.getD i false)→C w→
   wpAnyQ P .any (l.take n).toArray C (fun a'=>∀w',C w'→wpList P l.toArray Q (l.drop n) a' w') f lh a→wpAny P .any l.toArray Q (f+(l.length-n)) listed a w
 |0,s,listed,lh,a,w,hf,_,hmem,inv,_,_,hw,h=>by
  have hs0:s=[]:=List.length_eq_zero_iff.1 hf
  subst hs0
  have h1:∀i,i<n→listed.getD i true=true:=fun i hi=>by
   cases e:listed.getD i true with
   |true=>rfl
   |false=>exact absurd ((hmem i).2 ⟨hi,e⟩) (by simp)
  have hsz:=inv.size
  have he:=split_done (n:=n) (g:=l.length-n) (listed:=listed) (by rw[hsz];simp;omega) h1 (fun t ht ht2=>inv.tail t ht (by simp;omega))
  subst he
  have h3:=wpAny_of_seq (P:=P) (md:=.any) (Q':=Q) (l.drop n) n (doneA n (l.length-n)) a w (fun j=>by simp[List.getElem?_drop]) (by rw[List.length_drop];exact hseq) (h.2 w hw)
  rw[List.length_drop]at h3
  rw[Nat.zero_add];exact h3
 |f+1,s,listed,lh,a,w,hf,hnd,hmem,inv,hmm,hlh,hw,h=>by
  rw[show f+1+(l.length-n)=(f+(l.length-n))+1 by omega]
  obtain⟨x,hx⟩:∃x,x∈s:=List.exists_mem_of_length_pos (by omega)
  obtain⟨hxn,hxu⟩:=(hmem x).1 hx
  have hready:∀i,i∈Region.ready .any l.toArray listed→i<n:=fun i hi=>by
   rcases Nat.lt_or_ge i n with g|g
   ·exact g
   ·exact absurd hi (tail_late hs hc hn inv hmm hxn hxu i g)
  have hhead:∀i,i<n→(i∈Region.ready .any l.toArray listed↔i∈Region.ready .any (l.take n).toArray lh):=fun i hi=>by
   obtain⟨o,ho,hg,hlo⟩:=lowB_spec hlow hi
   rw[mem_ready,mem_ready]
   have e1:l.toArray[i]?=some o:=by simpa using ho
   have e2:(l.take n).toArray[i]?=some o:=by simp[hi,ho]
   rw[e1,e2,(hlh i hi).1]
   constructor
   ·rintro⟨h0,o',ho',hall⟩
    cases ho'
    exact⟨h0,o,rfl,fun e he hb=>by rw[(hlh e.on (by have:=hlo e he hb;omega)).2];exact hall e he hb⟩
   ·rintro⟨h0,o',ho',hall⟩
    cases ho'
    exact⟨h0,o,rfl,fun e he hb=>by have:=hall e he hb;rwa[(hlh e.on (by have:=hlo e he hb;omega)).2]at this⟩
  refine⟨fun h0=>?_,fun i hi=>?_⟩
  ·exfalso
   have hleast:∀(d y:Nat),y=d→y<n→listed.getD y true=false→∃z,z∈Region.ready .any l.toArray listed:=by
    intro d
    induction d using Nat.strongRecOn with
    |_ d ih=>
     intro y hy hyn hyu
     obtain⟨o,ho,_,hlo⟩:=lowB_spec hlow hyn
     by_cases hall:∀e∈o.after,Region.binds .any e=true→listed.getD e.on false=true
     ·exact⟨y,mem_ready.2 ⟨hyu,o,by simpa using ho,hall⟩⟩
     ·have hex:∃e,e∈o.after∧Region.binds .any e=true∧listed.getD e.on false≠true:=by
       apply Classical.byContradiction
       intro hno
       exact hall fun e he hb=>Classical.byContradiction fun hne=>hno ⟨e,he,hb,hne⟩
      obtain⟨e,he,hb,hne⟩:=hex
      have hlt:=hlo e he hb
      have hsz:=inv.size
      refine ih e.on (by omega) e.on rfl (by omega) (getD_in (by rw[hsz];simp;omega) (by simpa using hne))
   obtain⟨z,hz⟩:=hleast x x rfl hxn hxu
   rw[h0]at hz;cases hz
  ·have hin:=hready i hi
   have h1:=h.2 i ((hhead i hin).1 hi)
   obtain⟨o,ho,hg,_⟩:=lowB_spec hlow hin
   have e1:l.toArray[i]?=some o:=by simpa using ho
   have e2:(l.take n).toArray[i]?=some o:=by simp[hin,ho]
   have hiu:=(mem_ready.1 hi).1
   have his:i∈s:=(hmem i).2 ⟨hin,hiu⟩
   unfold wpOp
   simp only[e1]
   rw[if_pos (wanted_free hg _)]
   unfold qOp at h1
   simp only[e2]at h1
   rw[if_pos (wanted_free hg _)]at h1
   refine .inl (Oper.wp_of_quiet hw (fun a' w' hw' hk=>?_) h1)
   refine split_any hn hs hc hlow hseq f (s.erase i) (listed.setIfInBounds i true) (lh.setIfInBounds i true) a' w' (by rw[List.length_erase_of_mem his];omega) (hnd.erase i) (fun j=>?_) (inv.set hi hin) (fun j hj=>getD_set_true (hmm j hj)) (fun j hj=>?_) hw' hk
   ·rw[hnd.mem_erase_iff]
    by_cases hji:j=i
    ·subst hji
     have hsz:=inv.size
     have hlt:j<listed.size:=by rw[hsz];simp;omega
     constructor
     ·intro hh;exact absurd rfl hh.1
     ·rintro⟨_,hh⟩;simp[hlt]at hh
    ·rw[getD_set_ne true (Ne.symm hji),hmem j]
     constructor
     ·intro hh;exact hh.2
     ·intro hh;exact⟨hji,hh⟩
   ·by_cases hji:j=i
    ·subst hji
     have hsz:=inv.size
     have hlt:j<listed.size:=by rw[hsz];simp;omega
     have hlt2:j<lh.size:=by
      rcases Nat.lt_or_ge j lh.size with g|g
      ·exact g
      ·have:=(hlh j hj).1
       rw[hiu]at this
       simp[Array.getElem?_eq_none g]at this
     simp[hlt,hlt2]
    ·rw[getD_set_ne true (Ne.symm hji),getD_set_ne true (Ne.symm hji),getD_set_ne false (Ne.symm hji),getD_set_ne false (Ne.symm hji)]
     exact hlh j hj
theorem doneA_get(n g i:Nat)(d:Bool):(doneA n g).getD i d=if i<n then true else if i<n+g then false else d:=by
 unfold doneA
 rcases Nat.lt_or_ge i n with h|h
 ·rw[if_pos h]
  have e:(List.replicate n true++List.replicate g false).toArray[i]?=some true:=by
   rw[List.getElem?_toArray,List.getElem?_append_left (by simpa using h),List.getElem?_replicate,if_pos h]
  rw[Array.getD_eq_getD_getElem?,e];rfl
 ·rw[if_neg (by omega)]
  rcases Nat.lt_or_ge i (n+g)with h'|h'
  ·rw[if_pos h']
   have e:(List.replicate n true++List.replicate g false).toArray[i]?=some false:=by
    rw[List.getElem?_toArray,List.getElem?_append_right (by simpa using h),List.length_replicate,List.getElem?_replicate,if_pos (by omega)]
   rw[Array.getD_eq_getD_getElem?,e];rfl
  ·rw[if_neg (by omega)]
   have e:(List.replicate n true++List.replicate g false).toArray[i]?=none:=by
    rw[List.getElem?_toArray,List.getElem?_eq_none (by simp;omega)]
   rw[Array.getD_eq_getD_getElem?,e];rfl
theorem split_from{P:Program}{C:World→Prop}{Q:Exit→Act→World→Prop}{l:List Oper}{m n:Nat}(hB:splitB l m n=true)(hmn:m≤n)(hlow0:∀j oj,l[j]?=some oj→j<m→∀e∈oj.after,Region.binds .any e=true→e.on<m){a:Act}{w:World}(hC:C w)
  (h:wpQuiet P (l.take n).toArray C (fun a'=>∀w',C w'→wpList P l.toArray Q (l.drop n) a' w') ((l.take n).drop m) a):wpAny P .any l.toArray Q (l.length-m) (doneA m (l.length-m)) a w:=by
 simp only[splitB,Bool.and_eq_true,decide_eq_true_eq]at hB
 obtain⟨⟨⟨⟨⟨⟨⟨_,hsel⟩,hlex⟩,hn⟩,hs⟩,hc⟩,hlow⟩,hseq⟩:=hB
 have htl:((l.take n).drop m).length=n-m:=by simp;omega
 have hq:=wpAnyQ_lex (C:=C) (md:=.any) hsel ((l.take n).drop m) m (doneA m (n-m)) a (by simp) (by rw[htl];exact hlex) h
 rw[htl]at hq
 have hinv:HeadInv .any l.toArray n (doneA m (l.length-m)):=by
  refine⟨by simp[doneA];omega,fun j oj hj hl e he hb=>?_,fun t ht ht2=>?_⟩
  ·rw[doneA_get]at hl
   have hjm:j<m:=by
    rcases Nat.lt_or_ge j m with g|g
    ·exact g
    ·rw[if_neg (by omega)]at hl;split at hl<;>cases hl
   rw[doneA_get,if_pos (hlow0 j oj (by simpa using hj) hjm e he hb)]
  ·rw[doneA_get,if_neg (by omega),if_pos (by simp at ht2;omega)]
 have:=split_any (Q:=Q) (m:=m) hn hs hc hlow hseq (n-m) ((List.range n).drop m) (doneA m (l.length-m)) (doneA m (n-m)) a w (by simp) (List.nodup_range.sublist (List.drop_sublist _ _)) (fun i=>by
   rw[doneA_get]
   constructor
   ·intro hi
    obtain⟨k,hk,hk2⟩:=List.mem_iff_getElem.1 hi
    simp at hk hk2
    rw[if_neg (by omega),if_pos (by omega)]
    exact⟨by omega,rfl⟩
   ·rintro⟨hi,hu⟩
    have hmi:m≤i:=by
     rcases Nat.lt_or_ge i m with g|g
     ·rw[if_pos g]at hu;cases hu
     ·exact g
    exact List.mem_iff_getElem.2 ⟨i-m,by simp;omega,by simp;omega⟩) hinv (fun i hi=>by rw[doneA_get,if_pos hi]) (fun i hi=>by
   simp only[doneA_get]
   constructor
   ·by_cases g:i<m
    ·rw[if_pos g,if_pos g]
    ·rw[if_neg g,if_neg g,if_pos (by omega),if_pos (by omega)]
   ·by_cases g:i<m
    ·rw[if_pos g,if_pos g]
    ·rw[if_neg g,if_neg g,if_pos (by omega),if_pos (by omega)]) hC hq
 rw[show n-m+(l.length-n)=l.length-m by omega]at this
 exact this
theorem wp_region_split1{P:Program}{id:Nat}{Q:Exit→Act→World→Prop}{a:Act}{w:World}{o:Oper}{l:List Oper}(n:Nat)(C:World→Prop)(hm:P.follows .mixedOrders=true)(hB:splitB (o::l) 1 (n+1)=true)(hC:C w.drew)
  (x:Operand) (ho:o.op=.move x) (hg:o.guard=none) (ha:o.after=#[]) (hf:Region.free .any (o::l).toArray (Array.replicate (l.length+1) false) 0=true) (hQ:∀c a' w',Q (.panic c) (a'.put o.dst (a.eval x)) w'→Q (.panic c) a' w')
  (h:wpQuiet P ((o::l).take (n+1)).toArray C (fun a'=>∀w',C w'→wpList P (o::l).toArray Q (l.drop n) a' w') (l.take n) (a.put o.dst (a.eval x))):(Code.region id (o::l).toArray true).wp P Q a w:=by
 refine wp_region_any hm ?_
 have hB':=hB
 simp only[splitB,Bool.and_eq_true,decide_eq_true_eq]at hB'
 obtain⟨⟨⟨⟨⟨⟨⟨hsel,_⟩,_⟩,_⟩,_⟩,_⟩,_⟩,_⟩:=hB'
 have h1:=split_from (Q:=Q) (a:=a.put o.dst (a.eval x)) (w:=w.drew) hB (by omega) (fun j oj hj hj1 e he hb=>by
  obtain rfl:j=0:=by omega
  have:oj=o:=by simpa using hj.symm
  rw[this,ha]at he
  simp at he) hC (by simpa using h)
 have e1:(o::l).toArray.size=l.length+1:=by simp
 rw[e1]
 refine wpAny_take (i:=0) (oi:=o) (v:=a.eval x) (by simp) hsel hf ?_ hQ (.inl ⟨by simp[Region.wanted,hg],fun w'=>by simp[execOp,ho]⟩) ?_
 ·have:0∈Region.ready .any (o::l).toArray (Array.replicate (l.length+1) false):=mem_ready.2 ⟨by simp,o,by simp,fun e he=>by rw[ha]at he;simp at he⟩
  simpa using this
 ·have e2:(Array.replicate (l.length+1) false).setIfInBounds 0 true=doneA 1 ((o::l).length-1):=by
   apply Array.ext_getElem?
   intro i
   unfold doneA
   rcases i with _|i
   ·simp
   ·simp[Array.getElem?_replicate,List.getElem?_replicate]
  rw[e2]
  exact h1
theorem wp_split_after1{P:Program}{id:Nat}{Q:Exit→Act→World→Prop}{a:Act}{w:World}{o:Oper}{l:List Oper}(n m:Nat)(U:World)(hU:Below m U w)(hm:P.follows .mixedOrders=true)(hB:splitB (o::l) 1 (n+1)=true)
  (x:Operand) (v:Value) (hv:a.eval x=v) (d:Option Tmp) (hd:o.dst=d) (ho:o.op=.move x) (hg:o.guard=none) (ha:o.after=#[]) (hf:Region.free .any (o::l).toArray (Array.replicate (l.length+1) false) 0=true) (hQ:∀c a' w',Q (.panic c) (a'.put d v) w'→Q (.panic c) a' w')
  (h:wpQuiet P ((o::l).take (n+1)).toArray (fun V=>∃p:After m U,V=p.w) (fun a'=>∀V,(∃p:After m U,V=p.w)→wpList P (o::l).toArray Q (l.drop n) a' V) (l.take n) (a.put d v)):(Code.region id (o::l).toArray true).wp P Q a w:=by
 subst hv;subst hd
 exact wp_region_split1 n _ hm hB ⟨⟨_,hU.drew⟩,rfl⟩ x ho hg ha hf hQ h
end Go.Proofs.YtcmpmighjglnpaaGreat
namespace Go.Proofs.YtcmpmighjglnpaaGreat
open Go.RowKit
theorem below_drawN{B:Nat}{a w:World}(h:Below B a w)(n:Nat):Below B a (w.drewN n):=⟨h.os,h.tape,h.output,h.size,h.block⟩
def zeroN(_:Nat):Nat:=0
end Go.Proofs.YtcmpmighjglnpaaGreat
namespace Go.Proofs.YtcmpmighjglnpaaGreat
open Go.RowKit Go.ChangeShapes Go.WideShapes Go.ChangeAt Go.Joins
def run0:Int×Int:=(0,0)
def runC(r:Int×Int):List Value:=[.int .i64 r.1,.int .i64 r.2]
def runsL:List (Int×Int)→List Value
 |[]=>[]
 |r::l=>runC r++runsL l
theorem runsL_length:∀l,(runsL l).length=l.length*2
 |[]=>rfl
 |r::l=>by simp only[runsL,List.length_append,List.length_cons,runsL_length l];simp[runC];omega
theorem runsL_app:∀l m,runsL (l++m)=runsL l++runsL m
 |[],_=>rfl
 |r::l,m=>by simp[runsL,runsL_app l m]
theorem runsL_get:∀(l:List (Int×Int)) (j i:Nat),j<l.length→i<2→(runsL l)[j*2+i]?=(runC (l.getD j run0))[i]?
 |[],j,i,h,_=>absurd h (by simp)
 |r::l,0,i,_,hi=>by
  simp only[runsL,Nat.zero_mul,Nat.zero_add]
  rw[List.getElem?_append_left (by simpa[runC]using hi)]
  rfl
 |r::l,j+1,i,h,hi=>by
  simp only[runsL]
  rw[List.getElem?_append_right (by simp[runC];omega)]
  have e:(j+1)*2+i-(runC r).length=j*2+i:=by simp[runC];omega
  rw[e,runsL_get l j i (by simpa using h) hi]
  rfl
theorem infoRun:(Tryz.prog.info? 166).map (fun i=>(i.zero,i.size,i.bytes))=some (some (.agg #[.int .i64 0,.int .i64 0]),2,16):=by kernel_rfl
theorem szRun:(Tryz.prog.info? 166).map (·.size)=some 2:=by kernel_rfl
def RdU(w:World)(B:Nat)(A:Option Addr)(l:List (Int×Int)):Prop:=SrcL w B 2 A l.length (runsL l)
theorem RdU.below{w w':World}{B B':Nat}{A:Option Addr}{l:List (Int×Int)}(h:RdU w B A l)(hb:Below B' w w')(hB:B≤B'):RdU w' B A l:=SrcL.below h hb hB
theorem RdU.of_own{w:World}{base c n:Nat}{A:Option Addr}{l:List (Int×Int)}(h:w.ownsRow base 166 2 (.slice A n c) n (runsL l)):n=l.length∧RdU w w.heap.size A l:=by
 have h1:=SrcL.of_own h
 have h2:=h1.1
 rw[runsL_length]at h2
 obtain rfl:n=l.length:=by omega
 exact⟨rfl,h1⟩
theorem RdU.at{w:World}{B:Nat}{A:Option Addr}{l:List (Int×Int)}(h:RdU w B A l){k:Nat}(hk:k<l.length):∃b o,A=some ⟨b,o,none⟩∧b<B∧∀j,j<l.length→
  w.cell? ⟨b,o+j*2,none⟩=some (.int .i64 (l.getD j run0).1)∧w.cell? ⟨b,o+j*2+1,none⟩=some (.int .i64 (l.getD j run0).2):=by
 obtain⟨b,o,h1,h2,h3⟩:=h.2 (by omega)
 refine⟨b,o,h1,h2,fun j hj=>⟨?_,?_⟩⟩
 ·have:=h3 (j*2+0) _ ((runsL_get l j 0 hj (by omega)).trans rfl)
  simpa using this
 ·have:=h3 (j*2+1) _ ((runsL_get l j 1 hj (by omega)).trans rfl)
  rw[show o+j*2+1=o+(j*2+1) by omega];exact this
theorem RdU.range{w:World}{B:Nat}{A:Option Addr}{l:List (Int×Int)}(h:RdU w B A l){b o:Nat}(hA:A=some ⟨b,o,none⟩){j:Nat}(hj:j<l.length):w.rangeAt b (o+j*2) (runC (l.getD j run0)):=by
 obtain⟨b',o',h1,_,h3⟩:=h.at hj
 rw[hA]at h1
 injection h1 with h1
 injection h1 with hb ho _
 subst hb;subst ho
 obtain⟨c0,c1⟩:=h3 j hj
 intro i v hv
 rcases i with _|_|i
 ·simp[runC]at hv;subst hv;exact c0
 ·simp[runC]at hv;subst hv;exact c1
 ·simp[runC]at hv
theorem run_oneU(w:World)(base:Nat)(A:Option Addr)(n c:Nat)(l:List (Int×Int))(hown:w.ownsRow base 166 2 (.slice A n c) n (runsL l))(r:Int×Int)(hn:n≤1000000)(hbase:base≤w.heap.size):
  ∃A' c' w',(Builtin.append_ #[195,195] 195 #[.slice A n c,.slice (some ⟨w.heap.size,0,none⟩) 1 1]).run Tryz.prog (w.alloc (.cells #[.int .i64 r.1,.int .i64 r.2] 166))=.ok (.slice A' (n+1) c') w'∧
   w'.ownsRow base 166 2 (.slice A' (n+1) c') (n+1) (runsL (l++[r]))∧Below base w w':=by
 have hb1:Below base w (w.alloc (.cells #[.int .i64 r.1,.int .i64 r.2] 166)):=(Below.refl base w).alloc hbase _
 obtain⟨A',c',w',h2,o2,b2⟩:=run_app (by_:=16) Tryz.underlying195 infoRun rfl (by decide) (w.alloc (.cells #[.int .i64 r.1,.int .i64 r.2] 166)) base _ (.slice A n c) n _ (hown.alloc _) _ 1 1 _
  (SrcL.new w 2 1 #[.int .i64 r.1,.int .i64 r.2] 166 rfl) (fun u hu=>by simp at hu;rcases hu with rfl|rfl<;>rfl) (by unfold maxLen;omega) (by omega) 195 (fun h=>by cases h) (Nat.le_trans hbase hb1.size)
 refine⟨A',c',w',h2,?_,hb1.trans b2⟩
 rw[runsL_app]
 exact o2
def RuR(w:World)(B:Nat)(A:Option Addr)(n c:Nat)(l:List (Int×Int)):Prop:=n=l.length∧RdU w B A l∧(A=none→c=0)∧n≤c∧c≤maxLen
theorem RuR.of_own{w:World}{base n c:Nat}{A:Option Addr}{l:List (Int×Int)}(h:w.ownsRow base 166 2 (.slice A n c) n (runsL l)):RuR w w.heap.size A n c l:=by
 obtain⟨h1,h2⟩:=RdU.of_own h
 refine⟨h1,h2,?_⟩
 rcases h.2 with⟨hv,h0⟩|⟨g,cap,cur,hv,_,_,k1,k2,_⟩
 ·injection hv with h3 h4 h5
  exact⟨fun _=>h5,by omega,by unfold maxLen;omega⟩
 ·injection hv with h3 h4 h5
  exact⟨(fun h=>by rw[h]at h3;cases h3),by omega,by omega⟩
end Go.Proofs.YtcmpmighjglnpaaGreat
namespace Go.Proofs.YtcmpmighjglnpaaGreat
open Go.RowKit Go.ChangeShapes Go.WideShapes Go.ChangeAt Go.Joins
theorem decN0{p:Prop}[Decidable p](h:¬p):decide p=false:=by simp[h]
theorem decY0{p:Prop}[Decidable p](h:p):decide p=true:=by simp[h]
end Go.Proofs.YtcmpmighjglnpaaGreat
namespace Go.Proofs.YtcmpmighjglnpaaGreat
open Go.RowKit Go.ChangeShapes Go.WideShapes Go.ChangeAt Go.Joins
theorem own_keepU{w w':World}{base sz n:Nat}{e:TypeId}{v:Value}{xs:List Value}(h:w.ownsRow base e sz v n xs)(hb:Below w.heap.size w w'):w'.ownsRow base e sz v n xs:=by
 obtain⟨h1,h2⟩:=h
 refine⟨h1,?_⟩
 rcases h2 with h2|⟨g,cap,cur,hv,hg,hh,r⟩
 ·exact .inl h2
 ·exact .inr ⟨g,cap,cur,hv,hg,(hb.block g (Array.getElem?_eq_some_iff.1 hh).1).trans hh,r⟩
def p2U(k:Nat):Nat:=2^k
theorem p2U_le{k:Nat}(h:k≤7):p2U k≤128:=by
 have:=Nat.pow_le_pow_right (n:=2) (by omega) h
 exact this
end Go.Proofs.YtcmpmighjglnpaaGreat
namespace Go.Proofs.YtcmpmighjglnpaaGreat
open Go.RowKit
theorem ord_lt:∀i,ordN i<19:=by
 intro i
 rcases Nat.lt_or_ge i 19 with h|h
 ·have:∀j,j<19→ordN j<19:=by decide
  exact this i h
 ·unfold ordN
  rw[List.getD_eq_getElem?_getD,List.getElem?_eq_none (by simpa using h)]
  show 0<19;omega
theorem ownsRow_base{w:World}{base base' sz n:Nat}{e:TypeId}{v:Value}{xs:List Value}(h:w.ownsRow base e sz v n xs)(hb:base'≤base):w.ownsRow base' e sz v n xs:=by
 obtain⟨h1,h2⟩:=h
 refine⟨h1,?_⟩
 rcases h2 with h2|⟨g,cap,cur,hv,hg,r⟩
 ·exact .inl h2
 ·exact .inr ⟨g,cap,cur,hv,Nat.le_trans hb hg,r⟩
theorem own_typeG{w:World}{base sz n h:Nat}{e t:TypeId}{v:Value}{xs:List Value}{cs:Array Value}(ho:w.ownsRow base e sz v n xs)(hh:w.heap[h]?=some (.cells cs t (0,0)))(hne:(e==t)=false):v.ownBlock≠some h:=fun hk=>by
 rcases ho.2 with⟨rfl,_⟩|⟨g,cap,cur,rfl,_,hg,_⟩
 ·simp[Value.ownBlock]at hk
 ·simp[Value.ownBlock]at hk
  subst hk
  rw[hg]at hh
  injection hh with hh
  injection hh with _ h2 _
  rw[h2]at hne;simp at hne
end Go.Proofs.YtcmpmighjglnpaaGreat
namespace Go.Proofs.YtcmpmighjglnpaaGreat
open Go.RowKit Go.ChangeShapes Go.WideShapes Go.ChangeAt Go.Joins
theorem fixA_le(j:Nat):fixA j≤15:=by unfold fixA;split;omega;split<;>omega
theorem fixB_le(j:Nat):fixB j≤15:=by unfold fixB;omega
end Go.Proofs.YtcmpmighjglnpaaGreat
namespace Go.Proofs.YtcmpmighjglnpaaGreat
open Go.RowKit
theorem undrew{B:Nat}{w w':World}(h:Below B w.drew w'):Below B w w':=⟨h.os,h.tape,h.output,h.size,h.block⟩
end Go.Proofs.YtcmpmighjglnpaaGreat
namespace Go.Proofs.YtcmpmighjglnpaaGreat
open Go.RowKit Go.ChangeShapes Go.WideShapes Go.ChangeAt Go.Joins
theorem RdB.setRow{w:World}{B h n:Nat}{A:Option Addr}{f:Nat→Nat}(hr:RdB w B A n f)(cs:Array Value)(hne:∀g o,0<n→A=some ⟨g,o,none⟩→g≠h):RdB (w.setRow h cs) B A n f:=by
 refine⟨hr.1,fun h0=>?_⟩
 obtain⟨b,o,e,hb,hc⟩:=hr.2 h0
 refine⟨b,o,e,hb,fun j hj=>?_⟩
 have h1:=hc j hj
 have h2:=setRow_other w h b cs (hne b o h0 e)
 simp only[World.cell?,h2]at h1⊢
 exact h1
end Go.Proofs.YtcmpmighjglnpaaGreat
namespace Go.Proofs.YtcmpmighjglnpaaGreat
open Go.RowKit Go.ChangeShapes Go.WideShapes Go.ChangeAt
theorem numN_congr{f g:Nat→Nat}{a:Nat}:∀n,(∀j,j<n→bitAt f (a+j)=bitAt g (a+j))→numN f a n=numN g a n
 |0,_=>rfl
 |n+1,h=>by
  show numN f a n+_=numN g a n+_
  rw[numN_congr n fun j hj=>h j (by omega),h n (by omega)]
end Go.Proofs.YtcmpmighjglnpaaGreat
namespace Go.Proofs.YtcmpmighjglnpaaGreat
theorem numN_add(F:Nat→Nat)(a m:Nat):∀n,numN F a (m+n)=numN F a m+2^m*numN F (a+m) n
 |0=>by simp[numN]
 |n+1=>by
  show numN F a (m+n)+bitAt F (a+(m+n))*2^(m+n)=numN F a m+2^m*(numN F (a+m) n+bitAt F (a+m+n)*2^n)
  rw[numN_add F a m n,Nat.mul_add,Nat.add_assoc,Nat.add_assoc,Nat.pow_add]
  congr 2
  rw[Nat.mul_comm (bitAt F (a+(m+n))),Nat.mul_assoc,Nat.mul_comm (2^n)]
end Go.Proofs.YtcmpmighjglnpaaGreat
namespace Go.Proofs.YtcmpmighjglnpaaGreat
open Go.RowKit Go.ChangeShapes Go.WideShapes Go.ChangeAt
theorem run_eqItems_nums{P:Program}(w:World)(d:Nat){e:TypeId}{q:IntKind}(he:P.underlying e=some (.int q))(xs ys:Array Value)(f g:Nat→Int):∀(is:List Nat),
  (∀i∈is,xs[i]?=some (.int q (f i))∧ys[i]?=some (.int q (g i)))→(Op.eqItems (d+1) e 1 xs ys is).run P w=.ok (decide (∀i∈is,f i=g i)) w
 |[],_=>by simp[Op.eqItems]
 |i::is,h=>by
  obtain⟨h1,h2⟩:=h i (by simp)
  have hp:∀(zs:Array Value) (z:Int),zs[i]?=some (.int q z)→(part e zs (i*1)).run P w=.ok (.int q z) w:=by
   intro zs z hz
   unfold part isAgg
   simp[Sem.run_bind,run_underlying he,hz]
  have h3:(Op.equalIn (d+1) e (.int q (f i)) (.int q (g i))).run P w=.ok (f i==g i) w:=run_equalIn_int w d e q q _ _ he
  simp only[Op.eqItems,Sem.run_bind,hp _ _ h1,hp _ _ h2,h3,Result.andThen_ok]
  have ih:=run_eqItems_nums w d he xs ys f g is (fun j hj=>h j (by simp[hj]))
  by_cases hc:f i=g i
  ·simp[hc,ih]
  ·simp[hc]
end Go.Proofs.YtcmpmighjglnpaaGreat
namespace Go.Proofs.YtcmpmighjglnpaaGreat
open Go.RowKit
def tcN(f:Nat→Nat)(m:Nat):Nat→Nat
 |0=>0
 |n+1=>tcN f m n+if 0<f n∧f n=m then 1 else 0
theorem cntN_le(f:Nat→Nat)(m:Nat):∀n,tcN f m n≤n
 |0=>Nat.le_refl _
 |n+1=>by have:=cntN_le f m n;simp only[tcN];split<;>omega
theorem cntN_zero(f:Nat→Nat):∀n,tcN f 0 n=0
 |0=>rfl
 |n+1=>by simp only[tcN];rw[cntN_zero f n,if_neg (by omega)]
theorem inN_cnt(f:Nat→Nat){m:Nat}(hm:0<m):∀n,inN f m n=tcN f m n*pt m
 |0=>by simp[inN,tcN]
 |n+1=>by
  simp only[inN,tcN]
  rw[inN_cnt f hm n]
  by_cases h:f n=m
  ·rw[if_pos h,if_pos ⟨by omega,h⟩,Nat.add_mul,Nat.one_mul]
  ·rw[if_neg h,if_neg (fun g=>h g.2)];rfl
def sumC(f:Nat→Nat)(n:Nat):Nat→Nat
 |0=>0
 |m+1=>sumC f n m+tcN f (m+1) n
theorem sumC_none(f:Nat→Nat):∀M,sumC f 0 M=0
 |0=>rfl
 |M+1=>by simp only[sumC,tcN];rw[sumC_none f M]
theorem sumC_more(f:Nat→Nat)(n:Nat):∀M,sumC f (n+1) M=sumC f n M+if 0<f n∧f n≤M then 1 else 0
 |0=>by rw[if_neg (by omega)];rfl
 |M+1=>by
  simp only[sumC,tcN]
  rw[sumC_more f n M]
  repeat' split
  all_goals omega
theorem usedN_sum(f:Nat→Nat):∀n,(∀j,j<n→f j≤15)→usedN f n=sumC f n 15
 |0,_=>(sumC_none f 15).symm
 |n+1,h=>by
  rw[sumC_more,←usedN_sum f n (fun j hj=>h j (by omega))]
  simp only[usedN]
  have:=h n (by omega)
  by_cases h1:0<f n
  ·rw[if_pos h1,if_pos ⟨h1,this⟩]
  ·rw[if_neg h1,if_neg (fun g=>h1 g.1)]
def leftI(t:Nat→Nat):Nat→Int
 |0=>1
 |k+1=>2*leftI t k-(t (k+1):Int)
theorem leftI_bd{t:Nat→Nat}(ht:∀m,t m≤1000):∀k,leftI t k≤((2^k:Nat):Int)∧1000-((1000*2^k:Nat):Int)≤leftI t k
 |0=>by simp[leftI]
 |k+1=>by
  have:=leftI_bd ht k
  have h1:=ht (k+1)
  simp only[leftI,Nat.pow_succ]
  omega
theorem leftI_in{t:Nat→Nat}(ht:∀m,t m≤1000){k:Nat}(hk:k≤15):leftI t k≤32768∧-32768000≤leftI t k:=by
 have:=leftI_bd ht k
 have h2:(2:Nat)^k≤2^15:=Nat.pow_le_pow_right (by omega) hk
 have h3:(2:Nat)^15=32768:=rfl
 omega
theorem leftI_sum(f:Nat→Nat)(n:Nat):∀k,k≤15→leftI (fun m=>tcN f m n) k*(pt k:Int)=32768-(sumTo f n k:Int)
 |0,_=>by simp[leftI,sumTo,pt]
 |k+1,h=>by
  have ih:=leftI_sum f n k (by omega)
  have e:pt k=pt (k+1)*2:=by rw[pt_mul (Nat.le_succ k) h,show k+1-k=1 by omega]
  simp only[leftI,sumTo]
  rw[inN_cnt f (by omega),Int.sub_mul,Int.natCast_add,Int.natCast_mul]
  rw[e,Int.natCast_mul,←Int.mul_assoc]at ih
  have h2:2*leftI (fun m=>tcN f m n) k*(pt (k+1):Int)=leftI (fun m=>tcN f m n) k*(pt (k+1):Int)*((2:Nat):Int):=by
   rw[Int.mul_comm 2,Int.mul_assoc,Int.mul_comm 2,←Int.mul_assoc];rfl
  rw[h2]
  omega
theorem left_all{f:Nat→Nat}{n:Nat}(h:∀j,j<n→f j≤15):leftI (fun m=>tcN f m n) 15=32768-(allN f n:Int):=by
 have:=leftI_sum f n 15 (Nat.le_refl _)
 rw[allN_sum f n h]
 rw[←this,show pt 15=1 from rfl];simp
def oneT(m:Nat):Nat:=if m=1 then 1 else 0
theorem sumC_all(f:Nat→Nat)(n:Nat):sumC f n 15=0+tcN f 1 n+tcN f 2 n+tcN f 3 n+tcN f 4 n+tcN f 5 n+tcN f 6 n+tcN f 7 n+tcN f 8 n+tcN f 9 n+tcN f 10 n+tcN f 11 n+tcN f 12 n+tcN f 13 n+tcN f 14 n+tcN f 15 n:=rfl
theorem none_iff{f:Nat→Nat}{n:Nat}(h:∀j,j<n→f j≤15):(∀m,m<16→tcN f m n=0)↔usedN f n=0:=by
 rw[usedN_sum f n h]
 constructor
 ·intro g
  have:∀M,M<16→sumC f n M=0:=by
   intro M
   induction M with
   |zero=>intro _;rfl
   |succ M ih=>intro hM;simp only[sumC];rw[ih (by omega),g (M+1) hM]
  exact this 15 (by omega)
 ·intro g m hm
  have hz:=cntN_zero f n
  rw[sumC_all]at g
  obtain rfl|rfl|rfl|rfl|rfl|rfl|rfl|rfl|rfl|rfl|rfl|rfl|rfl|rfl|rfl|rfl:m=0∨m=1∨m=2∨m=3∨m=4∨m=5∨m=6∨m=7∨m=8∨m=9∨m=10∨m=11∨m=12∨m=13∨m=14∨m=15:=by omega
  all_goals omega
theorem half_bd(c1 c2 c3 c4 c5 c6 c7 c8 c9 c10 c11 c12 c13 c14 c15:Nat):c1*16384+c2*8192+c3*4096+c4*2048+c5*1024+c6*512+c7*256+c8*128+c9*64+c10*32+c11*16+c12*8+c13*4+c14*2+c15*1≤8192*(0+c1+c2+c3+c4+c5+c6+c7+c8+c9+c10+c11+c12+c13+c14+c15)+8192*c1:=by omega
theorem one_iff{f:Nat→Nat}{n:Nat}(h:∀j,j<n→f j≤15):(∀m,m<16→tcN f m n=oneT m)↔usedN f n=1∧allN f n=16384:=by
 rw[usedN_sum f n h,allN_sum f n h]
 have hp:∀m,0<m→inN f m n=tcN f m n*pt m:=fun m hm=>inN_cnt f hm n
 have e:sumTo f n 15=tcN f 1 n*16384+tcN f 2 n*8192+tcN f 3 n*4096+tcN f 4 n*2048+tcN f 5 n*1024+tcN f 6 n*512+tcN f 7 n*256+tcN f 8 n*128+tcN f 9 n*64+tcN f 10 n*32+tcN f 11 n*16+tcN f 12 n*8+tcN f 13 n*4+tcN f 14 n*2+tcN f 15 n*1:=by
  simp only[sumTo]
  rw[hp 1 (by omega),hp 2 (by omega),hp 3 (by omega),hp 4 (by omega),hp 5 (by omega),hp 6 (by omega),hp 7 (by omega),hp 8 (by omega),hp 9 (by omega),hp 10 (by omega),hp 11 (by omega),hp 12 (by omega),hp 13 (by omega),hp 14 (by omega),hp 15 (by omega)]
  have:pt 1=16384∧pt 2=8192∧pt 3=4096∧pt 4=2048∧pt 5=1024∧pt 6=512∧pt 7=256∧pt 8=128∧pt 9=64∧pt 10=32∧pt 11=16∧pt 12=8∧pt 13=4∧pt 14=2∧pt 15=1:=by decide
  obtain⟨h1,h2,h3,h4,h5,h6,h7,h8,h9,h10,h11,h12,h13,h14,h15⟩:=this
  rw[h1,h2,h3,h4,h5,h6,h7,h8,h9,h10,h11,h12,h13,h14,h15]
  omega
 rw[e]
 clear hp e
 rw[sumC_all]
 constructor
 ·intro g
  rw[g 1 (by omega),g 2 (by omega),g 3 (by omega),g 4 (by omega),g 5 (by omega),g 6 (by omega),g 7 (by omega),g 8 (by omega),g 9 (by omega),g 10 (by omega),g 11 (by omega),g 12 (by omega),g 13 (by omega),g 14 (by omega),g 15 (by omega)]
  decide
 ·rintro⟨g1,g2⟩ m hm
  have hz:=cntN_zero f n
  have hone:tcN f 1 n=1:=by
   have h1:16384≤8192*1+8192*tcN f 1 n:=by
    have:=half_bd (tcN f 1 n) (tcN f 2 n) (tcN f 3 n) (tcN f 4 n) (tcN f 5 n) (tcN f 6 n) (tcN f 7 n) (tcN f 8 n) (tcN f 9 n) (tcN f 10 n) (tcN f 11 n) (tcN f 12 n) (tcN f 13 n) (tcN f 14 n) (tcN f 15 n)
    rw[g1,g2]at this
    exact this
   clear g2
   omega
  clear g2
  rw[hone]at g1
  obtain rfl|rfl|rfl|rfl|rfl|rfl|rfl|rfl|rfl|rfl|rfl|rfl|rfl|rfl|rfl|rfl:m=0∨m=1∨m=2∨m=3∨m=4∨m=5∨m=6∨m=7∨m=8∨m=9∨m=10∨m=11∨m=12∨m=13∨m=14∨m=15:=by omega
  all_goals(unfold oneT;first|exact hone|(rw[if_neg (by decide)];omega))
theorem cnt_step{f:Nat→Nat}{i:Nat}(h0:0<f i):upd (fun m=>tcN f m i) (f i) (tcN f (f i) i+1)=fun m=>tcN f m (i+1):=by
 funext m
 unfold upd
 simp only[tcN]
 by_cases e:m=f i
 ·subst e;rw[if_pos rfl,if_pos ⟨h0,rfl⟩]
 ·rw[if_neg e,if_neg (fun g=>e g.2.symm)];rfl
theorem cnt_skip{f:Nat→Nat}{i:Nat}(h0:f i=0):(fun m=>tcN f m i)=fun m=>tcN f m (i+1):=by
 funext m
 simp only[tcN]
 rw[if_neg (by omega)];rfl
def talL(g:Nat→Nat):List Value:=(List.range 16).map fun i=>.int .i64 (g i:Int)
def talA(g:Nat→Nat):Array Value:=(talL g).toArray
theorem talA_size(g:Nat→Nat):(talA g).size=16:=by simp[talA,talL]
theorem talA_get(g:Nat→Nat)(i:Nat):(talA g)[i]?=if i<16 then some (.int .i64 (g i:Int))else none:=by
 unfold talA talL
 by_cases h:i<16<;>simp[h]
theorem talA_one(g:Nat→Nat):(talA g).all (·.oneCell')=true:=by
 rw[Array.all_eq_true]
 intro i hi
 have:(talA g)[i]=.int .i64 (g i:Int):=by simp[talA,talL]
 rw[this];rfl
theorem talA_set(g:Nat→Nat)(i x:Nat):(talA g).setIfInBounds i (.int .i64 (x:Int))=talA (upd g i x):=by
 apply Array.ext_getElem?
 intro j
 rw[Array.getElem?_setIfInBounds,talA_get,talA_get,talA_size]
 unfold upd
 by_cases e:i=j
 ·subst e
  by_cases h:i<16<;>simp[h]
 ·have e':¬j=i:=fun h=>e h.symm
  simp[e,e']
theorem infoTal:(Tryz.prog.info? 190).map (fun i=>(i.zero,i.size))=some (some (.agg (talA zeroN)),16):=by kernel_rfl
theorem szTal:(Tryz.prog.info? 190).map (·.size)=some 16:=(zero_of_info infoTal).2
def Tal(w:World)(b:Nat)(g:Nat→Nat):Prop:=w.heap[b]?=some (.cells (talA g) 190 (0,0))
theorem Tal.cell{w:World}{b:Nat}{g:Nat→Nat}(h:Tal w b g){j:Nat}(hj:j<16):w.cell? ⟨b,j,none⟩=some (.int .i64 (g j:Int)):=by
 rw[cell_of_row w b j _ _ (0,0) h,talA_get,if_pos hj]
theorem Tal.frozen{w:World}{b:Nat}{g:Nat→Nat}(h:Tal w b g)(j:Nat):w.frozen? ⟨b,j,none⟩=false:=frozen_of_row w b j _ _ h
theorem Tal.set{w:World}{b:Nat}{g:Nat→Nat}(h:Tal w b g)(i x:Nat):Tal (w.setCell ⟨b,i,none⟩ (.int .i64 (x:Int))) b (upd g i x):=by
 unfold Tal
 rw[heap_setCell_same w b i _ _ _ h,talA_set]
theorem Tal.other{w:World}{b:Nat}{g:Nat→Nat}(h:Tal w b g){p:Addr}(hp:b≠p.block)(u:Value):Tal (w.setCell p u) b g:=(Below.heap_setCell w p u b hp).trans h
theorem Tal.below{w w':World}{b B:Nat}{g:Nat→Nat}(h:Tal w b g)(hb:Below B w w')(hg:b<B):Tal w' b g:=(hb.block b hg).trans h
end Go.Proofs.YtcmpmighjglnpaaGreat
namespace Go.Proofs.YtcmpmighjglnpaaGreat
def rowM(f:Nat→Nat)(m:Nat):Nat→List Nat
 |0=>[]
 |n+1=>rowM f m n++if f n=m then[n]else[]
def symL(f:Nat→Nat)(n:Nat):Nat→List Nat
 |0=>[]
 |M+1=>symL f n M++rowM f (M+1) n
theorem rowM_length(f:Nat→Nat){m:Nat}(hm:0<m):∀n,(rowM f m n).length=tcN f m n
 |0=>rfl
 |n+1=>by
  simp only[rowM,tcN,List.length_append]
  rw[rowM_length f hm n]
  by_cases h:f n=m
  ·rw[if_pos h,if_pos ⟨by omega,h⟩];rfl
  ·rw[if_neg h,if_neg (fun g=>h g.2)];rfl
theorem symL_length(f:Nat→Nat)(n:Nat):∀M,(symL f n M).length=sumC f n M
 |0=>rfl
 |M+1=>by
  simp only[symL,sumC,List.length_append]
  rw[symL_length f n M,rowM_length f (by omega)]
theorem rowM_mem(f:Nat→Nat)(m j:Nat):∀n,j∈rowM f m n↔j<n∧f j=m
 |0=>by simp[rowM]
 |n+1=>by
  simp only[rowM,List.mem_append]
  rw[rowM_mem f m j n]
  constructor
  ·rintro(⟨h1,h2⟩|h)
   ·exact⟨by omega,h2⟩
   ·split at h
    ·simp at h;subst h;exact⟨by omega,by assumption⟩
    ·simp at h
  ·rintro⟨h1,h2⟩
   rcases Nat.eq_or_lt_of_le (Nat.le_of_lt_succ h1)with e|e
   ·subst e;right;rw[if_pos h2];simp
   ·exact .inl ⟨e,h2⟩
theorem rowM_nodup(f:Nat→Nat)(m:Nat):∀n,(rowM f m n).Nodup
 |0=>List.nodup_nil
 |n+1=>by
  simp only[rowM]
  rw[List.nodup_append]
  refine⟨rowM_nodup f m n,by split<;>simp,fun a ha b hb=>?_⟩
  have:=((rowM_mem f m a n).1 ha).1
  split at hb
  ·simp at hb;omega
  ·simp at hb
theorem sumC_mono(f:Nat→Nat)(n:Nat){a b:Nat}(h:a≤b):sumC f n a≤sumC f n b:=by
 induction b with
 |zero=>rw[show a=0 by omega];exact Nat.le_refl _
 |succ b ih=>
  rcases Nat.eq_or_lt_of_le h with h|h
  ·subst h;exact Nat.le_refl _
  ·exact Nat.le_trans (ih (by omega)) (Nat.le_add_right _ _)
def IsTree(c:Nat→Int)(s:List Int)(f:Nat→Nat):Prop:=
 checkE f 320 15=0∧(∀j,320≤j→f j=0)∧(∀m,m<16→c m=(tcN f m 320:Int))∧s=natsI (symL f 320 15)
theorem natsI_inj{a b:List Nat}(h:natsI a=natsI b):a=b:=by
 unfold natsI at h
 exact List.map_inj_right (fun x y h=>by omega)|>.1 h
theorem isTree_lens{c:Nat→Int}{s:List Int}{f:Nat→Nat}(h:IsTree c s f):∀j,j<320→f j≤15:=by
 obtain⟨_,_,_,hb,_⟩:=check_ok h.1
 intro j hj;have:=hb j hj;omega
theorem isTree_length{c:Nat→Int}{s:List Int}{f:Nat→Nat}(h:IsTree c s f):s.length=sumC f 320 15∧s.length≤320:=by
 have e:s.length=sumC f 320 15:=by rw[h.2.2.2,natsI_length,symL_length]
 refine⟨e,?_⟩
 rw[e,←usedN_sum f 320 (isTree_lens h)]
 exact used_le f 320
theorem isTree_one{c:Nat→Int}{s:List Int}{f g:Nat→Nat}(hf:IsTree c s f)(hg:IsTree c s g):f=g:=by
 have hc:∀m,m<16→tcN f m 320=tcN g m 320:=fun m hm=>by
  have h1:=hf.2.2.1 m hm
  have h2:=hg.2.2.1 m hm
  omega
 have hs:symL f 320 15=symL g 320 15:=natsI_inj (hf.2.2.2.symm.trans hg.2.2.2)
 have key:∀k M,M+k=15→symL f 320 M=symL g 320 M:=by
  intro k
  induction k with
  |zero=>intro M h;rw[show M=15 by omega];exact hs
  |succ k ih=>
   intro M h
   have:=ih (M+1) (by omega)
   simp only[symL]at this
   exact(List.append_inj' this (by rw[rowM_length f (by omega),rowM_length g (by omega),hc (M+1) (by omega)])).1
 have hrow:∀m,0<m→m≤15→rowM f m 320=rowM g m 320:=fun m h0 h15=>by
  obtain⟨M,rfl⟩:∃M,m=M+1:=⟨m-1,by omega⟩
  have:=key (15-(M+1)) (M+1) (by omega)
  simp only[symL]at this
  exact(List.append_inj' this (by rw[rowM_length f (by omega),rowM_length g (by omega),hc (M+1) (by omega)])).2
 funext j
 by_cases hj:j<320
 ·have hf15:=isTree_lens hf j hj
  have hg15:=isTree_lens hg j hj
  by_cases h0:0<f j
  ·have:j∈rowM f (f j) 320:=(rowM_mem f _ j 320).2 ⟨hj,rfl⟩
   rw[hrow (f j) h0 hf15]at this
   exact((rowM_mem g _ j 320).1 this).2.symm
  ·by_cases h1:0<g j
   ·have:j∈rowM g (g j) 320:=(rowM_mem g _ j 320).2 ⟨hj,rfl⟩
    rw[←hrow (g j) h1 hg15]at this
    exact((rowM_mem f _ j 320).1 this).2
   ·omega
 ·rw[hf.2.1 j (by omega),hg.2.1 j (by omega)]
theorem sym_at{c:Nat→Int}{s:List Int}{f:Nat→Nat}(h:IsTree c s f){k i:Nat}(h0:0<k)(hk:k≤15)(hi:i<tcN f k 320):
  s.getD (sumC f 320 (k-1)+i) 0=((rowM f k 320).getD i 0:Nat)∧(rowM f k 320).getD i 0<320∧f ((rowM f k 320).getD i 0)=k:=by
 have hlen:(rowM f k 320).length=tcN f k 320:=rowM_length f h0 320
 have hmem:(rowM f k 320).getD i 0∈rowM f k 320:=by
  rw[List.getD_eq_getElem?_getD,List.getElem?_eq_getElem (by omega)];exact List.getElem_mem _
 refine⟨?_,((rowM_mem f k _ 320).1 hmem).1,((rowM_mem f k _ 320).1 hmem).2⟩
 rw[h.2.2.2,natsI_get]
 have key:∀M,k≤M→(symL f 320 M).getD (sumC f 320 (k-1)+i) 0=(rowM f k 320).getD i 0:=by
  intro M
  induction M with
  |zero=>intro g;omega
  |succ M ih=>
   intro g
   simp only[symL]
   rcases Nat.eq_or_lt_of_le g with e|e
   ·rw[←e]
    have e2:k-1=M:=by omega
    rw[e2,List.getD_eq_getElem?_getD,List.getElem?_append_right (by rw[symL_length];omega),symL_length,show sumC f 320 M+i-sumC f 320 M=i by omega,List.getD_eq_getElem?_getD]
   ·have h1:=ih (by omega)
    have h2:sumC f 320 (k-1)+i<(symL f 320 M).length:=by
     rw[symL_length]
     have h3:=sumC_mono f 320 (show k≤M by omega)
     obtain⟨K,rfl⟩:∃K,k=K+1:=⟨k-1,by omega⟩
     have h4:sumC f 320 (K+1)=sumC f 320 K+tcN f (K+1) 320:=rfl
     rw[Nat.add_sub_cancel];omega
    rw[List.getD_eq_getElem?_getD,List.getElem?_append_left h2,←List.getD_eq_getElem?_getD]
    exact h1
 exact congrArg (fun(x:Nat)=>(x:Int)) (key 15 hk)
def partL(f:Nat→Nat)(k i j:Nat):Nat:=if 0<f j∧f j<k then f j else if f j=k∧j∈(rowM f k 320).take i then k else 0
theorem part_free{f:Nat→Nat}{k i:Nat}(h0:0<k)(hi:i<tcN f k 320):partL f k i ((rowM f k 320).getD i 0)=0:=by
 have hlen:(rowM f k 320).length=tcN f k 320:=rowM_length f h0 320
 have hx:i<(rowM f k 320).length:=by omega
 have e:(rowM f k 320).getD i 0=(rowM f k 320)[i]:=by rw[List.getD_eq_getElem?_getD,List.getElem?_eq_getElem hx];rfl
 have hmem:(rowM f k 320).getD i 0∈rowM f k 320:=by rw[e];exact List.getElem_mem _
 have hf:=((rowM_mem f k _ 320).1 hmem).2
 unfold partL
 rw[if_neg (by omega),if_neg]
 rintro⟨_,hm⟩
 obtain⟨j,hj,hj2⟩:=List.mem_iff_getElem.1 hm
 rw[List.length_take]at hj
 rw[List.getElem_take,e]at hj2
 have:=(List.getElem_inj (rowM_nodup f k 320)).1 hj2
 omega
theorem part_more{f:Nat→Nat}{k i:Nat}(h0:0<k)(hi:i<tcN f k 320):upd (partL f k i) ((rowM f k 320).getD i 0) k=partL f k (i+1):=by
 have hlen:(rowM f k 320).length=tcN f k 320:=rowM_length f h0 320
 have hx:i<(rowM f k 320).length:=by omega
 have e:(rowM f k 320).getD i 0=(rowM f k 320)[i]:=by rw[List.getD_eq_getElem?_getD,List.getElem?_eq_getElem hx];rfl
 have hmem:(rowM f k 320).getD i 0∈rowM f k 320:=by rw[e];exact List.getElem_mem _
 have hf:=((rowM_mem f k _ 320).1 hmem).2
 have ht:(rowM f k 320).take (i+1)=(rowM f k 320).take i++[(rowM f k 320).getD i 0]:=by rw[e,List.take_succ_eq_append_getElem hx]
 funext j
 unfold upd partL
 rw[ht]
 by_cases hj:j=(rowM f k 320).getD i 0
 ·rw[if_pos hj,hj,if_neg (by omega),if_pos ⟨hf,by simp⟩]
 ·rw[if_neg hj]
  have:j∈(rowM f k 320).take i++[(rowM f k 320).getD i 0]↔j∈(rowM f k 320).take i:=by
   rw[List.mem_append,List.mem_singleton]
   exact⟨fun h=>h.resolve_right hj,.inl⟩
  simp only[this]
theorem part_next{f:Nat→Nat}{k:Nat}(h0:0<k)(h:∀j,320≤j→f j=0):partL f k (tcN f k 320)=partL f (k+1) 0:=by
 funext j
 unfold partL
 have hlen:(rowM f k 320).length=tcN f k 320:=rowM_length f h0 320
 rw[←hlen,List.take_length,List.take_zero]
 simp only[rowM_mem]
 by_cases h1:0<f j∧f j<k
 ·rw[if_pos h1,if_pos ⟨h1.1,by omega⟩]
 ·rw[if_neg h1]
  by_cases h2:f j=k
  ·have:j<320:=by
    rcases Nat.lt_or_ge j 320 with g|g
    ·exact g
    ·have:=h j g;omega
   rw[if_pos ⟨h2,this,h2⟩,if_pos ⟨by omega,by omega⟩,h2]
  ·rw[if_neg (fun g=>h2 g.1),if_neg (by omega),if_neg (by simp)]
theorem part_none(f:Nat→Nat):partL f 1 0=fun _=>0:=by
 funext j;unfold partL;rw[if_neg (by omega),if_neg (by simp)]
theorem part_all{f:Nat→Nat}(h:∀j,f j≤15):partL f 16 0=f:=by
 funext j
 unfold partL
 have:=h j
 by_cases h0:0<f j
 ·rw[if_pos ⟨h0,by omega⟩]
 ·rw[if_neg (by omega),if_neg (by simp)];omega
end Go.Proofs.YtcmpmighjglnpaaGreat
namespace Go.Proofs.YtcmpmighjglnpaaGreat
open Go.RowKit
theorem wpList_store_rowT{P:Program}{ops:Array Oper}{rest:List Oper}{o:Oper}{a:Act}{w:World}{Q:Exit→Act→World→Prop}(hgd:o.guard=none)(ty:TypeId)(x y:Operand)(ho:o.op=.store ty x y)
  (g:Nat) (cells:Array Value) (hx:a.eval x=.pointer (some ⟨g,0,none⟩)) (hy:a.eval y=.agg cells)
  (t:TypeId) (old:Array Value) (hg:w.heap[g]?=some (.cells old t (0,0))) (hi:(P.info? ty).map (·.size)=some cells.size)
  (hold:old.size=cells.size) (h1:cells.all (·.oneCell')=true)
  (h:wpList P ops Q rest (a.put o.dst undef) (w.setRow g cells)):wpList P ops Q (o::rest) a w:=
 wpList_plain hgd fun _ hK=>wp_store_row ty x y ho g cells hx hy t old hg hi hold h1 (hK _ _ h)
theorem below_setRowT{B:Nat}{a w:World}(h:Below B a w){g:Nat}(hp:B≤g)(cs:Array Value):Below B a (w.setRow g cs):=
 ⟨h.os,h.tape,h.output,by rw[size_setRow];exact h.size,fun k hk=>(setRow_other w g k cs (by omega)).trans (h.block k hk)⟩
theorem Tal.setRow{w:World}{b:Nat}{g h:Nat→Nat}(ht:Tal w b g):Tal (w.setRow b (talA h)) b h:=setRow_heap w b _ _ _ _ ht
theorem count_any(w:World)(A:Option Addr)(n c:Nat)(f:Nat→Nat)(hr:RdB w w.heap.size A n f)(hn:n≤1000000)(h15:∀j,j<n→f j≤15):
  Calls Tryz.prog 135 #[.slice A n c] w fun e w'=>e=.returned (.agg (talA fun m=>tcN f m n))∧Below w.heap.size w w':=by
 have hz:=(zero_of_info infoTal).1
 have HR:=Lib.hid hr;have H15:=Lib.hid h15
 clear hr h15
 go_enter Tryz.func135,Tryz.ntmps135
 go_wp2
 go_loopw [8] (fun i wr=>∃k:Nat,k≤n∧i=.int .i64 k∧Tal wr w.heap.size zeroN∧Tal wr (w.heap.size+1) (fun m=>tcN f m k)∧w.heap.size+1<wr.heap.size∧Below w.heap.size w wr) (fun i _=>n-(intOf i).toNat)
 case atStart=>
  exact⟨0,Nat.zero_le _,rfl,heap_alloc2_old w _ _,heap_alloc2_new w _ _,by simp,((Below.refl _ _).alloc (Nat.le_refl _) _).alloc (by simp) _⟩
 case round=>
  obtain⟨k,hk,rfl,h0,h1,hsz,hb⟩:=hrel
  by_cases hlt:k<n
  ·obtain⟨b,o,rfl,_,hc⟩:=(HR.out.below hb (Nat.le_refl _)).2 (by omega)
   have hcell:=hc k hlt
   have hf:=H15.out k hlt
   have hcn:=cntN_le f (f k) k
   clear hc
   by_cases hp:0<f k
   ·have c1:=h1.cell (show f k<16 by omega)
    have f1:=h1.frozen (f k)
    have H0:=Lib.hid h0;have H1:=Lib.hid h1;have HB:=Lib.hid hb
    have HS:=Lib.hid (cnt_step hp)
    clear h0 h1 hb
    obtain⟨q,hq⟩:∃q,q=tcN f (f k) k:=⟨_,rfl⟩
    have HQ:=Lib.hid hq
    rw[←hq]at c1 hcn
    clear hq
    go_wp2
    go_roundw
    case rel=>
     have hset:=H1.out.set (f k) (q+1)
     rw[HQ.out,HS.out]at hset
     refine⟨k+1,by omega,by go_num,H0.out.other (by simp) _,?_,by simpa[World.setCell]using hsz,HB.out.setCell (by simp) _⟩
     rw[HQ.out];exact hset
    case measure=>simp[intOf];omega
   ·have hz0:f k=0:=by omega
    have hno:decide (0<((f k:Nat):Int))=false:=by simp;omega
    have H0:=Lib.hid h0;have H1:=Lib.hid h1;have HB:=Lib.hid hb
    have HS:=Lib.hid (cnt_skip hz0)
    clear h0 h1 hb hz0
    go_wp2
    go_roundw
    case rel=>
     refine⟨k+1,by omega,by go_num,H0.out,?_,hsz,HB.out⟩
     rw[←HS.out];exact H1.out
    case measure=>simp[intOf];omega
  ·obtain rfl:k=n:=by omega
   have H0:=Lib.hid h0;have H1:=Lib.hid h1;have HB:=Lib.hid hb
   clear h0 h1 hb hlt hk
   go_wp2_with (first
    |(refine wpList_load_row rfl _ _ rfl (w.heap.size+1) rfl _ (talA fun m=>tcN f m k) (0,0) _ H1.out Tryz.underlying190 rfl (by rw[talA_size];exact szTal) ?_)
    |(refine wpList_store_rowT rfl _ _ _ rfl w.heap.size (talA fun m=>tcN f m k) rfl rfl _ (talA zeroN) H0.out (by rw[talA_size];exact szTal) (by rw[talA_size,talA_size]) (talA_one _) ?_))
   refine bodyPost_ret (v:=.agg (talA fun m=>tcN f m k)) ?_ rfl ⟨rfl,below_setRowT HB.out (Nat.le_refl _) _⟩
   exact results_cell_row rfl _ _ w.heap.size _ _ (0,0) _ rfl (H0.out.setRow (h:=fun m=>tcN f m k)) Tryz.underlying190 rfl (by rw[talA_size];exact szTal)
theorem left_any(w:World)(t:Nat→Nat)(ht:∀m,t m≤1000):
  Calls Tryz.prog 149 #[.agg (talA t)] w fun e w'=>e=.returned (.int .i64 (leftI t 15))∧Below w.heap.size w w':=by
 have HT:=Lib.hid ht
 clear ht
 go_enter Tryz.func149,Tryz.ntmps149
 go_wp2
 go_loopw [3,8] (fun l i wr=>∃k:Nat,k≤15∧i=.int .i64 k∧l=.int .i64 (leftI t k)∧Tal wr w.heap.size t∧Below w.heap.size w wr) (fun _ i _=>15-(intOf i).toNat)
 case atStart=>exact⟨0,by omega,rfl,rfl,heap_alloc_new w _,(Below.refl _ _).alloc (Nat.le_refl _) _⟩
 case round=>
  obtain⟨k,hk,rfl,rfl,ht,hb⟩:=hrel
  have HS:=Lib.hid (show leftI t (k+1)=2*leftI t k-(t (k+1):Int)from rfl)
  have hbd:=leftI_in HT.out (k:=k) (by omega)
  obtain⟨l,hl⟩:∃l,l=leftI t k:=⟨_,rfl⟩
  have HL:=Lib.hid hl
  rw[←hl]at hbd HS⊢
  clear hl
  obtain⟨hbd1,hbd2⟩:=hbd
  by_cases hlt:k<15
  ·have c1:=ht.cell (show 1+k<16 by omega)
   have hm:=HT.out (1+k)
   have H1:=Lib.hid ht;have HB:=Lib.hid hb
   clear ht hb
   go_wp2
   go_roundw
   case rel=>exact⟨k+1,by omega,by go_num,val_int (by rw[HS.out,Nat.add_comm 1 k]),H1.out,HB.out⟩
   case measure=>simp[intOf];omega
  ·obtain rfl:k=15:=by omega
   have HB:=Lib.hid hb
   clear ht hb hlt hk
   go_wp2
   go_ret
   exact⟨ret_int (by rw[HL.out]),HB.out⟩
end Go.Proofs.YtcmpmighjglnpaaGreat
namespace Go.Proofs.YtcmpmighjglnpaaGreat
open Go.RowKit
theorem wpList_on{P:Program}{ops:Array Oper}{rest:List Oper}{o:Oper}{a:Act}{w:World}{Q:Exit→Act→World→Prop}(hw:Region.wanted o (yielded ops a.tmps)=true)
  (h:∀K:Act→World→Prop,(∀a w,wpList P ops Q rest a w→K a w)→o.wp P a w K Q):wpList P ops Q (o::rest) a w:=
 wpList_step fun K hK=>by rw[if_pos hw];exact h K hK
theorem wpList_load_row_on{P:Program}{ops:Array Oper}{rest:List Oper}{o:Oper}{a:Act}{w:World}{Q:Exit→Act→World→Prop}(hw:Region.wanted o (yielded ops a.tmps)=true)(ty:TypeId)(x:Operand)(ho:o.op=.load ty x)
  (g:Nat) (hx:a.eval x=.pointer (some ⟨g,0,none⟩)) (t:TypeId) (cs:Array Value) (fr:Nat×Nat) (d:TypeDesc) (hg:w.heap[g]?=some (.cells cs t fr))
  (hu:P.underlying ty=some d) (hd:(match d with| .struct _| .array _ _=>true|_=>false)=true) (hi:(P.info? ty).map (·.size)=some cs.size)
  (h:wpList P ops Q rest (a.put o.dst (.agg cs)) w):wpList P ops Q (o::rest) a w:=
 wpList_on hw fun _ hK=>wp_load_row ty x ho g hx t cs fr d hg hu hd hi (hK _ _ h)
theorem wpList_neq_on{P:Program}{ops:Array Oper}{rest:List Oper}{o:Oper}{a:Act}{w:World}{Q:Exit→Act→World→Prop}(hw:Region.wanted o (yielded ops a.tmps)=true)(ty:TypeId)(x y:Operand)(ho:o.op=.binOp .neq ty x y ty)
  (u v:Value) (b:Bool) (hx:a.eval x=u) (hy:a.eval y=v) (hg:(eqGuard .neq ty x y u v).run P w=.ok () w) (hrun:(binOp .neq ty u v).run P w=.ok (.bool b) w)
  (h:wpList P ops Q rest (a.put o.dst (.bool b)) w):wpList P ops Q (o::rest) a w:=
 wpList_on hw fun K hK=>by
  unfold Oper.wp execOp
  simp only[ho,hx,hy]
  simp[hrun,hg,Sem.run_bind]
  exact hK _ _ h
theorem guard_tal(w:World)(x y:Operand)(u v:Array Value):(eqGuard .neq 190 x y (.agg u) (.agg v)).run Tryz.prog w=.ok () w:=by
 have h:Tryz.prog.eqGuardType Tryz.prog.depth 190=false:=by kernel_rfl
 unfold eqGuard
 simp[Sem.run_bind,h]
def sameB(t g:Nat→Nat):Bool:=(List.range 16).all fun m=>t m==g m
theorem sameB_iff(t g:Nat→Nat):sameB t g=true↔∀m,m<16→t m=g m:=by simp[sameB]
theorem run_neq_nums{P:Program}(w:World){t e:TypeId}{n:Nat}{q:IntKind}(ht:P.underlying t=some (.array n e))(he:P.underlying e=some (.int q))(hce:P.cellsOf e=1)(hi:(P.info? e).isSome=true)
  (xs ys:Array Value) (f g:Nat→Int) (hx:∀i,i<n→xs[i]?=some (.int q (f i))) (hy:∀i,i<n→ys[i]?=some (.int q (g i))):
  (binOp .neq t (.agg xs) (.agg ys)).run P w=.ok (.bool (!decide (∀i,i<n→f i=g i))) w:=by
 obtain⟨i,hi⟩:=Option.isSome_iff_exists.1 hi
 have h:=run_equalIn_array (P:=P) w 9999 xs ys ht hi
 rw[hce,run_eqItems_nums w 9998 he xs ys f g (List.range n) (fun i hi=>by have:=List.mem_range.1 hi;exact⟨hx i this,hy i this⟩)]at h
 have e:(binOp .neq t (.agg xs) (.agg ys)).run P w=((Op.equal t (.agg xs) (.agg ys)).run P w).andThen fun b w'=>.ok (.bool (!b)) w':=by
  unfold binOp
  simp
 rw[e]
 unfold Op.equal Op.maxDepth
 rw[h]
 simp
theorem run_neq_tal(w:World)(t g:Nat→Nat):(binOp .neq 190 (.agg (talA t)) (.agg (talA g))).run Tryz.prog w=.ok (.bool (!sameB t g)) w:=by
 rw[run_neq_nums (P:=Tryz.prog) w (n:=16) (q:=.i64) Tryz.underlying190 Tryz.underlying3 (by kernel_rfl) (by kernel_rfl) (talA t) (talA g) (fun i=>(t i:Int)) (fun i=>(g i:Int)) (fun i hi=>by rw[talA_get,if_pos hi]) (fun i hi=>by rw[talA_get,if_pos hi])]
 have:(∀i,i<16→(t i:Int)=(g i:Int))↔sameB t g=true:=⟨fun h=>(sameB_iff t g).2 fun m hm=>by have:=h m hm;omega,fun h m hm=>by have:=(sameB_iff t g).1 h m hm;omega⟩
 simp only[this]
 cases sameB t g<;>rfl
theorem chk_less(w:World)(t:Nat→Nat)(ht:∀m,t m≤1000)(h:leftI t 15<0):
  Calls Tryz.prog 136 #[.agg (talA t)] w fun e w'=>e=.returned (.int .i64 30)∧Below w.heap.size w w':=by
 have HT:=Lib.hid ht
 clear ht
 obtain⟨l,hl⟩:∃l,l=leftI t 15:=⟨_,rfl⟩
 have HL:=Lib.hid hl
 rw[←hl]at h
 clear hl
 go_enter Tryz.func136,Tryz.ntmps136
 have h1:Tal (w.alloc (.cells (talA t) 190)) w.heap.size t:=heap_alloc_new w _
 have H1:=Lib.hid h1
 have HB:=Lib.hid ((Below.refl w.heap.size w).alloc (Nat.le_refl _) (.cells (talA t) 190))
 clear h1
 go_wp2_with (first
  |(refine wpList_load_row rfl _ _ rfl w.heap.size rfl _ (talA t) (0,0) _ H1.out Tryz.underlying190 rfl (by rw[talA_size];exact szTal) ?_)
  |(go_at_call 149;refine(left_any _ t HT.out).mono ?_;rintro e w' ⟨rfl,hb⟩;rw[←HL.out];have HB2:=Lib.hid (HB.out.trans (hb.mono (by simp)));clear hb))
 go_ret
 exact⟨rfl,HB2.out⟩
theorem chk_none(w:World)(t:Nat→Nat)(ht:∀m,t m≤1000)(h:leftI t 15=0):
  Calls Tryz.prog 136 #[.agg (talA t)] w fun e w'=>e=.returned (.int .i64 0)∧Below w.heap.size w w':=by
 have HT:=Lib.hid ht
 clear ht
 have HL:=Lib.hid h
 clear h
 go_enter Tryz.func136,Tryz.ntmps136
 have h1:Tal (w.alloc (.cells (talA t) 190)) w.heap.size t:=heap_alloc_new w _
 have H1:=Lib.hid h1
 have HB:=Lib.hid ((Below.refl w.heap.size w).alloc (Nat.le_refl _) (.cells (talA t) 190))
 clear h1
 go_wp2_with (first
  |(refine wpList_load_row rfl _ _ rfl w.heap.size rfl _ (talA t) (0,0) _ H1.out Tryz.underlying190 rfl (by rw[talA_size];exact szTal) ?_)
  |(go_at_call 149;refine(left_any _ t HT.out).mono ?_;rintro e w' ⟨rfl,hb⟩;rw[HL.out];have HB2:=Lib.hid (HB.out.trans (hb.mono (by simp)));clear hb))
 go_ret
 exact⟨rfl,HB2.out⟩
def moreE(z o:Bool):Int:=if z=false∧o=false then 31 else 0
theorem chk_more(w:World)(t:Nat→Nat)(ht:∀m,t m≤1000)(h:0<leftI t 15):
  Calls Tryz.prog 136 #[.agg (talA t)] w fun e w'=>e=.returned (.int .i64 (moreE (sameB t zeroN) (sameB t oneT)))∧Below w.heap.size w w':=by
 have HT:=Lib.hid ht
 have hbd:=leftI_in ht (Nat.le_refl 15)
 obtain⟨hbd1,hbd2⟩:=hbd
 clear ht
 obtain⟨l,hl⟩:∃l,l=leftI t 15:=⟨_,rfl⟩
 have HL:=Lib.hid hl
 rw[←hl]at h hbd1 hbd2
 clear hl
 have Q0:=Lib.hid fun u:World=>run_neq_tal u t zeroN
 have Q1:=Lib.hid fun u:World=>run_neq_tal u t oneT
 have hd:decide (l<0)=false:=by simp;omega
 cases hz:sameB t zeroN
 ·rw[hz]at Q0
  cases ho:sameB t oneT
  all_goals
   rw[ho]at Q1
   clear hz ho
   go_enter Tryz.func136,Tryz.ntmps136
   have h1:Tal (w.alloc (.cells (talA t) 190)) w.heap.size t:=heap_alloc_new w _
   have H1:=Lib.hid h1
   have HB:=Lib.hid ((Below.refl w.heap.size w).alloc (Nat.le_refl _) (.cells (talA t) 190))
   clear h1
   go_wp2_with (refine wpList_load_row rfl _ _ rfl w.heap.size rfl _ (talA t) (0,0) _ H1.out Tryz.underlying190 rfl (by rw[talA_size];exact szTal) ?_)
   refine(left_any _ t HT.out).mono ?_
   rintro e w' ⟨rfl,hb⟩
   rw[←HL.out]
   have HB2:=Lib.hid (HB.out.trans (hb.mono (by simp)))
   have HT2:=Lib.hid (H1.out.below hb (by simp))
   clear hb
   go_wp2_with (first
    |(refine wpList_load_row_on (by rfl) _ _ rfl w.heap.size rfl _ (talA t) (0,0) _ HT2.out Tryz.underlying190 rfl (by rw[talA_size];exact szTal) ?_)
    |(refine wpList_neq_on (by rfl) _ _ _ rfl (.agg (talA t)) (.agg (talA zeroN)) _ rfl rfl (guard_tal _ _ _ _ _) (Q0.out _) ?_)
    |(refine wpList_neq_on (by rfl) _ _ _ rfl (.agg (talA t)) (.agg (talA oneT)) _ rfl rfl (guard_tal _ _ _ _ _) (Q1.out _) ?_))
   go_ret
   exact⟨rfl,HB2.out⟩
 ·rw[hz]at Q0
  clear hz Q1
  have he:moreE true (sameB t oneT)=0:=by unfold moreE;rw[if_neg (by simp)]
  rw[he]
  clear he
  go_enter Tryz.func136,Tryz.ntmps136
  have h1:Tal (w.alloc (.cells (talA t) 190)) w.heap.size t:=heap_alloc_new w _
  have H1:=Lib.hid h1
  have HB:=Lib.hid ((Below.refl w.heap.size w).alloc (Nat.le_refl _) (.cells (talA t) 190))
  clear h1
  go_wp2_with (refine wpList_load_row rfl _ _ rfl w.heap.size rfl _ (talA t) (0,0) _ H1.out Tryz.underlying190 rfl (by rw[talA_size];exact szTal) ?_)
  refine(left_any _ t HT.out).mono ?_
  rintro e w' ⟨rfl,hb⟩
  rw[←HL.out]
  have HB2:=Lib.hid (HB.out.trans (hb.mono (by simp)))
  have HT2:=Lib.hid (H1.out.below hb (by simp))
  clear hb
  go_wp2_with (first
   |(refine wpList_load_row_on (by rfl) _ _ rfl w.heap.size rfl _ (talA t) (0,0) _ HT2.out Tryz.underlying190 rfl (by rw[talA_size];exact szTal) ?_)
   |(refine wpList_neq_on (by rfl) _ _ _ rfl (.agg (talA t)) (.agg (talA zeroN)) _ rfl rfl (guard_tal _ _ _ _ _) (Q0.out _) ?_))
  go_ret
  exact⟨rfl,HB2.out⟩
theorem chk_any(w:World)(f:Nat→Nat)(n:Nat)(hn:n≤1000)(h15:∀j,j<n→f j≤15):
  Calls Tryz.prog 136 #[.agg (talA fun m=>tcN f m n)] w fun e w'=>e=.returned (.int .i64 (endE (allN f n) (usedN f n)))∧Below w.heap.size w w':=by
 have ht:∀m,tcN f m n≤1000:=fun m=>Nat.le_trans (cntN_le f m n) hn
 have hl:=left_all h15
 unfold endE
 by_cases h1:32768<allN f n
 ·rw[if_pos h1];exact chk_less w _ ht (by omega)
 ·rw[if_neg h1]
  by_cases h2:allN f n=32768
  ·rw[if_pos (.inl h2)];exact chk_none w _ ht (by omega)
  ·have:=chk_more w _ ht (by omega)
   have e:moreE (sameB (fun m=>tcN f m n) zeroN) (sameB (fun m=>tcN f m n) oneT)=if allN f n=32768∨usedN f n=0∨(usedN f n=1∧allN f n=16384)then 0 else 31:=by
    have e0:sameB (fun m=>tcN f m n) zeroN=true↔usedN f n=0:=(sameB_iff _ _).trans (none_iff h15)
    have e1:sameB (fun m=>tcN f m n) oneT=true↔usedN f n=1∧allN f n=16384:=(sameB_iff _ _).trans (one_iff h15)
    unfold moreE
    simp only[←e0,←e1]
    cases sameB (fun m=>tcN f m n) zeroN<;>cases sameB (fun m=>tcN f m n) oneT<;>simp[h2]
   rw[e]at this
   exact this
theorem kcheck_arg(w:World)(A:Option Addr)(n c:Nat)(most:Int)(h:most<1∨15<most):
  Calls Tryz.prog 123 #[.slice A n c,.int .i64 most] w fun e w'=>e=.returned (.int .i64 2)∧w=w':=by
 by_cases h1:most<1
 ·have hd:decide (most<1)=true:=by simpa using h1
  clear h
  go_enter Tryz.func123,Tryz.ntmps123
  go_wp2
  go_ret
  exact⟨rfl,rfl⟩
 ·have h2:15<most:=by omega
  have hd:decide (most<1)=false:=by simpa using h1
  clear h
  go_enter Tryz.func123,Tryz.ntmps123
  go_wp2
  go_ret
  exact⟨rfl,rfl⟩
theorem kcheck_many(w:World)(A:Option Addr)(n c:Nat)(most:Int)(h1:1≤most)(h2:most≤15)(h:320<n):
  Calls Tryz.prog 123 #[.slice A n c,.int .i64 most] w fun e w'=>e=.returned (.int .i64 4)∧w=w':=by
 have hd:decide (most<1)=false:=by simp;omega
 have hd2:decide (15<most)=false:=by simp;omega
 go_enter Tryz.func123,Tryz.ntmps123
 go_wp2
 go_ret
 exact⟨rfl,rfl⟩
theorem kcheck_rest(w:World)(A:Option Addr)(n c:Nat)(f:Nat→Nat)(most:Int)(hr:RdB w w.heap.size A n f)(h1:1≤most)(h2:most≤15)(h:n≤320):
  Calls Tryz.prog 123 #[.slice A n c,.int .i64 most] w fun e w'=>e=.returned (.int .i64 (if bigB f n most=true then 2 else endE (allN f n) (usedN f n)))∧Below w.heap.size w w':=by
 have HR:=Lib.hid hr
 clear hr
 have hd:decide (most<1)=false:=by simp;omega
 have hd2:decide (15<most)=false:=by simp;omega
 have hd3:decide ((320:Int)<(n:Int))=false:=by simp;omega
 obtain⟨E,hE⟩:∃E,E=(if bigB f n most=true then 2 else endE (allN f n) (usedN f n)):=⟨_,rfl⟩
 rw[←hE]
 have HE:=Lib.hid hE
 clear hE
 go_enter Tryz.func123,Tryz.ntmps123
 go_wp2
 go_loop [18] (fun i=>∃k:Nat,k≤n∧i=.int .i64 k∧∀j,j<k→(f j:Int)≤most) (fun i=>n-(intOf i).toNat)
 case atStart=>exact⟨0,Nat.zero_le _,rfl,fun j hj=>absurd hj (by omega)⟩
 case round=>
  obtain⟨k,hk,rfl,hall⟩:=hrel
  have HALL:=Lib.hid hall
  clear hall
  have hf:=HR.out.1 k
  by_cases hlt:k<n
  ·obtain⟨b,o,rfl,_,hc⟩:=HR.out.2 (by omega)
   have hcell:=hc k hlt
   clear hc
   by_cases hb:most<(f k:Int)
   ·have HB:=Lib.hid (bigB_yes hlt hb)
    go_wp2
    go_ret
    exact⟨ret_int (by rw[HE.out,if_pos HB.out]),Below.refl _ _⟩
   ·go_wp2
    refine⟨⟨k+1,hlt,by go_num,fun j hj=>?_⟩,by simp[intOf];omega⟩
    rcases Nat.eq_or_lt_of_le (Nat.le_of_lt_succ hj)with e|e
    ·subst e;omega
    ·exact HALL.out j e
  ·obtain rfl:k=n:=by omega
   clear hk hlt
   have h15:∀j,j<k→f j≤15:=fun j hj=>by have:=HALL.out j hj;omega
   have H15:=Lib.hid h15
   have HE2:=Lib.hid (HE.out.trans (by rw[if_neg (by rw[bigB_mk HALL.out];decide)]:_=endE (allN f k) (usedN f k)))
   clear h15
   go_wp2_with fail
   refine(count_any w A k c f HR.out (by omega) H15.out).mono ?_
   rintro e w1 ⟨rfl,hb⟩
   have HB:=Lib.hid hb
   clear hb
   go_wp2_with fail
   refine(chk_any w1 f k (by omega) H15.out).mono ?_
   rintro e w2 ⟨rfl,hb⟩
   rw[←HE2.out]
   have HB2:=Lib.hid (HB.out.trans (hb.mono HB.out.size))
   clear hb
   go_wp2
   go_ret
   exact⟨rfl,HB2.out⟩
end Go.Proofs.YtcmpmighjglnpaaGreat
