/-
  Words and walks.
-/
import Derived.Great.BuildSlice
import Derived.Deep.DeepCutAuto
import Derived.BigRegion
import Derived.Lib.SmallJoins
import Derived.Lib.SlBytesConst
import Derived.SizedLaws
import Derived.Test.YtokpcpjnihinfaaGreatpnaa
import Derived.Test.YtokpcpjnihinfaaGreatpnab
import Derived.Test.YtokpcpjnihinfaaGreatpnad
import Derived.Test.YtokpcpjnihinfaaGreatpnag
import Derived.Test.YtokpcpjnihinfaaGreatpnaj
import Derived.Test.YtokpcpjnihinfaaGreatpnak
import Derived.Test.YtokpcpjnihinfaaGreatpnaw
set_option maxRecDepth 100000
set_option maxHeartbeats 16000000
namespace Go.Proofs.YtokpcpjnihinfaaGreat
open Go.RowKit
structure TabInvK (l:List Oper) (T:Nat→Value→World→Prop) (a0:Act) (U:World) (D:List Nat) (k0:Nat) (listed:Array Bool) (a:Act) (w:World):Prop where
 size:listed.size=l.length
 tmps:a.tmps.size=a0.tmps.size
 defers:a.defers=a0.defers
 below:Below U.heap.size U w
 off:∀s,(∀j d,listed.getD j false=true→(l[j]?).bind (·.dst)=some d→d≠s)→a.tmps[s]?=a0.tmps[s]?
 told:∀j d,listed.getD j false=true→(j∈D→listed.getD k0 false=false)→(l[j]?).bind (·.dst)=some d→Up (T j) (a.eval (.tmp d)) w
 closed:∀j oj,l[j]?=some oj→listed.getD j false=true→∀e∈oj.after,Region.binds .any e=true→listed.getD e.on false=true
def TabStepK(P:Program)(l:List Oper)(T:Nat→Value→World→Prop)(a0:Act)(U:World)(D L:List Nat)(k0 k:Nat)(o:Oper):Prop:=
 ∀(a:Act) (w:World),Below U.heap.size U w→(∀s,offB l s=true→a.eval (.tmp s)=a0.eval (.tmp s))→(∀j d,Region.waitsFor .any l.toArray k j=true→(j∈D→k=k0)→(l[j]?).bind (·.dst)=some d→Up (T j) (a.eval (.tmp d)) w)→
  ∀(K:Act→World→Prop) (Q:Exit→Act→World→Prop),(∀v w',(if k=k0 then Below U.heap.size U w'∧∀j u,j≠k0→j∉D→j∉L→Up (T j) u w→Up (T j) u w' else Below w.heap.size w w')→Up (T k) v w'→K (a.put o.dst v) w')→if Region.wanted o (yielded l.toArray a.tmps)=true then Oper.wp P o a w K Q else K (a.put o.dst undef) w
def TabAllK(P:Program)(l:List Oper)(T:Nat→Value→World→Prop)(a0:Act)(U:World)(D L:List Nat)(k0:Nat):Nat→List Oper→Prop
 |_,[]=>True
 |k,o::r=>TabStepK P l T a0 U D L k0 k o∧TabAllK P l T a0 U D L k0 (k+1) r
theorem TabAllK.get{P:Program}{l:List Oper}{T:Nat→Value→World→Prop}{a0:Act}{U:World}{D L:List Nat}{k0:Nat}:∀{r:List Oper} {k:Nat},TabAllK P l T a0 U D L k0 k r→∀{j:Nat} {o:Oper},r[j]?=some o→TabStepK P l T a0 U D L k0 (k+j) o
 |[],_,_,_,_,h=>by cases h
 |_::_,k,hA,0,_,h=>by cases h;exact hA.1
 |_::r,k,hA,j+1,o,h=>by
  have:=TabAllK.get (r:=r) hA.2 (j:=j) (by simpa using h)
  rw[show k+1+j=k+(j+1) by omega]at this
  exact this
theorem TabAllK.nil{P:Program}{l:List Oper}{T:Nat→Value→World→Prop}{a0:Act}{U:World}{D L:List Nat}{k0 k:Nat}:TabAllK P l T a0 U D L k0 k []:=trivial
theorem TabAllK.cons {P:Program} {l:List Oper} {T:Nat→Value→World→Prop} {a0:Act} {U:World} {D L:List Nat} {k0 k:Nat} {o:Oper} {r:List Oper} (hne:decide (k=k0)=false) (h:∀(a:Act) (w:World),Below U.heap.size U w→(∀s,offB l s=true→a.eval (.tmp s)=a0.eval (.tmp s))→(∀j d,(Region.waitsFor .any l.toArray k j&& !D.contains j)=true→(l[j]?).bind (·.dst)=some d→Up (T j) (a.eval (.tmp d)) w)→
  ∀(K:Act→World→Prop) (Q:Exit→Act→World→Prop),(∀v w',Below w.heap.size w w'→Up (T k) v w'→K (a.put o.dst v) w')→if Region.wanted o (yielded l.toArray a.tmps)=true then Oper.wp P o a w K Q else K (a.put o.dst undef) w) (hr:TabAllK P l T a0 U D L k0 (k+1) r):TabAllK P l T a0 U D L k0 k (o::r):=
 ⟨fun a w hb ho hS K Q hK=>h a w hb ho (fun j d hw hd=>by
  simp only[Bool.and_eq_true,Bool.not_eq_true',List.contains_eq_mem,decide_eq_false_iff_not]at hw
  exact hS j d hw.1 (fun hj=>absurd hj hw.2) hd) K Q (fun v w' hb' hv=>hK v w' (by rw[if_neg (of_decide_eq_false hne)];exact hb') hv),hr⟩
theorem TabAllK.consK {P:Program} {l:List Oper} {T:Nat→Value→World→Prop} {a0:Act} {U:World} {D L:List Nat} {k0 k:Nat} {o:Oper} {r:List Oper} (he:k=k0) (h:∀(a:Act) (w:World),Below U.heap.size U w→(∀s,offB l s=true→a.eval (.tmp s)=a0.eval (.tmp s))→(∀j d,Region.waitsFor .any l.toArray k j=true→(l[j]?).bind (·.dst)=some d→Up (T j) (a.eval (.tmp d)) w)→
  ∀(K:Act→World→Prop) (Q:Exit→Act→World→Prop),(∀v w',Below U.heap.size U w'→(∀j u,j≠k0→j∉D→j∉L→Up (T j) u w→Up (T j) u w')→Up (T k) v w'→K (a.put o.dst v) w')→if Region.wanted o (yielded l.toArray a.tmps)=true then Oper.wp P o a w K Q else K (a.put o.dst undef) w) (hr:TabAllK P l T a0 U D L k0 (k+1) r):TabAllK P l T a0 U D L k0 k (o::r):=
 ⟨fun a w hb ho hS K Q hK=>h a w hb ho (fun j d hw hd=>hS j d hw (fun _=>he) hd) K Q (fun v w' h1 h2 hv=>hK v w' (by rw[if_pos he];exact⟨h1,h2⟩) hv),hr⟩
def lateB(l:List Oper)(L:List Nat)(k0:Nat):Bool:=L.all fun j=>Region.waitsFor .any l.toArray j k0||L.any fun i=>decide (i<j)&&Region.waitsFor .any l.toArray j i
theorem late_un{l:List Oper}{L:List Nat}{k0:Nat}(hL:lateB l L k0=true){listed:Array Bool}(hcl:∀j oj,l[j]?=some oj→listed.getD j false=true→∀e∈oj.after,Region.binds .any e=true→listed.getD e.on false=true)(hk:listed.getD k0 false=false):∀j,j∈L→listed.getD j false=false:=by
 intro j
 induction j using Nat.strongRecOn with
 |_ j ih=>
  intro hj
  cases hl:listed.getD j false with
  |false=>rfl
  |true=>
   exfalso
   have h1:=List.all_eq_true.1 hL j hj
   simp only[Bool.or_eq_true]at h1
   rcases h1 with h1|h1
   ·obtain⟨ok,hok,e,he,hb,hon⟩:=Region.waitsFor_spec h1
    have:=hcl j ok (by simpa using hok) hl e he hb
    rw[hon,hk]at this;cases this
   ·obtain⟨i,hi,h2⟩:=List.any_eq_true.1 h1
    simp only[Bool.and_eq_true,decide_eq_true_eq]at h2
    obtain⟨ok,hok,e,he,hb,hon⟩:=Region.waitsFor_spec h2.2
    have h3:=hcl j ok (by simpa using hok) hl e he hb
    rw[hon,ih i h2.1 hi]at h3;cases h3
def FloatAtK(P:Program)(l:List Oper)(T:Nat→Value→World→Prop)(a0:Act)(U:World)(Q:Exit→Act→World→Prop)(D:List Nat)(i0:Nat):Prop:=
 ∃o0 d0,l[i0]?=some o0∧o0.guard=none∧o0.dst=some d0∧(∀v c a w,Q (.panic c) (a.put o0.dst v) w→Q (.panic c) a w)∧
  ∀(a:Act) (w:World),Below U.heap.size U w→(∀s,offB l s=true→a.eval (.tmp s)=a0.eval (.tmp s))→(∀j d,(Region.waitsFor .any l.toArray i0 j&& !D.contains j)=true→(l[j]?).bind (·.dst)=some d→Up (T j) (a.eval (.tmp d)) w)→∃v,(∀w',(execOp a.eval o0).run P w'=.ok (.value v) w')∧Up (T i0) v w
theorem tabk_any{P:Program}{Q:Exit→Act→World→Prop}{a0:Act}{U:World}{l:List Oper}{T:Nat→Value→World→Prop}{n:Nat}{F D L:List Nat}{k0:Nat}(hk0F:k0∉F)(hL:lateB l L k0=true)(hFn:∀i∈F,i<n)(hn:n<l.length)(hs:sinkG l F n=true)(hfl:∀i∈F,floatB l i=true)(hsel:Region.noSelect l.toArray=true)(hF:∀i∈F,FloatAtK P l T a0 U Q D i)
   (hc:Region.chainB .any l.toArray n=true)
  (hseq:Region.seqB .any l.toArray (l.length-n) n (doneA n (l.length-n))=true) (hB:tabB l a0.tmps.size=true) (hstep:TabAllK P l T a0 U D L k0 0 (l.take n))
  (hend:∀listed a w,TabInvK l T a0 U D k0 listed a w→(∀i,i<n→listed.getD i false=true)→(∀i,n≤i→i<l.length→listed.getD i true=false)→wpList P l.toArray Q (l.drop n) a w):
  ∀(f:Nat) (listed:Array Bool) (a:Act) (w:World),((List.range n).filter fun i=> !listed.getD i false).length=f→TabInvK l T a0 U D k0 listed a w→HeadInv .any l.toArray n listed→wpAny P .any l.toArray Q (f+(l.length-n)) listed a w:=by
 have hB':=hB
 simp only[tabB,Bool.and_eq_true,decide_eq_true_eq]at hB'
 obtain⟨⟨hnd,hin⟩,hlow⟩:=hB'
 intro f
 induction f with
 |zero=>
  intro listed a w hf inv hi
  have hup:∀i,i<n→listed.getD i false=true:=fun i hi=>by
   have h0:=List.length_eq_zero_iff.1 hf
   have h1:=List.filter_eq_nil_iff.1 h0 i (List.mem_range.2 hi)
   simpa using h1
  have hk:=hend listed a w inv hup (fun i h1 h2=>hi.tail i h1 (by simpa using h2))
  have he:=split_done (n:=n) (g:=l.length-n) (listed:=listed) (by rw[inv.size];omega) (fun i h=>by
   have h1:=hup i h
   cases h2:listed.getD i true with
   |true=>rfl
   |false=>rw[getD_both h2]at h1;cases h1) (fun t ht ht2=>hi.tail t ht (by simp;omega))
  subst he
  have h3:=wpAny_of_seq (P:=P) (md:=.any) (Q':=Q) (l.drop n) n (doneA n (l.length-n)) a w (fun j=>by simp[List.getElem?_drop]) (by rw[List.length_drop];exact hseq) hk
  rw[List.length_drop]at h3
  rw[Nat.zero_add];exact h3
 |succ f ih=>
  intro listed a w hf inv hi
  rw[show f+1+(l.length-n)=(f+(l.length-n))+1 by omega]
  obtain⟨x,hxn,hxu⟩:∃x,x<n∧listed.getD x false=false:=by
   have:0<((List.range n).filter fun i=> !listed.getD i false).length:=by omega
   obtain⟨x,hx⟩:=List.exists_mem_of_length_pos this
   obtain⟨h1,h2⟩:=List.mem_filter.1 hx
   exact⟨x,List.mem_range.1 h1,by simpa using h2⟩
  by_cases hrF:∃i0,i0∈F∧i0∈Region.ready .any l.toArray listed
  ·
   obtain⟨i0,hi0F,hr0⟩:=hrF
   have hi0n:=hFn i0 hi0F
   have hfl:=hfl i0 hi0F
   obtain⟨o0,d0,hi0,hg0,hd0,hQ0,hy0⟩:=hF i0 hi0F
   obtain⟨h0,o,ho,hafter⟩:=mem_ready.1 hr0
   have hol:l[i0]?=some o:=by simpa using ho
   have hoo:o=o0:=by rw[hi0]at hol;exact(Option.some.inj hol).symm
   subst hoo
   have hlt:i0<l.length:=(List.getElem?_eq_some_iff.1 hol).1
   have heval:∀s,offB l s=true→a.eval (.tmp s)=a0.eval (.tmp s):=fun s hs=>by
    show a.tmps.getD s undef=a0.tmps.getD s undef
    rw[Array.getD_eq_getD_getElem?,Array.getD_eq_getD_getElem?,inv.off s (fun _ _ _ hd=>offB_is hs hd)]
   have hfacts:∀j d,(Region.waitsFor .any l.toArray i0 j&& !D.contains j)=true→(l[j]?).bind (·.dst)=some d→Up (T j) (a.eval (.tmp d)) w:=fun j d hw hd=>by
    simp only[Bool.and_eq_true,Bool.not_eq_true',List.contains_eq_mem,decide_eq_false_iff_not]at hw
    obtain⟨hw,hjD⟩:=hw
    obtain⟨ok,hok,e,he,hb,hon⟩:=Region.waitsFor_spec hw
    rw[ho]at hok;cases hok
    exact inv.told j d (by have:=hafter e he hb;rwa[hon]at this) (fun h=>absurd h hjD) hd
   obtain⟨v,hv1,hv2⟩:=hy0 a w inv.below heval hfacts
   have hdlt:d0<a.tmps.size:=by
    have h1:=List.all_eq_true.1 hin o (List.mem_of_getElem? hol)
    simp only[hd0,decide_eq_true_eq]at h1
    rw[inv.tmps];exact h1
   refine wpAny_first (oi:=o) (v:=v) ho (Region.noSelect_spec hsel) (hQ0 v) (f+(l.length-n)) listed a w (fun j oj hj hne hun hno=>?_) hr0 (.inl ⟨by simp[Region.wanted,hg0],hv1⟩) ?_
   ·have hjl:j<l.length:=by have:=(Array.getElem?_eq_some_iff.1 hj).1;simpa using this
    have h1:=List.all_eq_true.1 hfl j (List.mem_range.2 hjl)
    have hj2:l[j]?=some oj:=by simpa using hj
    simp only[hi0,hj2,Bool.or_eq_true,beq_iff_eq]at h1
    rcases h1 with((h1|h1)|h1)|h1
    ·exact absurd h1 hne
    ·obtain⟨ok,hok,e,he,hb,hon⟩:=Region.waitsFor_spec h1
     rw[ho]at hok;cases hok
     have h2:=hafter e he hb
     rw[hon,getD_both hun]at h2;cases h2
    ·obtain⟨ok,hok,e,he,hb,hon⟩:=Region.waitsFor_spec h1
     rw[hj]at hok;cases hok
     exact absurd hon (hno e he hb)
    ·exact h1
   ·refine ih _ _ _ ?_ ⟨by simp[inv.size],?_,?_,inv.below,fun s hs=>?_,fun j d hl hD hd=>?_,fun j oj hj hl e he hb=>?_⟩ (hi.set hr0 hi0n)
    ·have hfe:((List.range n).filter fun i=> !(listed.setIfInBounds i0 true).getD i false)=((List.range n).filter fun i=> !listed.getD i false).erase i0:=by
      rw[List.Nodup.erase_eq_filter (List.nodup_range.filter _),List.filter_filter]
      apply List.filter_congr
      intro x hx
      by_cases e:x=i0
      ·subst e
       have:x<listed.size:=by rw[inv.size];exact hlt
       simp[this]
      ·rw[getD_set_ne false (Ne.symm e)];simp[e]
     rw[hfe,List.length_erase_of_mem (List.mem_filter.2 ⟨List.mem_range.2 hi0n,by rw[getD_both h0];rfl⟩),hf];rfl
    ·unfold Act.put;cases o.dst<;>simp[inv.tmps]
    ·unfold Act.put;cases o.dst<;>exact inv.defers
    ·rw[←inv.off s (fun j d hl hd=>hs j d (getD_set_true hl) hd),hd0]
     have e:d0≠s:=hs i0 d0 (by have:i0<listed.size:=(by rw[inv.size];exact hlt);simp[this]) (by rw[hol];simpa using hd0)
     simp[Act.put,Array.getElem?_setIfInBounds_ne e]
    ·by_cases e:j=i0
     ·subst e
      rw[hol]at hd
      have hd':o.dst=some d:=by simpa using hd
      have hdd:d=d0:=by rw[hd0]at hd';exact(Option.some.inj hd').symm
      subst hdd
      have he:(a.put o.dst v).eval (.tmp d)=v:=by rw[hd'];simp[Act.put,Act.eval,hdlt]
      rw[he];exact hv2
     ·rw[getD_set_ne false (Ne.symm e)]at hl
      have h1:=inv.told j d hl (fun hj=>by have:=hD hj;rwa[getD_set_ne false (fun h=>hk0F (by rw[←h];exact hi0F))]at this) hd
      have he:(a.put o.dst v).eval (.tmp d)=a.eval (.tmp d):=Act.eval_put fun d' hd' hx=>by
       cases hx
       cases hj:l[j]? with
       |none=>rw[hj]at hd;cases hd
       |some y=>
        rw[hj]at hd
        exact e (tab_dst hnd hj hol (by simpa using hd) hd')
      rw[he];exact h1
    ·by_cases e':j=i0
     ·subst e'
      rw[hol]at hj;cases hj
      exact getD_set_true (hafter e he hb)
     ·rw[getD_set_ne false (Ne.symm e')]at hl
      exact getD_set_true (inv.closed j oj hj hl e he hb)
  obtain⟨y,hyn,hy0',hyu⟩:∃y,y<n∧y∉F∧listed.getD y false=false:=by
   have key:∀x,x<n→listed.getD x false=false→∃y,y<n∧y∉F∧listed.getD y false=false:=by
    intro x
    induction x using Nat.strongRecOn with
    |_ x ihx=>
     intro hxn hxu
     by_cases e:x∈F
     ·have hex:∃o0:Oper,l[x]?=some o0∧∃e,e∈o0.after∧Region.binds .any e=true∧listed.getD e.on false≠true:=by
       refine⟨l[x]'(by omega),List.getElem?_eq_getElem (by omega),?_⟩
       apply Classical.byContradiction
       intro hno
       exact hrF ⟨x,e,mem_ready.2 ⟨getD_in (by rw[inv.size];omega) hxu,l[x]'(by omega),by simp,fun e he hb=>Classical.byContradiction fun hne=>hno ⟨e,he,hb,hne⟩⟩⟩
      obtain⟨o0,ho0,e,he,hb,hne⟩:=hex
      have h1:=List.all_eq_true.1 hlow x (List.mem_range.2 (by omega))
      simp only[ho0]at h1
      have h2:=Array.all_eq_true_iff_forall_mem.1 h1 e he
      simp only[hb,Bool.not_true,Bool.false_or,decide_eq_true_eq]at h2
      exact ihx e.on h2 (by omega) (by simpa using hne)
     ·exact⟨x,hxn,e,hxu⟩
   exact key x hxn hxu
  have hxt:listed.getD y true=false:=getD_in (by rw[inv.size];omega) hyu
  have hready:∀i,i∈Region.ready .any l.toArray listed→i<n:=fun i hr=>by
   rcases Nat.lt_or_ge i n with g|g
   ·exact g
   ·exact absurd hr (tail_lateG hs hc hn hi hyn hy0' hxt i g)
  refine⟨fun h0=>?_,fun k hk=>?_⟩
  ·exfalso
   have hall:∀i,i<l.length→listed.getD i false=true:=fun i=>by
    induction i using Nat.strongRecOn with
    |_ i ih2=>
     intro hil
     cases hu:listed.getD i false with
     |true=>rfl
     |false=>
      exfalso
      have h1:=List.all_eq_true.1 hlow i (List.mem_range.2 hil)
      have hoi:l[i]?=some l[i]:=List.getElem?_eq_getElem hil
      simp only[hoi]at h1
      have:i∈Region.ready .any l.toArray listed:=mem_ready.2 ⟨getD_in (by rw[inv.size];exact hil) hu,l[i],by simp[hil],fun e he hb=>by
       have h2:=Array.all_eq_true_iff_forall_mem.1 h1 e he
       simp only[hb,Bool.not_true,Bool.false_or,decide_eq_true_eq]at h2
       exact ih2 e.on h2 (by omega)⟩
      rw[h0]at this;cases this
   have:=hall x (by omega)
   rw[hxu]at this;cases this
  ·have hkn:=hready k hk
   obtain⟨h0,o,ho,hafter⟩:=mem_ready.1 hk
   have hol:l[k]?=some o:=by simpa using ho
   have hlt:k<l.length:=(List.getElem?_eq_some_iff.1 hol).1
   have hst:TabStepK P l T a0 U D L k0 k o:=by
    have:=hstep.get (j:=k) (o:=o) (by rw[List.getElem?_take_of_lt hkn];exact hol)
    rwa[Nat.zero_add]at this
   have heval:∀s,offB l s=true→a.eval (.tmp s)=a0.eval (.tmp s):=fun s hs=>by
    show a.tmps.getD s undef=a0.tmps.getD s undef
    rw[Array.getD_eq_getD_getElem?,Array.getD_eq_getD_getElem?,inv.off s (fun _ _ _ hd=>offB_is hs hd)]
   have hfacts:∀j d,Region.waitsFor .any l.toArray k j=true→(j∈D→k=k0)→(l[j]?).bind (·.dst)=some d→Up (T j) (a.eval (.tmp d)) w:=fun j d hw hjD hd=>by
    obtain⟨ok,hok,e,he,hb,hon⟩:=Region.waitsFor_spec hw
    rw[ho]at hok;cases hok
    exact inv.told j d (by have:=hafter e he hb;rwa[hon]at this) (fun hj=>by rw[←hjD hj];cases hq:listed.getD k false with|false=>rfl|true=>rw[getD_both h0]at hq;cases hq) hd
   have hdlt:∀d,o.dst=some d→d<a.tmps.size:=fun d hd=>by
    have h1:=List.all_eq_true.1 hin o (List.mem_of_getElem? hol)
    simp only[hd,decide_eq_true_eq]at h1
    rw[inv.tmps];exact h1
   have hgo:=hst a w inv.below heval hfacts (wpAny P .any l.toArray Q (f+(l.length-n)) (listed.setIfInBounds k true)) Q (fun v w' hb hv=>by
    have hbel:Below U.heap.size U w':=by
     by_cases e:k=k0
     ·rw[if_pos e]at hb;exact hb.1
     ·rw[if_neg e]at hb;exact inv.below.trans (hb.mono inv.below.size)
    refine ih _ _ _ ?_ ⟨by simp[inv.size],?_,?_,hbel,fun s hs=>?_,fun j d hl hD hd=>?_,fun j oj hj hl e he hb'=>?_⟩ (hi.set hk hkn)
    ·have hfe:((List.range n).filter fun i=> !(listed.setIfInBounds k true).getD i false)=((List.range n).filter fun i=> !listed.getD i false).erase k:=by
      rw[List.Nodup.erase_eq_filter (List.nodup_range.filter _),List.filter_filter]
      apply List.filter_congr
      intro x hx
      by_cases e:x=k
      ·subst e
       have:x<listed.size:=by rw[inv.size];exact hlt
       simp[this]
      ·rw[getD_set_ne false (Ne.symm e)];simp[e]
     rw[hfe,List.length_erase_of_mem (List.mem_filter.2 ⟨List.mem_range.2 hkn,by rw[getD_both h0];rfl⟩),hf];rfl
    ·unfold Act.put;cases o.dst<;>simp[inv.tmps]
    ·unfold Act.put;cases o.dst<;>exact inv.defers
    ·rw[←inv.off s (fun j d hl hd=>hs j d (getD_set_true hl) hd)]
     unfold Act.put
     cases hd:o.dst with
     |none=>rfl
     |some d=>
      have e:d≠s:=hs k d (by have:k<listed.size:=(by rw[inv.size];exact hlt);simp[this]) (by rw[hol];simpa using hd)
      simp[Array.getElem?_setIfInBounds_ne e]
    ·by_cases e:j=k
     ·subst e
      rw[hol]at hd
      have hd':o.dst=some d:=by simpa using hd
      have hlt2:=hdlt d hd'
      have he:(a.put o.dst v).eval (.tmp d)=v:=by rw[hd'];simp[Act.put,Act.eval,hlt2]
      rw[he];exact hv
     ·rw[getD_set_ne false (Ne.symm e)]at hl
      have hk0l:k=k0→j∉D:=fun ek hj=>by
       have:=hD hj
       rw[←ek]at this
       have hks:k<listed.size:=by rw[inv.size];exact hlt
       simp[hks]at this
      have h1:=inv.told j d hl (fun hj=>by
       have:=hD hj
       by_cases ek:k=k0
       ·exact absurd hj (hk0l ek)
       ·rwa[getD_set_ne false ek]at this) hd
      have he:(a.put o.dst v).eval (.tmp d)=a.eval (.tmp d):=Act.eval_put fun d' hd' hx=>by
       cases hx
       cases hj:l[j]? with
       |none=>rw[hj]at hd;cases hd
       |some y=>
        rw[hj]at hd
        exact e (tab_dst hnd hj hol (by simpa using hd) hd')
      rw[he]
      by_cases ek:k=k0
      ·rw[if_pos ek]at hb
       have hun:=late_un hL inv.closed (by rw[←ek];cases hq:listed.getD k false with|false=>rfl|true=>rw[getD_both h0]at hq;cases hq)
       refine hb.2 j _ (fun h=>e (h.trans ek.symm)) (hk0l ek) (fun hjL=>?_) h1
       rw[hun j hjL]at hl;cases hl
      ·rw[if_neg ek]at hb;exact h1.on hb
    ·by_cases e':j=k
     ·subst e'
      rw[hol]at hj;cases hj
      exact getD_set_true (hafter e he hb')
     ·rw[getD_set_ne false (Ne.symm e')]at hl
      exact getD_set_true (inv.closed j oj hj hl e he hb'))
   unfold wpOp
   simp only[ho]
   split at hgo
   ·rename_i hw;rw[if_pos hw];exact .inl hgo
   ·rename_i hw;rw[if_neg hw];exact hgo
theorem tab_appK{l:List Oper}{o:Oper}{a:Act}{w w':World}{T:Value→World→Prop}{R:World→Prop}{K:Act→World→Prop}{Q:Exit→Act→World→Prop}{E:Prop}(hw:Region.wanted o (yielded l.toArray a.tmps)=true)(x y:Operand)(t:TypeId)(ho:o.op=.call {callee:=.builtin .append,args:=#[x,y],argTypes:=#[t,t]})(u z v:Value)(hx:a.eval x=u)(hy:a.eval y=z)
  (hr:(Builtin.append_ #[t,t] o.type #[u,z]).run Tryz.prog w=.ok v w') {P1:World→Prop} (h1:P1 w') (h2:R w') (hT:Up T v w') (hK:∀v w',P1 w'→R w'→Up T v w'→K (a.put o.dst v) w'):if Region.wanted o (yielded l.toArray a.tmps)=true then Oper.wp Tryz.prog o a w K Q else E:=by
 rw[if_pos hw]
 unfold Oper.wp
 rw[show(execOp a.eval o).run Tryz.prog w=.ok (.value v) w' by simp[execOp,ho,resolve,invoke,builtin,hx,hy,hr,Result.andThen]]
 exact hK v w' h1 h2 hT
def tabkB(l:List Oper)(F L:List Nat)(k0 n m:Nat):Bool:= !F.contains k0&&lateB l L k0&&(F.all fun i=>decide (i<n))&&(F.all fun i=>floatB l i)&&Region.noSelect l.toArray&&decide (n<l.length)&&sinkG l F n&&Region.chainB .any l.toArray n&&Region.seqB .any l.toArray (l.length-n) n (doneA n (l.length-n))&&tabB l m
theorem wp_region_tabk{P:Program}{id:Nat}{Q:Exit→Act→World→Prop}{a0:Act}{w0:World}{l:List Oper}(n:Nat)(F D L:List Nat)(k0:Nat)(T:Nat→Value→World→Prop)(U:World)(hU:Below U.heap.size U w0)(hm:P.follows .mixedOrders=true)(hB:tabkB l F L k0 n a0.tmps.size=true)(hF:∀i∈F,FloatAtK P l T a0 U Q D i)
  (hstep:TabAllK P l T a0 U D L k0 0 (l.take n))
  (hend:∀(vals:Tmp→Value) (w:World),Below U.heap.size U w→(∀j d,((l.take n)[j]?).bind (·.dst)=some d→j∉D→Up (T j) (vals d) w)→wpList P l.toArray Q (l.drop n) (putL ((l.take n).map (·.dst)) vals a0) w):(Code.region id l.toArray true).wp P Q a0 w0:=by
 simp only[tabkB,Bool.and_eq_true,decide_eq_true_eq,Bool.not_eq_true',List.contains_eq_mem,decide_eq_false_iff_not]at hB
 obtain⟨⟨⟨⟨⟨⟨⟨⟨⟨hk0F,hL⟩,hFn⟩,hfl⟩,hsel⟩,hn⟩,hs⟩,hc⟩,hseq⟩,hB⟩:=hB
 refine wp_region_any hm ?_
 have hl0:∀i,(Array.replicate l.toArray.size false).getD i false=false:=fun i=>getD_replicate_false _ _
 have hinv:HeadInv .any l.toArray n (Array.replicate l.toArray.size false):=⟨by simp,(fun j oj _ hl=>by rw[hl0]at hl;cases hl),(fun t _ ht=>by simp at ht;simp[ht])⟩
 have key:=tabk_any (P:=P) (Q:=Q) (T:=T) (U:=U) (F:=F) (D:=D) (L:=L) (k0:=k0) hk0F hL (fun i hi=>of_decide_eq_true (List.all_eq_true.1 hFn i hi)) hn hs (fun i hi=>List.all_eq_true.1 hfl i hi) hsel hF hc hseq hB hstep (fun listed a w inv hup htl=>by
  have ha:a=putL ((l.take n).map (·.dst)) (fun d=>a.eval (.tmp d)) a0:=by
   have hB2:=hB
   simp only[tabB,Bool.and_eq_true,decide_eq_true_eq]at hB2
   have ht:a.tmps=(putL ((l.take n).map (·.dst)) (fun d=>a.eval (.tmp d)) a0).tmps:=by
    apply Array.ext_getElem?
    intro s
    by_cases hs:some s∈(l.take n).map (·.dst)
    ·obtain⟨o,ho,hd⟩:=List.mem_map.1 hs
     have h1:=List.all_eq_true.1 hB2.1.2 o (List.mem_of_mem_take ho)
     simp only[hd,decide_eq_true_eq]at h1
     rw[putL_in _ _ _ s (.inl hs) h1]
     have h2:s<a.tmps.size:=by rw[inv.tmps];exact h1
     simp[Act.eval,h2]
    ·rw[putL_out _ _ _ s hs]
     refine inv.off s (fun j d hl hd e=>hs ?_)
     cases hj:l[j]? with
     |none=>rw[hj]at hd;cases hd
     |some y=>
      have hjl:j<l.length:=(List.getElem?_eq_some_iff.1 hj).1
      have hjn:j<n:=by
       rcases Nat.lt_or_ge j n with g|g
       ·exact g
       ·have:=getD_both (htl j g hjl)
        rw[hl]at this;cases this
      rw[hj]at hd
      exact List.mem_map.2 ⟨y,List.mem_of_getElem? (i:=j) (by rw[List.getElem?_take_of_lt hjn];exact hj),by rw[←e];simpa using hd⟩
   have hdf:a.defers=(putL ((l.take n).map (·.dst)) (fun d=>a.eval (.tmp d)) a0).defers:=by rw[putL_defers];exact inv.defers
   cases a with
   |mk t df=>
    generalize hp:putL ((l.take n).map (·.dst)) (fun d=>(Act.mk t df).eval (.tmp d)) a0=p at*
    cases p with
    |mk t2 df2=>simp only at ht hdf;rw[ht,hdf]
  rw[ha]
  refine hend _ w inv.below fun j d hd hjD=>?_
  rcases Nat.lt_or_ge j n with g|g
  ·rw[List.getElem?_take_of_lt g]at hd
   exact inv.told j d (hup j g) (fun h=>absurd h hjD) hd
  ·rw[List.getElem?_eq_none (by rw[List.length_take];omega)]at hd;cases hd) n (Array.replicate l.toArray.size false) a0 w0.drew (by rw[List.filter_eq_self.2 (fun i _=>by rw[hl0];rfl)];simp) ⟨by simp,rfl,rfl,hU.drew,fun _ _=>rfl,(fun j d h _ _=>by rw[hl0]at h;cases h),(fun j oj _ h=>by rw[hl0]at h;cases h)⟩ hinv
 rw[show n+(l.length-n)=l.toArray.size by simp;omega]at key
 exact key
end Go.Proofs.YtokpcpjnihinfaaGreat
namespace Go.Proofs.YtokpcpjnihinfaaGreat
open Go.RowKit
def two{α:Type}(x y:α):Nat→α
 |0=>x
 |_+1=>y
end Go.Proofs.YtokpcpjnihinfaaGreat
namespace Go.Proofs.YtokpcpjnihinfaaGreat
open Go.RowKit Go.ChangeShapes Go.WideShapes Go.ChangeAt Go.Joins
theorem strB_cat(f g:Nat→Nat)(n m:Nat):strB n f++strB m g=strB (n+m) (cat f n g):=by
 have e:((List.range (n+m)).map fun j=>(cat f n g j:Int))=((List.range n).map fun j=>(f j:Int))++((List.range m).map fun j=>(g j:Int)):=by
  rw[List.range_add,List.map_append,List.map_map]
  congr 1
  ·refine List.map_congr_left fun j hj=>?_
   unfold cat;rw[if_pos (List.mem_range.1 hj)]
  ·refine List.map_congr_left fun j _=>?_
   show((cat f n g (n+j):Nat):Int)=_
   unfold cat;rw[if_neg (by omega),Nat.add_sub_cancel_left]
 unfold strB
 rw[e]
 apply ByteArray.ext
 apply Array.toList_inj.1
 simp[strOfNums]
theorem strB_size(n:Nat)(f:Nat→Nat):(strB n f).size=n:=by unfold strB;rw[strOfNums_size];simp
end Go.Proofs.YtokpcpjnihinfaaGreat
namespace Go.Proofs.YtokpcpjnihinfaaGreat
open Go.RowKit Go.ChangeShapes Go.WideShapes Go.ChangeAt Go.Joins
theorem good_may{p:Prs}(h:GoodP p):mayP p=true:=by
 have h1:=h.ask
 unfold askP at h1
 by_cases hm:mayP p=false
 ·rw[if_pos hm]at h1;omega
 ·simpa using hm
theorem write_small{p:Prs}(g:GoodP p){b:List Nat}(bb:BytesP b)(hw:p.wait.length+b.length≤100000):(writeP p b).2.length≤1000000:=by
 obtain⟨_,_,_,_,_,B,h1,h2⟩:=write_good g bb
 have hm:=mayS_rng g.sty
 have hk:=g.k7
 have h3:B≤B*p.m.toNat:=Nat.le_mul_of_pos_right _ (by omega)
 omega
theorem parts12_walk(HA:PAllCon)(HW:PWriteCon)(HC:PCheckCon)(HS:PSameCon)(p:Prs)(Ah:Option Addr)(hc:Nat)(Aw:Option Addr)(wc:Nat)(Ap:Option Addr)(pc:Nat)(Aa:Option Addr)(ca:Nat)(la:List Nat)(Ab:Option Addr)(cb:Nat)(lb:List Nat)(w:World)(hp:PrsR w w.heap.size p Ah hc Aw wc Ap pc)(ra:ByR w w.heap.size Aa la.length ca (lst la))(rb:ByR w w.heap.size Ab lb.length cb (lst lb))(hlb:lb.length≤140737488355328):
  Calls Tryz.prog 6 #[.agg (prsA p Ah hc Aw wc Ap pc),.slice Aa la.length ca,.slice Ab lb.length cb] w fun e w'=>e=.returned (.bool true)∧Below w.heap.size w w':=by
 obtain⟨X,hX⟩:∃X,X=prsA p Ah hc Aw wc Ap pc:=⟨_,rfl⟩
 obtain⟨Z,hZ⟩:∃Z,Z=prsA (begP 0 0 0 false) none 0 none 0 none 0:=⟨_,rfl⟩
 have hz:=(zero_of_info zero_prs).1
 rw[←hZ]at hz
 rw[←hX]
 obtain⟨W0,hW0⟩:∃W,W=w.alloc (.cells X 32):=⟨_,rfl⟩
 have HB0:Hid (Below w.heap.size w W0):=Lib.hid (by rw[hW0];exact(Below.refl _ _).alloc (Nat.le_refl _) _)
 have HXPat0:Hid (BoxC W0 (w.heap.size) X 32):=Lib.hid (by rw[hW0];exact BoxC.new w _ _)
 have HW0:=Lib.hid hW0;have HXS:Hid (X.size=9):=Lib.hid (by rw[hX];rfl);have HZS:Hid (Z.size=9):=Lib.hid (by rw[hZ];rfl);have HXE:=Lib.hid hX
 have HPV:Hid (∀V,Below w.heap.size w V→PrsR V V.heap.size p Ah hc Aw wc Ap pc):=Lib.hid fun V hV=>hp.on hV
 have HAL:=Lib.hid (alive12_any HA)
 obtain⟨an,han⟩:∃n,n=la.length:=⟨_,rfl⟩
 obtain⟨bn,hbn⟩:∃n,n=lb.length:=⟨_,rfl⟩
 have HGR0:Hid (∀V:World,Calls Tryz.prog 17 #[.agg X,.slice Aa an ca] V fun e w'=>e=.returned (.bool (greatP p.hist.length p.wait.length an))∧Below V.heap.size V w'):=Lib.hid fun V=>by rw[hX];exact rgreat12_any V p Ah hc Aw wc Ap pc Aa an ca
 have hba:=bytes_of ra;have hbb:=bytes_of rb
 have hbc:BytesP (la++lb):=fun x hx=>(List.mem_append.1 hx).elim (hba x) (hbb x)
 have HWX0:Hid (p.hist.length≤1000000∧p.wait.length≤1000000∧an+bn≤1000000→∀V,Below w.heap.size w V→∀A2 c2,ByR V V.heap.size A2 (an+bn) c2 (lst (la++lb))→Calls Tryz.prog 12 #[.agg X,.slice A2 (an+bn) c2] V fun e w'=>PrsOut V w' e (ansP (wrtEP p (an+bn)) (writeP p (la++lb))) (wrtEP p (an+bn))):=Lib.hid fun hl V hV A2 c2 h2=>by
  have hL:(la++lb).length=an+bn:=by rw[List.length_append,←han,←hbn]
  rw[←hL]at h2 hl⊢
  rw[hX];exact HW V p Ah hc Aw wc Ap pc A2 c2 (la++lb) (hp.on hV) h2 hl.1 hl.2.1 hl.2.2
 have HWY0:Hid (p.hist.length≤1000000∧p.wait.length≤1000000∧an≤1000000→∀V,Below w.heap.size w V→Calls Tryz.prog 12 #[.agg X,.slice Aa an ca] V fun e w'=>PrsOut V w' e (ansP (wrtEP p an) (writeP p la)) (wrtEP p an)):=Lib.hid fun hl V hV=>by
  rw[han]at hl⊢
  rw[hX];exact HW V p Ah hc Aw wc Ap pc Aa ca la (hp.on hV) ((ra.below hV (Nat.le_refl _)).more hV.size) hl.1 hl.2.1 hl.2.2
 have RA0:Hid (∀V,Below w.heap.size w V→ByR V V.heap.size Aa an ca (lst la)):=Lib.hid fun V hV=>by rw[han];exact(ra.below hV (Nat.le_refl _)).more hV.size
 have RB0:Hid (∀V,Below w.heap.size w V→ByR V V.heap.size Ab bn cb (lst lb)):=Lib.hid fun V hV=>by rw[hbn];exact(rb.below hV (Nat.le_refl _)).more hV.size
 have HCT:Hid ((∀j,j<an→lst (la++lb) j=lst la j)∧(∀j,j<bn→lst (la++lb) (an+j)=lst lb j)):=Lib.hid ⟨(fun j hj=>by rw[lst_app];unfold cat;rw[if_pos (by omega)]),(fun j hj=>by rw[lst_app];unfold cat;rw[if_neg (by omega),han,Nat.add_sub_cancel_left])⟩
 have HBC:Hid (∀j,lst (la++lb) j<256):=Lib.hid (lst_lt hbc)
 have HZN:Hid (NoB Z):=Lib.hid (by rw[hZ];exact noB_prs _ _ _ _ _ _ _)
 have HRG:Hid (∀V,BoxC V w.heap.size X 32→V.rangeAt w.heap.size 0 X.toList):=Lib.hid fun V hx=>rangeMid hx 0 _ fun i hi=>by rw[Nat.zero_add,Array.getElem?_toList]
 have HBY:=Lib.hid (And.intro (bytes_of hp.hist) (And.intro (bytes_of hp.wait) (bytes_of hp.pen)))
 have HBA:=Lib.hid hba;have HBB:=Lib.hid hbb;have HBCC:=Lib.hid hbc
 have HWW:=Lib.hid HW;have HCC:=Lib.hid HC;have HSS:=Lib.hid HS
 have HAN:=Lib.hid han;have HBN:=Lib.hid hbn
 rw[←han,←hbn]
 rw[←hbn]at hlb
 clear HA HW HC HS hp hX hZ hW0 ra rb hba hbb hbc han hbn
 cases hg:greatP p.hist.length p.wait.length an with
 |true=>
  have HGR:Hid (∀V:World,Calls Tryz.prog 17 #[.agg X,.slice Aa an ca] V fun e w'=>e=.returned (.bool true)∧Below V.heap.size V w'):=Lib.hid (hg▸HGR0.out)
  clear hg
  go_enter Tryz.func6,Tryz.ntmps6
  go_wp2_with (first|(rw[←HW0.out])|fail)
  refine(HAL.out W0).mono ?_
  rintro e W1 ⟨rfl,hb1⟩
  have HXPat1:Hid (BoxC W1 (w.heap.size) X 32):=Lib.hid (HXPat0.out.below hb1 HXPat0.out.lt)
  have HB1:Hid (Below w.heap.size w W1):=Lib.hid (HB0.out.trans (hb1.mono HB0.out.size))
  have HBU1:=Lib.hid hb1
  clear hb1
  go_wp2_with (first
   |(refine wpList_load_row rfl _ _ rfl (w.heap.size) rfl _ X (0,0) _ HXPat1.out Tryz.underlying32 rfl (by rw[HXS.out];exact szPrs) ?_)
   |fail)
  refine(HGR.out W1).mono ?_
  rintro e W2 ⟨rfl,hb2⟩
  have HXPat2:Hid (BoxC W2 (w.heap.size) X 32):=Lib.hid (HXPat1.out.below hb2 HXPat1.out.lt)
  have HB2:Hid (Below w.heap.size w W2):=Lib.hid (HB1.out.trans (hb2.mono HB1.out.size))
  have HBU2:=Lib.hid hb2
  clear hb2
  go_wp2
  go_ret
  exact⟨rfl,HB2.out⟩
 |false=>
  have HGR:Hid (∀V:World,Calls Tryz.prog 17 #[.agg X,.slice Aa an ca] V fun e w'=>e=.returned (.bool false)∧Below V.heap.size V w'):=Lib.hid (hg▸HGR0.out)
  obtain⟨hs1,hs2,hs3⟩:=greatP_small hg
  clear hg HGR0
  have eab:IntKind.i64.wrap ((an:Int)+(bn:Int))=((an+bn:Nat):Int):=by rw[←Int.natCast_add];exact wrap_i64 (an+bn) (by omega)
  by_cases hab:300<an+bn
  ·have hd:decide ((300:Int)<((an+bn:Nat):Int))=true:=decide_eq_true (by omega)
   have hd2:decide ((300:Int)<(an:Int)+(bn:Int))=true:=decide_eq_true (by omega)
   have h64:wrap64 ((an:Int)+(bn:Int))=(an:Int)+(bn:Int):=by unfold wrap64;omega
   clear HWX0 HWY0 RA0 RB0 hs1 hs2
   go_enter Tryz.func6,Tryz.ntmps6
   go_wp2_with (first|(rw[←HW0.out])|fail)
   refine(HAL.out W0).mono ?_
   rintro e W1 ⟨rfl,hb1⟩
   have HXPat1:Hid (BoxC W1 (w.heap.size) X 32):=Lib.hid (HXPat0.out.below hb1 HXPat0.out.lt)
   have HB1:Hid (Below w.heap.size w W1):=Lib.hid (HB0.out.trans (hb1.mono HB0.out.size))
   have HBU1:=Lib.hid hb1
   clear hb1
   go_wp2_with (first
    |(refine wpList_load_row rfl _ _ rfl (w.heap.size) rfl _ X (0,0) _ HXPat1.out Tryz.underlying32 rfl (by rw[HXS.out];exact szPrs) ?_)
    |fail)
   refine(HGR.out W1).mono ?_
   rintro e W2 ⟨rfl,hb2⟩
   have HXPat2:Hid (BoxC W2 (w.heap.size) X 32):=Lib.hid (HXPat1.out.below hb2 HXPat1.out.lt)
   have HB2:Hid (Below w.heap.size w W2):=Lib.hid (HB1.out.trans (hb2.mono HB1.out.size))
   have HBU2:=Lib.hid hb2
   clear hb2
   go_wp2
   go_ret
   exact⟨rfl,HB2.out⟩
  ·have hd:decide ((300:Int)<((an+bn:Nat):Int))=false:=decide_eq_false (by omega)
   have hd2:decide ((300:Int)<(an:Int)+(bn:Int))=false:=decide_eq_false (by omega)
   have h64:wrap64 ((an:Int)+(bn:Int))=(an:Int)+(bn:Int):=by unfold wrap64;omega
   have hWX:=HWX0.out ⟨by omega,by omega,by omega⟩
   have hWY:=HWY0.out ⟨by omega,by omega,by omega⟩
   obtain⟨E,hE⟩:∃E,E=askP p:=⟨_,rfl⟩
   have hE1:wrtEP p (an+bn)=E:=by unfold wrtEP;rw[←hE];by_cases h0:E=0<;>simp[h0];omega
   have hE2:wrtEP p an=E:=by unfold wrtEP;rw[←hE];by_cases h0:E=0<;>simp[h0];omega
   rw[hE1]at hWX
   rw[hE2]at hWY
   obtain⟨R4,hR4⟩:∃R,R=ansP E (writeP p (la++lb)):=⟨_,rfl⟩
   obtain⟨R5,hR5⟩:∃R,R=ansP E (writeP p la):=⟨_,rfl⟩
   rw[←hR4]at hWX
   rw[←hR5]at hWY
   obtain⟨n4,hn4⟩:∃n,n=R4.2.length:=⟨_,rfl⟩
   obtain⟨n5,hn5⟩:∃n,n=R5.2.length:=⟨_,rfl⟩
   have HN4:=Lib.hid hn4;have HN5:=Lib.hid hn5
   have HPW:=Lib.hid (And.intro hs1 hs2)
   clear HWX0 HWY0 hE1 hE2 hs1 hs2
   have hE3:E=8∧mayP p=false∨E=6∧p.over=true∨E=0:=by
    rw[hE];unfold askP
    by_cases h1:mayP p=false
    ·rw[if_pos h1];exact .inl ⟨rfl,h1⟩
    ·rw[if_neg h1]
     cases h2:p.over with
     |true=>exact .inr (.inl ⟨rfl,rfl⟩)
     |false=>exact .inr (.inr rfl)
   rcases hE3 with⟨h8,hm⟩|⟨h6,ho⟩|h0
   ·subst h8
    clear hm
    have hr4:n4=0:=by rw[hn4,hR4];unfold ansP;rw[if_neg (by omega)];rfl
    have hr5:n5=0:=by rw[hn5,hR5];unfold ansP;rw[if_neg (by omega)];rfl
    subst hr4;subst hr5
    have HWX1:=Lib.hid hWX;have HWY:=Lib.hid hWY
    clear hWX hWY hE hR4 hR5 hn4 hn5
    go_enter Tryz.func6,Tryz.ntmps6
    go_wp2_with (first|(rw[←HW0.out])|fail)
    refine(HAL.out W0).mono ?_
    rintro e W1 ⟨rfl,hb1⟩
    have HXPat1:Hid (BoxC W1 (w.heap.size) X 32):=Lib.hid (HXPat0.out.below hb1 HXPat0.out.lt)
    have HB1:Hid (Below w.heap.size w W1):=Lib.hid (HB0.out.trans (hb1.mono HB0.out.size))
    have HBU1:=Lib.hid hb1
    clear hb1
    go_wp2_with (first
     |(refine wpList_load_row rfl _ _ rfl (w.heap.size) rfl _ X (0,0) _ HXPat1.out Tryz.underlying32 rfl (by rw[HXS.out];exact szPrs) ?_)
     |fail)
    refine(HGR.out W1).mono ?_
    rintro e W2 ⟨rfl,hb2⟩
    have HXPat2:Hid (BoxC W2 (w.heap.size) X 32):=Lib.hid (HXPat1.out.below hb2 HXPat1.out.lt)
    have HB2:Hid (Below w.heap.size w W2):=Lib.hid (HB1.out.trans (hb2.mono HB1.out.size))
    have HBU2:=Lib.hid hb2
    clear hb2
    go_wp2_with fail
    have RA:Hid (∀V,Below W2.heap.size W2 V→ByR V V.heap.size Aa an ca (lst la)):=Lib.hid fun V hV=>RA0.out V (HB2.out.trans (hV.mono HB2.out.size))
    have RB:Hid (∀V,Below W2.heap.size W2 V→ByR V V.heap.size Ab bn cb (lst lb)):=Lib.hid fun V hV=>RB0.out V (HB2.out.trans (hV.mono HB2.out.size))
    have HCX:Hid (∀V,Below W2.heap.size W2 V→∀A2 c2,ByR V V.heap.size A2 (an+bn) c2 (lst (la++lb))→Calls Tryz.prog 12 #[.agg X,.slice A2 (an+bn) c2] V fun e w'=>PrsOut V w' e R4 (8)):=Lib.hid fun V hV=>HWX1.out V (HB2.out.trans (hV.mono HB2.out.size))
    refine wp_region_tabk 11 [8,9] [2] [5,6,7,8,9] 4 (tabT [fun v _=>v=.agg X,fun v _=>v=.slice Aa an ca,fun v W=>∃A1 c1,v=.slice A1 an c1∧W.ownsRow W2.heap.size 5 1 (.slice A1 an c1) an (bytesL an (lst la)),fun v _=>v=.slice Ab bn cb,fun v W=>∃A2 c2,v=.slice A2 (an+bn) c2∧ByR W W.heap.size A2 (an+bn) c2 (lst (la++lb)),fun v W=>∃A1 k1 A2 k2 A3 k3 A4 k4,v=.tuple #[.agg (prsA R4.1 A1 k1 A2 k2 A3 k3),.slice A4 0 k4,.int .i64 (8)]∧PrsR W W.heap.size R4.1 A1 k1 A2 k2 A3 k3∧ByR W W.heap.size A4 0 k4 (lst R4.2),fun v W=>∃A1 k1 A2 k2 A3 k3 A4 k4,v=.tuple #[.agg (prsA R4.1 A1 k1 A2 k2 A3 k3),.slice A4 0 k4,.int .i64 (8)]∧PrsR W W.heap.size R4.1 A1 k1 A2 k2 A3 k3∧ByR W W.heap.size A4 0 k4 (lst R4.2),fun v W=>∃A1 k1 A2 k2 A3 k3,v=.agg (prsA R4.1 A1 k1 A2 k2 A3 k3)∧PrsR W W.heap.size R4.1 A1 k1 A2 k2 A3 k3,fun v W=>∃A4 k4,v=.slice A4 0 k4∧ByR W W.heap.size A4 0 k4 (lst R4.2),fun v _=>v=.int .i64 (8),fun v W=>∃ad,v=.pointer (some ⟨ad,0,none⟩)∧BoxC W ad Z 32∧W2.heap.size≤ad]) W2 (Below.refl _ _) (by kernel_rfl) (by kernel_rfl) (List.forall_mem_cons.2 ⟨⟨_,_,rfl,rfl,rfl,(fun _ _ _ _ h=>h),fun aa wv hb ha hS=>by obtain⟨a,b,c,d,e1,f,g,h,h1,h2,h3⟩:=(hS 6 34 (by kernel_rfl) rfl).here;exact⟨.slice g 0 h,fun w'=>by (unfold execOp;simp only[h1];go_simp),fun W hW=>⟨g,h,rfl,(h3.below hW (Nat.le_refl _)).more hW.size⟩⟩⟩,(List.forall_mem_cons.2 ⟨⟨_,_,rfl,rfl,rfl,(fun _ _ _ _ h=>h),fun aa wv hb ha hS=>by obtain⟨a,b,c,d,e1,f,g,h,h1,h2,h3⟩:=(hS 6 34 (by kernel_rfl) rfl).here;exact⟨.int .i64 (8),fun w'=>by (unfold execOp;simp only[h1];go_simp),up_eq rfl⟩⟩,(fun _ h=>by cases h)⟩)⟩) ?_ ?_
    case refine_1=>
     simp only[List.take_succ_cons,List.take_zero]
     refine TabAllK.cons (by decide) (fun aa wv hb ha hS Kk Qq hK=>tab_row (tab_free rfl) _ _ rfl w.heap.size 0 ((ha 3 (by kernel_rfl)).trans rfl) X.toList _ (HRG.out wv ((HXPat2.out.below hb HXPat2.out.lt))) Tryz.underlying32 rfl (by rw[Array.length_toList,HXS.out];exact szPrs) (up_eq (by rw[Array.toArray_toList])) hK) ?_
     refine TabAllK.cons (by decide) (fun aa wv hb ha hS Kk Qq hK=>tab_move (tab_free rfl) _ rfl (up_eq ((ha 1 (by kernel_rfl)).trans rfl)) hK) ?_
     refine TabAllK.cons (by decide) (fun aa wv hb ha hS Kk Qq hK=>by obtain⟨A1,c1,w2,hr,o1,b1,_⟩:=run_twin wv wv.heap.size Aa an ca (lst la) (RA.out wv hb).1 (by omega) 22 (RA.out wv hb).2.1;exact tab_app (tab_free rfl) _ _ _ rfl (.slice none 0 0) (.slice Aa an ca) (.slice A1 an c1) rfl (show aa.eval (.tmp 36)=.slice Aa an ca from(hS 1 36 (by kernel_rfl) rfl).here) hr b1 (fun W hW=>⟨A1,c1,rfl,own_keep (ownsRow_lower o1 hb.size) hW⟩) hK) ?_
     refine TabAllK.cons (by decide) (fun aa wv hb ha hS Kk Qq hK=>tab_move (tab_free rfl) _ rfl (up_eq ((ha 2 (by kernel_rfl)).trans rfl)) hK) ?_
     refine TabAllK.consK rfl (fun aa wv hb ha hS Kk Qq hK=>by
      obtain⟨A1,c1,e37,o1⟩:=(hS 2 37 (by kernel_rfl) rfl).here
      obtain⟨A2,c2,w2,hr,o2,bb2,kk2,_⟩:=run_catB_s wv W2.heap.size A1 an c1 (lst la) o1 Ab bn cb (lst lb) (lst (la++lb)) (RB.out wv hb) HCT.out.1 HCT.out.2 (by omega) hb.size
      refine tab_appK (tab_free rfl) _ _ _ rfl (.slice A1 an c1) (.slice Ab bn cb) (.slice A2 (an+bn) c2) e37 (show aa.eval (.tmp 38)=.slice Ab bn cb from(hS 3 38 (by kernel_rfl) rfl).here) hr ?_ ?_ ?_ hK
      ·exact hb.trans bb2
      ·exact(by
      intro j u h1 h2 h3 hu
      rcases j with _|_|_|_|_|_|_|_|_|_|_|j
      ·exact fun W hW=>hu.here
      ·exact fun W hW=>hu.here
      ·exact absurd (by decide) h2
      ·exact fun W hW=>hu.here
      ·exact absurd rfl h1
      ·exact absurd (by decide) h3
      ·exact absurd (by decide) h3
      ·exact absurd (by decide) h3
      ·exact absurd (by decide) h3
      ·exact absurd (by decide) h3
      ·exact fun W hW=>by
        obtain⟨ad,e,bx,hl⟩:=hu.here
        have bx2:BoxC w2 ad Z 32:=(kk2 ad bx.lt (own_type o1 bx (by rfl))).trans bx
        exact⟨ad,e,bx2.below hW bx2.lt,hl⟩
      ·exact fun W hW=>trivial)
      ·exact fun W hW=>⟨A2,c2,rfl,((ByR.of_own o2 HBC.out).below hW (Nat.le_refl _)).more hW.size⟩) ?_
     refine TabAllK.cons (by decide) (fun aa wv hb ha hS Kk Qq hK=>by obtain⟨A2,c2,e39,r2⟩:=(hS 4 39 (by kernel_rfl) rfl).here;exact tab_call (tab_free rfl) 12 _ _ rfl (enters_of Tryz.func12 (by kernel_rfl) rfl) #[.agg X,.slice A2 (an+bn) c2] (by simp[(show aa.eval (.tmp 35)=.agg X from(hS 0 35 (by kernel_rfl) rfl).here),e39]) (HCX.out wv hb A2 c2 r2) (fun ee w' ⟨a,b,c,d,e1,f,g,h,h1,h2,h3,h4,_,_⟩=>⟨_,h1,h4,fun W hW=>⟨a,b,c,d,e1,f,g,h,by rw[HN4.out],h2.on hW,by rw[HN4.out];exact(h3.below hW (Nat.le_refl _)).more hW.size⟩⟩) hK) ?_
     refine TabAllK.cons (by decide) (fun aa wv hb ha hS Kk Qq hK=>tab_move (tab_free rfl) _ rfl (hS 5 40 (by kernel_rfl) rfl) hK) ?_
     refine TabAllK.cons (by decide) (fun aa wv hb ha hS Kk Qq hK=>by obtain⟨a,b,c,d,e1,f,g,h,h1,h2,h3⟩:=(hS 6 34 (by kernel_rfl) rfl).here;exact tab_extract (tab_free rfl) _ _ rfl _ (.agg (prsA R4.1 a b c d e1 f)) h1 (by go_simp) (fun W hW=>⟨a,b,c,d,e1,f,rfl,h2.on hW⟩) hK) ?_
     refine TabAllK.cons (by decide) (fun aa wv hb ha hS Kk Qq hK=>by obtain⟨a,b,c,d,e1,f,g,h,h1,h2,h3⟩:=(hS 6 34 (by kernel_rfl) rfl).here;exact tab_extract (tab_free rfl) _ _ rfl _ (.slice g 0 h) h1 (by go_simp) (fun W hW=>⟨g,h,rfl,(h3.below hW (Nat.le_refl _)).more hW.size⟩) hK) ?_
     refine TabAllK.cons (by decide) (fun aa wv hb ha hS Kk Qq hK=>by obtain⟨a,b,c,d,e1,f,g,h,h1,h2,h3⟩:=(hS 6 34 (by kernel_rfl) rfl).here;exact tab_extract (tab_free rfl) _ _ rfl _ (.int .i64 (8)) h1 (by go_simp) (up_eq rfl) hK) ?_
     refine TabAllK.cons (by decide) (fun aa wv hb ha hS Kk Qq hK=>by have hzz:=hz;exact tab_make (w':=wv.alloc (.cells Z 32)) (tab_free rfl) (.pointer (some ⟨wv.heap.size,0,none⟩)) (by go_simp) ((Below.refl _ _).alloc (Nat.le_refl _) _) (fun W hW=>⟨_,rfl,(BoxC.new wv Z 32).below hW (by simp),hb.size⟩) hK) ?_
     exact TabAllK.nil
    intro vals w5 hb5 hv
    obtain⟨A4a,k4a,A4b,k4b,A4c,k4c,e41,q4⟩:=(hv 7 41 rfl (by decide)).here
    obtain⟨A4d,k4d,e42,ro4⟩:=(hv 8 42 rfl (by decide)).here
    have e43:vals 43=.int .i64 (8):=(hv 9 43 rfl (by decide)).here
    obtain⟨ad,e8,bx4,hl4⟩:=(hv 10 8 rfl (by decide)).here
    obtain⟨Y4,hY4⟩:∃Y,Y=prsA R4.1 A4a k4a A4b k4b A4c k4c:=⟨_,rfl⟩
    rw[←hY4]at e41
    have HY4S:Hid (Y4.size=9):=Lib.hid (by rw[hY4];rfl)
    have HY4O:Hid (Y4.all (·.oneCell')=true):=Lib.hid (by rw[hY4];exact prsA_one ..)
    have HY4E:=Lib.hid hY4
    obtain⟨W4,hW4⟩:∃W,W=w5.setRow ad Y4:=⟨_,rfl⟩
    have bu4:Below W2.heap.size W2 W4:=by rw[hW4];exact below_rowC hb5 hl4 Y4
    have HB4:Hid (Below w.heap.size w W4):=Lib.hid (HB2.out.trans (bu4.mono HB2.out.size))
    have HBU4:=Lib.hid bu4
    have HR4:Hid (PrsR W4 W4.heap.size R4.1 A4a k4a A4b k4b A4c k4c):=Lib.hid (by
     rw[hW4,size_setRow]
     exact⟨q4.hist.rowBox bx4 HZN.out Y4,q4.wait.rowBox bx4 HZN.out Y4,q4.pen.rowBox bx4 HZN.out Y4⟩)
    have HRO4:Hid (ByR W4 W4.heap.size A4d 0 k4d (lst R4.2)):=Lib.hid (by rw[hW4,size_setRow];exact ro4.rowBox bx4 HZN.out Y4)
    have HX4at4:Hid (BoxC W4 (ad) Y4 32):=Lib.hid (by rw[hW4];exact bx4.row Y4)
    have HXPat4:Hid (BoxC W4 (w.heap.size) X 32):=Lib.hid (HXPat2.out.below bu4 HXPat2.out.lt)
    have HBX4:=Lib.hid bx4;have HW4:=Lib.hid hW4
    clear q4 ro4 bx4 hl4 hY4 hW4 bu4 hb5 hv
    simp only[List.take_succ_cons,List.take_zero,List.drop_succ_cons,List.drop_zero,List.map_cons,List.map_nil,putL,Act.put,List.setIfInBounds_toArray,List.set_cons_zero,List.set_cons_succ,e41,e42,e43,e8]
    clear e41 e42 e43 e8
    go_wp2_with (first
     |(refine wpList_store_rowTo rfl _ _ _ rfl rfl ad Y4 rfl rfl 32 Z HBX4.out (by rw[HY4S.out];exact szPrs) (by rw[HZS.out,HY4S.out]) HY4O.out ?_;rw[←HW4.out])
     |(refine wpList_load_row rfl _ _ rfl (w.heap.size) rfl _ X (0,0) _ HXPat4.out Tryz.underlying32 rfl (by rw[HXS.out];exact szPrs) ?_)
     |fail)
    refine(HWY.out W4 HB4.out).mono ?_
    rintro e w5 ⟨A5a,k5a,A5b,k5b,A5c,k5c,A5d,k5d,rfl,r5,ro5,hb5,-,-⟩
    obtain⟨Y5,hY5⟩:∃Y,Y=prsA R5.1 A5a k5a A5b k5b A5c k5c:=⟨_,rfl⟩
    have HY5S:Hid (Y5.size=9):=Lib.hid (by rw[hY5];rfl)
    have HY5O:Hid (Y5.all (·.oneCell')=true):=Lib.hid (by rw[hY5];exact prsA_one ..)
    have HY5E:=Lib.hid hY5
    obtain⟨W5,hW5⟩:∃W,W=mkV w5 Z Y5 32:=⟨_,rfl⟩
    have HX5:Hid (BoxC W5 w5.heap.size Y5 32):=Lib.hid (by rw[hW5];exact mkV_row _ _ _ _)
    have bw5:Below w5.heap.size w5 W5:=by rw[hW5];exact mkV_below _ _ _ _
    have bu5:Below W4.heap.size W4 W5:=hb5.trans (bw5.mono hb5.size)
    have HBU5:=Lib.hid bu5
    have HB5:Hid (Below w.heap.size w W5):=Lib.hid (HB4.out.trans (bu5.mono HB4.out.size))
    have HR5:Hid (PrsR W5 W5.heap.size R5.1 A5a k5a A5b k5b A5c k5c):=Lib.hid (r5.on bw5)
    have HRO5:Hid (ByR W5 W5.heap.size A5d R5.2.length k5d (lst R5.2)):=Lib.hid ((ro5.below bw5 (Nat.le_refl _)).more bw5.size)
    have HXPat5:Hid (BoxC W5 (w.heap.size) X 32):=Lib.hid (HXPat4.out.below bu5 HXPat4.out.lt)
    have HX4at5:Hid (BoxC W5 (ad) Y4 32):=Lib.hid (HX4at4.out.below bu5 HX4at4.out.lt)
    have HX5at5:=HX5
    have HW5:=Lib.hid hW5
    rw[←hY5]
    rw[←HN5.out]
    clear hW5 hb5 r5 ro5 bw5 bu5 hY5
    go_wp2_with (first
     |(refine wpList_store_rowTo rfl _ _ _ rfl rfl w5.heap.size Y5 rfl rfl 32 Z (heap_alloc_new w5 _) (by rw[HY5S.out];exact szPrs) (by rw[HZS.out,HY5S.out]) HY5O.out ?_;rw[show(w5.alloc (.cells Z 32)).setRow w5.heap.size Y5=mkV w5 Z Y5 32 from rfl,←HW5.out])
     |fail)
    go_ret
    exact⟨rfl,HB5.out⟩
   ·subst h6
    clear ho
    have hr4:n4=0:=by rw[hn4,hR4];unfold ansP;rw[if_neg (by omega)];rfl
    have hr5:n5=0:=by rw[hn5,hR5];unfold ansP;rw[if_neg (by omega)];rfl
    subst hr4;subst hr5
    have HWX1:=Lib.hid hWX;have HWY:=Lib.hid hWY
    clear hWX hWY hE hR4 hR5 hn4 hn5
    go_enter Tryz.func6,Tryz.ntmps6
    go_wp2_with (first|(rw[←HW0.out])|fail)
    refine(HAL.out W0).mono ?_
    rintro e W1 ⟨rfl,hb1⟩
    have HXPat1:Hid (BoxC W1 (w.heap.size) X 32):=Lib.hid (HXPat0.out.below hb1 HXPat0.out.lt)
    have HB1:Hid (Below w.heap.size w W1):=Lib.hid (HB0.out.trans (hb1.mono HB0.out.size))
    have HBU1:=Lib.hid hb1
    clear hb1
    go_wp2_with (first
     |(refine wpList_load_row rfl _ _ rfl (w.heap.size) rfl _ X (0,0) _ HXPat1.out Tryz.underlying32 rfl (by rw[HXS.out];exact szPrs) ?_)
     |fail)
    refine(HGR.out W1).mono ?_
    rintro e W2 ⟨rfl,hb2⟩
    have HXPat2:Hid (BoxC W2 (w.heap.size) X 32):=Lib.hid (HXPat1.out.below hb2 HXPat1.out.lt)
    have HB2:Hid (Below w.heap.size w W2):=Lib.hid (HB1.out.trans (hb2.mono HB1.out.size))
    have HBU2:=Lib.hid hb2
    clear hb2
    go_wp2_with fail
    have RA:Hid (∀V,Below W2.heap.size W2 V→ByR V V.heap.size Aa an ca (lst la)):=Lib.hid fun V hV=>RA0.out V (HB2.out.trans (hV.mono HB2.out.size))
    have RB:Hid (∀V,Below W2.heap.size W2 V→ByR V V.heap.size Ab bn cb (lst lb)):=Lib.hid fun V hV=>RB0.out V (HB2.out.trans (hV.mono HB2.out.size))
    have HCX:Hid (∀V,Below W2.heap.size W2 V→∀A2 c2,ByR V V.heap.size A2 (an+bn) c2 (lst (la++lb))→Calls Tryz.prog 12 #[.agg X,.slice A2 (an+bn) c2] V fun e w'=>PrsOut V w' e R4 (6)):=Lib.hid fun V hV=>HWX1.out V (HB2.out.trans (hV.mono HB2.out.size))
    refine wp_region_tabk 11 [8,9] [2] [5,6,7,8,9] 4 (tabT [fun v _=>v=.agg X,fun v _=>v=.slice Aa an ca,fun v W=>∃A1 c1,v=.slice A1 an c1∧W.ownsRow W2.heap.size 5 1 (.slice A1 an c1) an (bytesL an (lst la)),fun v _=>v=.slice Ab bn cb,fun v W=>∃A2 c2,v=.slice A2 (an+bn) c2∧ByR W W.heap.size A2 (an+bn) c2 (lst (la++lb)),fun v W=>∃A1 k1 A2 k2 A3 k3 A4 k4,v=.tuple #[.agg (prsA R4.1 A1 k1 A2 k2 A3 k3),.slice A4 0 k4,.int .i64 (6)]∧PrsR W W.heap.size R4.1 A1 k1 A2 k2 A3 k3∧ByR W W.heap.size A4 0 k4 (lst R4.2),fun v W=>∃A1 k1 A2 k2 A3 k3 A4 k4,v=.tuple #[.agg (prsA R4.1 A1 k1 A2 k2 A3 k3),.slice A4 0 k4,.int .i64 (6)]∧PrsR W W.heap.size R4.1 A1 k1 A2 k2 A3 k3∧ByR W W.heap.size A4 0 k4 (lst R4.2),fun v W=>∃A1 k1 A2 k2 A3 k3,v=.agg (prsA R4.1 A1 k1 A2 k2 A3 k3)∧PrsR W W.heap.size R4.1 A1 k1 A2 k2 A3 k3,fun v W=>∃A4 k4,v=.slice A4 0 k4∧ByR W W.heap.size A4 0 k4 (lst R4.2),fun v _=>v=.int .i64 (6),fun v W=>∃ad,v=.pointer (some ⟨ad,0,none⟩)∧BoxC W ad Z 32∧W2.heap.size≤ad]) W2 (Below.refl _ _) (by kernel_rfl) (by kernel_rfl) (List.forall_mem_cons.2 ⟨⟨_,_,rfl,rfl,rfl,(fun _ _ _ _ h=>h),fun aa wv hb ha hS=>by obtain⟨a,b,c,d,e1,f,g,h,h1,h2,h3⟩:=(hS 6 34 (by kernel_rfl) rfl).here;exact⟨.slice g 0 h,fun w'=>by (unfold execOp;simp only[h1];go_simp),fun W hW=>⟨g,h,rfl,(h3.below hW (Nat.le_refl _)).more hW.size⟩⟩⟩,(List.forall_mem_cons.2 ⟨⟨_,_,rfl,rfl,rfl,(fun _ _ _ _ h=>h),fun aa wv hb ha hS=>by obtain⟨a,b,c,d,e1,f,g,h,h1,h2,h3⟩:=(hS 6 34 (by kernel_rfl) rfl).here;exact⟨.int .i64 (6),fun w'=>by (unfold execOp;simp only[h1];go_simp),up_eq rfl⟩⟩,(fun _ h=>by cases h)⟩)⟩) ?_ ?_
    case refine_1=>
     simp only[List.take_succ_cons,List.take_zero]
     refine TabAllK.cons (by decide) (fun aa wv hb ha hS Kk Qq hK=>tab_row (tab_free rfl) _ _ rfl w.heap.size 0 ((ha 3 (by kernel_rfl)).trans rfl) X.toList _ (HRG.out wv ((HXPat2.out.below hb HXPat2.out.lt))) Tryz.underlying32 rfl (by rw[Array.length_toList,HXS.out];exact szPrs) (up_eq (by rw[Array.toArray_toList])) hK) ?_
     refine TabAllK.cons (by decide) (fun aa wv hb ha hS Kk Qq hK=>tab_move (tab_free rfl) _ rfl (up_eq ((ha 1 (by kernel_rfl)).trans rfl)) hK) ?_
     refine TabAllK.cons (by decide) (fun aa wv hb ha hS Kk Qq hK=>by obtain⟨A1,c1,w2,hr,o1,b1,_⟩:=run_twin wv wv.heap.size Aa an ca (lst la) (RA.out wv hb).1 (by omega) 22 (RA.out wv hb).2.1;exact tab_app (tab_free rfl) _ _ _ rfl (.slice none 0 0) (.slice Aa an ca) (.slice A1 an c1) rfl (show aa.eval (.tmp 36)=.slice Aa an ca from(hS 1 36 (by kernel_rfl) rfl).here) hr b1 (fun W hW=>⟨A1,c1,rfl,own_keep (ownsRow_lower o1 hb.size) hW⟩) hK) ?_
     refine TabAllK.cons (by decide) (fun aa wv hb ha hS Kk Qq hK=>tab_move (tab_free rfl) _ rfl (up_eq ((ha 2 (by kernel_rfl)).trans rfl)) hK) ?_
     refine TabAllK.consK rfl (fun aa wv hb ha hS Kk Qq hK=>by
      obtain⟨A1,c1,e37,o1⟩:=(hS 2 37 (by kernel_rfl) rfl).here
      obtain⟨A2,c2,w2,hr,o2,bb2,kk2,_⟩:=run_catB_s wv W2.heap.size A1 an c1 (lst la) o1 Ab bn cb (lst lb) (lst (la++lb)) (RB.out wv hb) HCT.out.1 HCT.out.2 (by omega) hb.size
      refine tab_appK (tab_free rfl) _ _ _ rfl (.slice A1 an c1) (.slice Ab bn cb) (.slice A2 (an+bn) c2) e37 (show aa.eval (.tmp 38)=.slice Ab bn cb from(hS 3 38 (by kernel_rfl) rfl).here) hr ?_ ?_ ?_ hK
      ·exact hb.trans bb2
      ·exact(by
      intro j u h1 h2 h3 hu
      rcases j with _|_|_|_|_|_|_|_|_|_|_|j
      ·exact fun W hW=>hu.here
      ·exact fun W hW=>hu.here
      ·exact absurd (by decide) h2
      ·exact fun W hW=>hu.here
      ·exact absurd rfl h1
      ·exact absurd (by decide) h3
      ·exact absurd (by decide) h3
      ·exact absurd (by decide) h3
      ·exact absurd (by decide) h3
      ·exact absurd (by decide) h3
      ·exact fun W hW=>by
        obtain⟨ad,e,bx,hl⟩:=hu.here
        have bx2:BoxC w2 ad Z 32:=(kk2 ad bx.lt (own_type o1 bx (by rfl))).trans bx
        exact⟨ad,e,bx2.below hW bx2.lt,hl⟩
      ·exact fun W hW=>trivial)
      ·exact fun W hW=>⟨A2,c2,rfl,((ByR.of_own o2 HBC.out).below hW (Nat.le_refl _)).more hW.size⟩) ?_
     refine TabAllK.cons (by decide) (fun aa wv hb ha hS Kk Qq hK=>by obtain⟨A2,c2,e39,r2⟩:=(hS 4 39 (by kernel_rfl) rfl).here;exact tab_call (tab_free rfl) 12 _ _ rfl (enters_of Tryz.func12 (by kernel_rfl) rfl) #[.agg X,.slice A2 (an+bn) c2] (by simp[(show aa.eval (.tmp 35)=.agg X from(hS 0 35 (by kernel_rfl) rfl).here),e39]) (HCX.out wv hb A2 c2 r2) (fun ee w' ⟨a,b,c,d,e1,f,g,h,h1,h2,h3,h4,_,_⟩=>⟨_,h1,h4,fun W hW=>⟨a,b,c,d,e1,f,g,h,by rw[HN4.out],h2.on hW,by rw[HN4.out];exact(h3.below hW (Nat.le_refl _)).more hW.size⟩⟩) hK) ?_
     refine TabAllK.cons (by decide) (fun aa wv hb ha hS Kk Qq hK=>tab_move (tab_free rfl) _ rfl (hS 5 40 (by kernel_rfl) rfl) hK) ?_
     refine TabAllK.cons (by decide) (fun aa wv hb ha hS Kk Qq hK=>by obtain⟨a,b,c,d,e1,f,g,h,h1,h2,h3⟩:=(hS 6 34 (by kernel_rfl) rfl).here;exact tab_extract (tab_free rfl) _ _ rfl _ (.agg (prsA R4.1 a b c d e1 f)) h1 (by go_simp) (fun W hW=>⟨a,b,c,d,e1,f,rfl,h2.on hW⟩) hK) ?_
     refine TabAllK.cons (by decide) (fun aa wv hb ha hS Kk Qq hK=>by obtain⟨a,b,c,d,e1,f,g,h,h1,h2,h3⟩:=(hS 6 34 (by kernel_rfl) rfl).here;exact tab_extract (tab_free rfl) _ _ rfl _ (.slice g 0 h) h1 (by go_simp) (fun W hW=>⟨g,h,rfl,(h3.below hW (Nat.le_refl _)).more hW.size⟩) hK) ?_
     refine TabAllK.cons (by decide) (fun aa wv hb ha hS Kk Qq hK=>by obtain⟨a,b,c,d,e1,f,g,h,h1,h2,h3⟩:=(hS 6 34 (by kernel_rfl) rfl).here;exact tab_extract (tab_free rfl) _ _ rfl _ (.int .i64 (6)) h1 (by go_simp) (up_eq rfl) hK) ?_
     refine TabAllK.cons (by decide) (fun aa wv hb ha hS Kk Qq hK=>by have hzz:=hz;exact tab_make (w':=wv.alloc (.cells Z 32)) (tab_free rfl) (.pointer (some ⟨wv.heap.size,0,none⟩)) (by go_simp) ((Below.refl _ _).alloc (Nat.le_refl _) _) (fun W hW=>⟨_,rfl,(BoxC.new wv Z 32).below hW (by simp),hb.size⟩) hK) ?_
     exact TabAllK.nil
    intro vals w5 hb5 hv
    obtain⟨A4a,k4a,A4b,k4b,A4c,k4c,e41,q4⟩:=(hv 7 41 rfl (by decide)).here
    obtain⟨A4d,k4d,e42,ro4⟩:=(hv 8 42 rfl (by decide)).here
    have e43:vals 43=.int .i64 (6):=(hv 9 43 rfl (by decide)).here
    obtain⟨ad,e8,bx4,hl4⟩:=(hv 10 8 rfl (by decide)).here
    obtain⟨Y4,hY4⟩:∃Y,Y=prsA R4.1 A4a k4a A4b k4b A4c k4c:=⟨_,rfl⟩
    rw[←hY4]at e41
    have HY4S:Hid (Y4.size=9):=Lib.hid (by rw[hY4];rfl)
    have HY4O:Hid (Y4.all (·.oneCell')=true):=Lib.hid (by rw[hY4];exact prsA_one ..)
    have HY4E:=Lib.hid hY4
    obtain⟨W4,hW4⟩:∃W,W=w5.setRow ad Y4:=⟨_,rfl⟩
    have bu4:Below W2.heap.size W2 W4:=by rw[hW4];exact below_rowC hb5 hl4 Y4
    have HB4:Hid (Below w.heap.size w W4):=Lib.hid (HB2.out.trans (bu4.mono HB2.out.size))
    have HBU4:=Lib.hid bu4
    have HR4:Hid (PrsR W4 W4.heap.size R4.1 A4a k4a A4b k4b A4c k4c):=Lib.hid (by
     rw[hW4,size_setRow]
     exact⟨q4.hist.rowBox bx4 HZN.out Y4,q4.wait.rowBox bx4 HZN.out Y4,q4.pen.rowBox bx4 HZN.out Y4⟩)
    have HRO4:Hid (ByR W4 W4.heap.size A4d 0 k4d (lst R4.2)):=Lib.hid (by rw[hW4,size_setRow];exact ro4.rowBox bx4 HZN.out Y4)
    have HX4at4:Hid (BoxC W4 (ad) Y4 32):=Lib.hid (by rw[hW4];exact bx4.row Y4)
    have HXPat4:Hid (BoxC W4 (w.heap.size) X 32):=Lib.hid (HXPat2.out.below bu4 HXPat2.out.lt)
    have HBX4:=Lib.hid bx4;have HW4:=Lib.hid hW4
    clear q4 ro4 bx4 hl4 hY4 hW4 bu4 hb5 hv
    simp only[List.take_succ_cons,List.take_zero,List.drop_succ_cons,List.drop_zero,List.map_cons,List.map_nil,putL,Act.put,List.setIfInBounds_toArray,List.set_cons_zero,List.set_cons_succ,e41,e42,e43,e8]
    clear e41 e42 e43 e8
    go_wp2_with (first
     |(refine wpList_store_rowTo rfl _ _ _ rfl rfl ad Y4 rfl rfl 32 Z HBX4.out (by rw[HY4S.out];exact szPrs) (by rw[HZS.out,HY4S.out]) HY4O.out ?_;rw[←HW4.out])
     |(refine wpList_load_row rfl _ _ rfl (w.heap.size) rfl _ X (0,0) _ HXPat4.out Tryz.underlying32 rfl (by rw[HXS.out];exact szPrs) ?_)
     |fail)
    refine(HWY.out W4 HB4.out).mono ?_
    rintro e w5 ⟨A5a,k5a,A5b,k5b,A5c,k5c,A5d,k5d,rfl,r5,ro5,hb5,-,-⟩
    obtain⟨Y5,hY5⟩:∃Y,Y=prsA R5.1 A5a k5a A5b k5b A5c k5c:=⟨_,rfl⟩
    have HY5S:Hid (Y5.size=9):=Lib.hid (by rw[hY5];rfl)
    have HY5O:Hid (Y5.all (·.oneCell')=true):=Lib.hid (by rw[hY5];exact prsA_one ..)
    have HY5E:=Lib.hid hY5
    obtain⟨W5,hW5⟩:∃W,W=mkV w5 Z Y5 32:=⟨_,rfl⟩
    have HX5:Hid (BoxC W5 w5.heap.size Y5 32):=Lib.hid (by rw[hW5];exact mkV_row _ _ _ _)
    have bw5:Below w5.heap.size w5 W5:=by rw[hW5];exact mkV_below _ _ _ _
    have bu5:Below W4.heap.size W4 W5:=hb5.trans (bw5.mono hb5.size)
    have HBU5:=Lib.hid bu5
    have HB5:Hid (Below w.heap.size w W5):=Lib.hid (HB4.out.trans (bu5.mono HB4.out.size))
    have HR5:Hid (PrsR W5 W5.heap.size R5.1 A5a k5a A5b k5b A5c k5c):=Lib.hid (r5.on bw5)
    have HRO5:Hid (ByR W5 W5.heap.size A5d R5.2.length k5d (lst R5.2)):=Lib.hid ((ro5.below bw5 (Nat.le_refl _)).more bw5.size)
    have HXPat5:Hid (BoxC W5 (w.heap.size) X 32):=Lib.hid (HXPat4.out.below bu5 HXPat4.out.lt)
    have HX4at5:Hid (BoxC W5 (ad) Y4 32):=Lib.hid (HX4at4.out.below bu5 HX4at4.out.lt)
    have HX5at5:=HX5
    have HW5:=Lib.hid hW5
    rw[←hY5]
    rw[←HN5.out]
    clear hW5 hb5 r5 ro5 bw5 bu5 hY5
    go_wp2_with (first
     |(refine wpList_store_rowTo rfl _ _ _ rfl rfl w5.heap.size Y5 rfl rfl 32 Z (heap_alloc_new w5 _) (by rw[HY5S.out];exact szPrs) (by rw[HZS.out,HY5S.out]) HY5O.out ?_;rw[show(w5.alloc (.cells Z 32)).setRow w5.heap.size Y5=mkV w5 Z Y5 32 from rfl,←HW5.out])
     |fail)
    go_ret
    exact⟨rfl,HB5.out⟩
   ·subst h0
    have gd:GoodP p:=ask_good hE.symm HBY.out.1 HBY.out.2.1 HBY.out.2.2
    have eR4:R4=writeP p (la++lb):=by rw[hR4];rfl
    have eR5:R5=writeP p la:=by rw[hR5];rfl
    obtain⟨g5,w5a,w5b,w5c,_,_⟩:=write_good gd HBA.out
    obtain⟨g4,_⟩:=write_good gd HBCC.out
    have ln5:=write_small gd HBA.out (by have:=HPW.out;rw[←HAN.out];omega)
    have ln4:=write_small gd HBCC.out (by have:=HPW.out;rw[List.length_append,←HAN.out,←HBN.out];omega)
    have hwt:=write_two gd.sty la lb
    rw[←eR5]at hwt g5 ln5 w5a w5b w5c
    rw[←eR4]at hwt g4 ln4
    obtain⟨R6,hR6⟩:∃R,R=writeP R5.1 lb:=⟨_,rfl⟩
    rw[←hR6]at hwt
    have ln6:R6.2.length≤1000000:=by
     have:=hwt▸ln4
     rw[List.length_append]at this;omega
    obtain⟨n6,hn6⟩:∃n,n=R6.2.length:=⟨_,rfl⟩
    have h46:n4=n5+n6:=by rw[hn4,hn5,hn6,hwt,List.length_append]
    rw[←hn6]at ln6
    rw[←hn5]at ln5
    have HWZ:Hid (∀V A1 k1 A2 k2 A3 k3,PrsR V V.heap.size R5.1 A1 k1 A2 k2 A3 k3→ByR V V.heap.size Ab bn cb (lst lb)→Calls Tryz.prog 12 #[.agg (prsA R5.1 A1 k1 A2 k2 A3 k3),.slice Ab bn cb] V fun e w'=>PrsOut V w' e R6 0):=Lib.hid fun V A1 k1 A2 k2 A3 k3 h1 h2=>by
     rw[HBN.out]at h2⊢
     have hm:=mayS_rng g5.sty
     have e0:wrtEP R5.1 lb.length=0:=by unfold wrtEP;rw[g5.ask];have:=HBN.out;simp;omega
     have h3:=HWW.out V R5.1 A1 k1 A2 k2 A3 k3 Ab cb lb h1 h2 (by have:=g5.hist;omega) (by have:=g5.wait;omega) (by have:=HBN.out;omega)
     rw[e0,←hR6]at h3
     exact h3
    have H46:Hid (∀f,strB n5 (lst R5.2)++strB n6 (lst R6.2)=strB n4 f↔strB n4 (lst R4.2)=strB n4 f):=Lib.hid fun f=>by
     rw[strB_cat,←h46,hwt]
     show strB n4 (cat (lst R5.2) n5 (lst R6.2))=_↔_
     rw[show(cat (lst R5.2) n5 (lst R6.2))=lst (R5.2++R6.2)from funext fun j=>by rw[lst_app,hn5]]
    have HST:Hid (strB n5 (lst R5.2)++strB n6 (lst R6.2)=strB n4 (lst R4.2)):=Lib.hid ((H46.out _).2 rfl)
    have HSP:Hid (sameP R6.1 R4.1=true):=Lib.hid (by rw[hwt];exact sameP_self _)
    have HCP:Hid (chkP R4.1=0):=Lib.hid (by unfold chkP;rw[good_may g4];rfl)
    have HN6:=Lib.hid hn6
    have HWX1:=Lib.hid hWX;have HWY:=Lib.hid hWY
    clear h46 hWX hWY hE hR4 hR5 hn4 hn5 gd eR4 eR5 g5 w5a w5b w5c g4 ln4 hwt hR6 hn6 H46
    go_enter Tryz.func6,Tryz.ntmps6
    go_wp2_with (first|(rw[←HW0.out])|fail)
    refine(HAL.out W0).mono ?_
    rintro e W1 ⟨rfl,hb1⟩
    have HXPat1:Hid (BoxC W1 (w.heap.size) X 32):=Lib.hid (HXPat0.out.below hb1 HXPat0.out.lt)
    have HB1:Hid (Below w.heap.size w W1):=Lib.hid (HB0.out.trans (hb1.mono HB0.out.size))
    have HBU1:=Lib.hid hb1
    clear hb1
    go_wp2_with (first
     |(refine wpList_load_row rfl _ _ rfl (w.heap.size) rfl _ X (0,0) _ HXPat1.out Tryz.underlying32 rfl (by rw[HXS.out];exact szPrs) ?_)
     |fail)
    refine(HGR.out W1).mono ?_
    rintro e W2 ⟨rfl,hb2⟩
    have HXPat2:Hid (BoxC W2 (w.heap.size) X 32):=Lib.hid (HXPat1.out.below hb2 HXPat1.out.lt)
    have HB2:Hid (Below w.heap.size w W2):=Lib.hid (HB1.out.trans (hb2.mono HB1.out.size))
    have HBU2:=Lib.hid hb2
    clear hb2
    go_wp2_with fail
    have RA:Hid (∀V,Below W2.heap.size W2 V→ByR V V.heap.size Aa an ca (lst la)):=Lib.hid fun V hV=>RA0.out V (HB2.out.trans (hV.mono HB2.out.size))
    have RB:Hid (∀V,Below W2.heap.size W2 V→ByR V V.heap.size Ab bn cb (lst lb)):=Lib.hid fun V hV=>RB0.out V (HB2.out.trans (hV.mono HB2.out.size))
    have HCX:Hid (∀V,Below W2.heap.size W2 V→∀A2 c2,ByR V V.heap.size A2 (an+bn) c2 (lst (la++lb))→Calls Tryz.prog 12 #[.agg X,.slice A2 (an+bn) c2] V fun e w'=>PrsOut V w' e R4 (0)):=Lib.hid fun V hV=>HWX1.out V (HB2.out.trans (hV.mono HB2.out.size))
    refine wp_region_tabk 11 [8,9] [2] [5,6,7,8,9] 4 (tabT [fun v _=>v=.agg X,fun v _=>v=.slice Aa an ca,fun v W=>∃A1 c1,v=.slice A1 an c1∧W.ownsRow W2.heap.size 5 1 (.slice A1 an c1) an (bytesL an (lst la)),fun v _=>v=.slice Ab bn cb,fun v W=>∃A2 c2,v=.slice A2 (an+bn) c2∧ByR W W.heap.size A2 (an+bn) c2 (lst (la++lb)),fun v W=>∃A1 k1 A2 k2 A3 k3 A4 k4,v=.tuple #[.agg (prsA R4.1 A1 k1 A2 k2 A3 k3),.slice A4 n4 k4,.int .i64 (0)]∧PrsR W W.heap.size R4.1 A1 k1 A2 k2 A3 k3∧ByR W W.heap.size A4 n4 k4 (lst R4.2),fun v W=>∃A1 k1 A2 k2 A3 k3 A4 k4,v=.tuple #[.agg (prsA R4.1 A1 k1 A2 k2 A3 k3),.slice A4 n4 k4,.int .i64 (0)]∧PrsR W W.heap.size R4.1 A1 k1 A2 k2 A3 k3∧ByR W W.heap.size A4 n4 k4 (lst R4.2),fun v W=>∃A1 k1 A2 k2 A3 k3,v=.agg (prsA R4.1 A1 k1 A2 k2 A3 k3)∧PrsR W W.heap.size R4.1 A1 k1 A2 k2 A3 k3,fun v W=>∃A4 k4,v=.slice A4 n4 k4∧ByR W W.heap.size A4 n4 k4 (lst R4.2),fun v _=>v=.int .i64 (0),fun v W=>∃ad,v=.pointer (some ⟨ad,0,none⟩)∧BoxC W ad Z 32∧W2.heap.size≤ad]) W2 (Below.refl _ _) (by kernel_rfl) (by kernel_rfl) (List.forall_mem_cons.2 ⟨⟨_,_,rfl,rfl,rfl,(fun _ _ _ _ h=>h),fun aa wv hb ha hS=>by obtain⟨a,b,c,d,e1,f,g,h,h1,h2,h3⟩:=(hS 6 34 (by kernel_rfl) rfl).here;exact⟨.slice g n4 h,fun w'=>by (unfold execOp;simp only[h1];go_simp),fun W hW=>⟨g,h,rfl,(h3.below hW (Nat.le_refl _)).more hW.size⟩⟩⟩,(List.forall_mem_cons.2 ⟨⟨_,_,rfl,rfl,rfl,(fun _ _ _ _ h=>h),fun aa wv hb ha hS=>by obtain⟨a,b,c,d,e1,f,g,h,h1,h2,h3⟩:=(hS 6 34 (by kernel_rfl) rfl).here;exact⟨.int .i64 (0),fun w'=>by (unfold execOp;simp only[h1];go_simp),up_eq rfl⟩⟩,(fun _ h=>by cases h)⟩)⟩) ?_ ?_
    case refine_1=>
     simp only[List.take_succ_cons,List.take_zero]
     refine TabAllK.cons (by decide) (fun aa wv hb ha hS Kk Qq hK=>tab_row (tab_free rfl) _ _ rfl w.heap.size 0 ((ha 3 (by kernel_rfl)).trans rfl) X.toList _ (HRG.out wv ((HXPat2.out.below hb HXPat2.out.lt))) Tryz.underlying32 rfl (by rw[Array.length_toList,HXS.out];exact szPrs) (up_eq (by rw[Array.toArray_toList])) hK) ?_
     refine TabAllK.cons (by decide) (fun aa wv hb ha hS Kk Qq hK=>tab_move (tab_free rfl) _ rfl (up_eq ((ha 1 (by kernel_rfl)).trans rfl)) hK) ?_
     refine TabAllK.cons (by decide) (fun aa wv hb ha hS Kk Qq hK=>by obtain⟨A1,c1,w2,hr,o1,b1,_⟩:=run_twin wv wv.heap.size Aa an ca (lst la) (RA.out wv hb).1 (by omega) 22 (RA.out wv hb).2.1;exact tab_app (tab_free rfl) _ _ _ rfl (.slice none 0 0) (.slice Aa an ca) (.slice A1 an c1) rfl (show aa.eval (.tmp 36)=.slice Aa an ca from(hS 1 36 (by kernel_rfl) rfl).here) hr b1 (fun W hW=>⟨A1,c1,rfl,own_keep (ownsRow_lower o1 hb.size) hW⟩) hK) ?_
     refine TabAllK.cons (by decide) (fun aa wv hb ha hS Kk Qq hK=>tab_move (tab_free rfl) _ rfl (up_eq ((ha 2 (by kernel_rfl)).trans rfl)) hK) ?_
     refine TabAllK.consK rfl (fun aa wv hb ha hS Kk Qq hK=>by
      obtain⟨A1,c1,e37,o1⟩:=(hS 2 37 (by kernel_rfl) rfl).here
      obtain⟨A2,c2,w2,hr,o2,bb2,kk2,_⟩:=run_catB_s wv W2.heap.size A1 an c1 (lst la) o1 Ab bn cb (lst lb) (lst (la++lb)) (RB.out wv hb) HCT.out.1 HCT.out.2 (by omega) hb.size
      refine tab_appK (tab_free rfl) _ _ _ rfl (.slice A1 an c1) (.slice Ab bn cb) (.slice A2 (an+bn) c2) e37 (show aa.eval (.tmp 38)=.slice Ab bn cb from(hS 3 38 (by kernel_rfl) rfl).here) hr ?_ ?_ ?_ hK
      ·exact hb.trans bb2
      ·exact(by
      intro j u h1 h2 h3 hu
      rcases j with _|_|_|_|_|_|_|_|_|_|_|j
      ·exact fun W hW=>hu.here
      ·exact fun W hW=>hu.here
      ·exact absurd (by decide) h2
      ·exact fun W hW=>hu.here
      ·exact absurd rfl h1
      ·exact absurd (by decide) h3
      ·exact absurd (by decide) h3
      ·exact absurd (by decide) h3
      ·exact absurd (by decide) h3
      ·exact absurd (by decide) h3
      ·exact fun W hW=>by
        obtain⟨ad,e,bx,hl⟩:=hu.here
        have bx2:BoxC w2 ad Z 32:=(kk2 ad bx.lt (own_type o1 bx (by rfl))).trans bx
        exact⟨ad,e,bx2.below hW bx2.lt,hl⟩
      ·exact fun W hW=>trivial)
      ·exact fun W hW=>⟨A2,c2,rfl,((ByR.of_own o2 HBC.out).below hW (Nat.le_refl _)).more hW.size⟩) ?_
     refine TabAllK.cons (by decide) (fun aa wv hb ha hS Kk Qq hK=>by obtain⟨A2,c2,e39,r2⟩:=(hS 4 39 (by kernel_rfl) rfl).here;exact tab_call (tab_free rfl) 12 _ _ rfl (enters_of Tryz.func12 (by kernel_rfl) rfl) #[.agg X,.slice A2 (an+bn) c2] (by simp[(show aa.eval (.tmp 35)=.agg X from(hS 0 35 (by kernel_rfl) rfl).here),e39]) (HCX.out wv hb A2 c2 r2) (fun ee w' ⟨a,b,c,d,e1,f,g,h,h1,h2,h3,h4,_,_⟩=>⟨_,h1,h4,fun W hW=>⟨a,b,c,d,e1,f,g,h,by rw[HN4.out],h2.on hW,by rw[HN4.out];exact(h3.below hW (Nat.le_refl _)).more hW.size⟩⟩) hK) ?_
     refine TabAllK.cons (by decide) (fun aa wv hb ha hS Kk Qq hK=>tab_move (tab_free rfl) _ rfl (hS 5 40 (by kernel_rfl) rfl) hK) ?_
     refine TabAllK.cons (by decide) (fun aa wv hb ha hS Kk Qq hK=>by obtain⟨a,b,c,d,e1,f,g,h,h1,h2,h3⟩:=(hS 6 34 (by kernel_rfl) rfl).here;exact tab_extract (tab_free rfl) _ _ rfl _ (.agg (prsA R4.1 a b c d e1 f)) h1 (by go_simp) (fun W hW=>⟨a,b,c,d,e1,f,rfl,h2.on hW⟩) hK) ?_
     refine TabAllK.cons (by decide) (fun aa wv hb ha hS Kk Qq hK=>by obtain⟨a,b,c,d,e1,f,g,h,h1,h2,h3⟩:=(hS 6 34 (by kernel_rfl) rfl).here;exact tab_extract (tab_free rfl) _ _ rfl _ (.slice g n4 h) h1 (by go_simp) (fun W hW=>⟨g,h,rfl,(h3.below hW (Nat.le_refl _)).more hW.size⟩) hK) ?_
     refine TabAllK.cons (by decide) (fun aa wv hb ha hS Kk Qq hK=>by obtain⟨a,b,c,d,e1,f,g,h,h1,h2,h3⟩:=(hS 6 34 (by kernel_rfl) rfl).here;exact tab_extract (tab_free rfl) _ _ rfl _ (.int .i64 (0)) h1 (by go_simp) (up_eq rfl) hK) ?_
     refine TabAllK.cons (by decide) (fun aa wv hb ha hS Kk Qq hK=>by have hzz:=hz;exact tab_make (w':=wv.alloc (.cells Z 32)) (tab_free rfl) (.pointer (some ⟨wv.heap.size,0,none⟩)) (by go_simp) ((Below.refl _ _).alloc (Nat.le_refl _) _) (fun W hW=>⟨_,rfl,(BoxC.new wv Z 32).below hW (by simp),hb.size⟩) hK) ?_
     exact TabAllK.nil
    intro vals w5 hb5 hv
    obtain⟨A4a,k4a,A4b,k4b,A4c,k4c,e41,q4⟩:=(hv 7 41 rfl (by decide)).here
    obtain⟨A4d,k4d,e42,ro4⟩:=(hv 8 42 rfl (by decide)).here
    have e43:vals 43=.int .i64 (0):=(hv 9 43 rfl (by decide)).here
    obtain⟨ad,e8,bx4,hl4⟩:=(hv 10 8 rfl (by decide)).here
    obtain⟨Y4,hY4⟩:∃Y,Y=prsA R4.1 A4a k4a A4b k4b A4c k4c:=⟨_,rfl⟩
    rw[←hY4]at e41
    have HY4S:Hid (Y4.size=9):=Lib.hid (by rw[hY4];rfl)
    have HY4O:Hid (Y4.all (·.oneCell')=true):=Lib.hid (by rw[hY4];exact prsA_one ..)
    have HY4E:=Lib.hid hY4
    obtain⟨W4,hW4⟩:∃W,W=w5.setRow ad Y4:=⟨_,rfl⟩
    have bu4:Below W2.heap.size W2 W4:=by rw[hW4];exact below_rowC hb5 hl4 Y4
    have HB4:Hid (Below w.heap.size w W4):=Lib.hid (HB2.out.trans (bu4.mono HB2.out.size))
    have HBU4:=Lib.hid bu4
    have HR4:Hid (PrsR W4 W4.heap.size R4.1 A4a k4a A4b k4b A4c k4c):=Lib.hid (by
     rw[hW4,size_setRow]
     exact⟨q4.hist.rowBox bx4 HZN.out Y4,q4.wait.rowBox bx4 HZN.out Y4,q4.pen.rowBox bx4 HZN.out Y4⟩)
    have HRO4:Hid (ByR W4 W4.heap.size A4d n4 k4d (lst R4.2)):=Lib.hid (by rw[hW4,size_setRow];exact ro4.rowBox bx4 HZN.out Y4)
    have HX4at4:Hid (BoxC W4 (ad) Y4 32):=Lib.hid (by rw[hW4];exact bx4.row Y4)
    have HXPat4:Hid (BoxC W4 (w.heap.size) X 32):=Lib.hid (HXPat2.out.below bu4 HXPat2.out.lt)
    have HBX4:=Lib.hid bx4;have HW4:=Lib.hid hW4
    clear q4 ro4 bx4 hl4 hY4 hW4 bu4 hb5 hv
    simp only[List.take_succ_cons,List.take_zero,List.drop_succ_cons,List.drop_zero,List.map_cons,List.map_nil,putL,Act.put,List.setIfInBounds_toArray,List.set_cons_zero,List.set_cons_succ,e41,e42,e43,e8]
    clear e41 e42 e43 e8
    go_wp2_with (first
     |(refine wpList_store_rowTo rfl _ _ _ rfl rfl ad Y4 rfl rfl 32 Z HBX4.out (by rw[HY4S.out];exact szPrs) (by rw[HZS.out,HY4S.out]) HY4O.out ?_;rw[←HW4.out])
     |(refine wpList_load_row rfl _ _ rfl (w.heap.size) rfl _ X (0,0) _ HXPat4.out Tryz.underlying32 rfl (by rw[HXS.out];exact szPrs) ?_)
     |fail)
    refine(HWY.out W4 HB4.out).mono ?_
    rintro e w5 ⟨A5a,k5a,A5b,k5b,A5c,k5c,A5d,k5d,rfl,r5,ro5,hb5,-,-⟩
    obtain⟨Y5,hY5⟩:∃Y,Y=prsA R5.1 A5a k5a A5b k5b A5c k5c:=⟨_,rfl⟩
    have HY5S:Hid (Y5.size=9):=Lib.hid (by rw[hY5];rfl)
    have HY5O:Hid (Y5.all (·.oneCell')=true):=Lib.hid (by rw[hY5];exact prsA_one ..)
    have HY5E:=Lib.hid hY5
    obtain⟨W5,hW5⟩:∃W,W=mkV w5 Z Y5 32:=⟨_,rfl⟩
    have HX5:Hid (BoxC W5 w5.heap.size Y5 32):=Lib.hid (by rw[hW5];exact mkV_row _ _ _ _)
    have bw5:Below w5.heap.size w5 W5:=by rw[hW5];exact mkV_below _ _ _ _
    have bu5:Below W4.heap.size W4 W5:=hb5.trans (bw5.mono hb5.size)
    have HBU5:=Lib.hid bu5
    have HB5:Hid (Below w.heap.size w W5):=Lib.hid (HB4.out.trans (bu5.mono HB4.out.size))
    have HR5:Hid (PrsR W5 W5.heap.size R5.1 A5a k5a A5b k5b A5c k5c):=Lib.hid (r5.on bw5)
    have HRO5:Hid (ByR W5 W5.heap.size A5d R5.2.length k5d (lst R5.2)):=Lib.hid ((ro5.below bw5 (Nat.le_refl _)).more bw5.size)
    have HXPat5:Hid (BoxC W5 (w.heap.size) X 32):=Lib.hid (HXPat4.out.below bu5 HXPat4.out.lt)
    have HX4at5:Hid (BoxC W5 (ad) Y4 32):=Lib.hid (HX4at4.out.below bu5 HX4at4.out.lt)
    have HX5at5:=HX5
    have HW5:=Lib.hid hW5
    rw[←hY5]
    rw[←HN5.out]
    clear hW5 hb5 r5 ro5 bw5 bu5 hY5
    have hwz:=HWZ.out W5 A5a k5a A5b k5b A5c k5c HR5.out (RB0.out W5 HB5.out)
    rw[←HY5E.out]at hwz
    have HWZ5:=Lib.hid hwz
    clear hwz
    go_wp2_with (first
     |(refine wpList_store_rowTo rfl _ _ _ rfl rfl w5.heap.size Y5 rfl rfl 32 Z (heap_alloc_new w5 _) (by rw[HY5S.out];exact szPrs) (by rw[HZS.out,HY5S.out]) HY5O.out ?_;rw[show(w5.alloc (.cells Z 32)).setRow w5.heap.size Y5=mkV w5 Z Y5 32 from rfl,←HW5.out])
     |(refine wpList_load_row rfl _ _ rfl (w5.heap.size) rfl _ Y5 (0,0) _ HX5at5.out Tryz.underlying32 rfl (by rw[HY5S.out];exact szPrs) ?_)
     |fail)
    refine HWZ5.out.mono ?_
    rintro e w6 ⟨A6a,k6a,A6b,k6b,A6c,k6c,A6d,k6d,rfl,r6,ro6,hb6,-,-⟩
    obtain⟨Y6,hY6⟩:∃Y,Y=prsA R6.1 A6a k6a A6b k6b A6c k6c:=⟨_,rfl⟩
    have HY6S:Hid (Y6.size=9):=Lib.hid (by rw[hY6];rfl)
    have HY6O:Hid (Y6.all (·.oneCell')=true):=Lib.hid (by rw[hY6];exact prsA_one ..)
    have HY6E:=Lib.hid hY6
    obtain⟨W6,hW6⟩:∃W,W=mkV w6 Z Y6 32:=⟨_,rfl⟩
    have HX6:Hid (BoxC W6 w6.heap.size Y6 32):=Lib.hid (by rw[hW6];exact mkV_row _ _ _ _)
    have bw6:Below w6.heap.size w6 W6:=by rw[hW6];exact mkV_below _ _ _ _
    have bu6:Below W5.heap.size W5 W6:=hb6.trans (bw6.mono hb6.size)
    have HBU6:=Lib.hid bu6
    have HB6:Hid (Below w.heap.size w W6):=Lib.hid (HB5.out.trans (bu6.mono HB5.out.size))
    have HR6:Hid (PrsR W6 W6.heap.size R6.1 A6a k6a A6b k6b A6c k6c):=Lib.hid (r6.on bw6)
    have HRO6:Hid (ByR W6 W6.heap.size A6d R6.2.length k6d (lst R6.2)):=Lib.hid ((ro6.below bw6 (Nat.le_refl _)).more bw6.size)
    have HXPat6:Hid (BoxC W6 (w.heap.size) X 32):=Lib.hid (HXPat5.out.below bu6 HXPat5.out.lt)
    have HX4at6:Hid (BoxC W6 (ad) Y4 32):=Lib.hid (HX4at5.out.below bu6 HX4at5.out.lt)
    have HX5at6:Hid (BoxC W6 (w5.heap.size) Y5 32):=Lib.hid (HX5at5.out.below bu6 HX5at5.out.lt)
    have HX6at6:=HX6
    have HW6:=Lib.hid hW6
    rw[←hY6]
    rw[←HN6.out]
    clear hW6 hb6 r6 ro6 bw6 bu6 hY6
    have r4:=((HR4.out.on HBU5.out).on HBU6.out)
    have ro4:=(((HRO4.out.below HBU5.out (Nat.le_refl _)).more HBU5.out.size).below HBU6.out (Nat.le_refl _)).more HBU6.out.size
    have ro5:=(HRO5.out.below HBU6.out (Nat.le_refl _)).more HBU6.out.size
    have ro6:=HRO6.out
    rw[←HN5.out]at ro5
    rw[←HN6.out]at ro6
    have t1:=run_str ro5.1 k5d
    have t2:=run_str ro6.1 k6d
    have t3:=run_str ro4.1 k4d
    rw[←HST.out]at t3
    obtain⟨Z1,hZ1⟩:∃Z1,Z1=strB n5 (lst R5.2):=⟨_,rfl⟩
    obtain⟨Z2,hZ2⟩:∃Z2,Z2=strB n6 (lst R6.2):=⟨_,rfl⟩
    have z1:Z1.size=n5:=by rw[hZ1];exact strB_size _ _
    have z2:Z2.size=n6:=by rw[hZ2];exact strB_size _ _
    have z3:¬(9223372036854775807:Int)<(Z1.size:Int)+(Z2.size:Int):=by omega
    have z4:¬9223372036854775807<Z1.size+Z2.size:=by omega
    rw[←hZ1]at t1 t3
    rw[←hZ2]at t2 t3
    have hsa:=HSS.out W6 R6.1 R4.1 A6a k6a A6b k6b A6c k6c A4a k4a A4b k4b A4c k4c HR6.out r4
    rw[HSP.out,←HY4E.out,←HY6E.out]at hsa
    have HSA:=Lib.hid hsa
    clear z1 z2 hZ1 hZ2 hsa ro4 ro5 ro6
    have HR46:=Lib.hid r4
    clear r4
    go_wp2_with (first
     |(refine wpList_store_rowTo rfl _ _ _ rfl rfl w6.heap.size Y6 rfl rfl 32 Z (heap_alloc_new w6 _) (by rw[HY6S.out];exact szPrs) (by rw[HZS.out,HY6S.out]) HY6O.out ?_;rw[show(w6.alloc (.cells Z 32)).setRow w6.heap.size Y6=mkV w6 Z Y6 32 from rfl,←HW6.out])
     |(refine wpList_load_row_on (by rfl) _ _ rfl (w6.heap.size) rfl _ Y6 (0,0) _ HX6at6.out Tryz.underlying32 rfl (by rw[HY6S.out];exact szPrs) ?_)
     |(refine wpList_load_row_on (by rfl) _ _ rfl (ad) rfl _ Y4 (0,0) _ HX4at6.out Tryz.underlying32 rfl (by rw[HY4S.out];exact szPrs) ?_)
     |fail)
    refine HSA.out.mono ?_
    rintro e W7 ⟨rfl,hb7⟩
    have HX4at7:Hid (BoxC W7 (ad) Y4 32):=Lib.hid (HX4at6.out.below hb7 HX4at6.out.lt)
    have HB7:Hid (Below w.heap.size w W7):=Lib.hid (HB6.out.trans (hb7.mono HB6.out.size))
    have HBU7:=Lib.hid hb7
    clear hb7
    have hck:=HCC.out W7 R4.1 A4a k4a A4b k4b A4c k4c (HR46.out.on HBU7.out)
    rw[HCP.out,←HY4E.out]at hck
    have HCK:=Lib.hid hck
    clear hck
    go_wp2_with (first
     |(refine wpList_load_row_on (by rfl) _ _ rfl (ad) rfl _ Y4 (0,0) _ HX4at7.out Tryz.underlying32 rfl (by rw[HY4S.out];exact szPrs) ?_)
     |fail)
    refine HCK.out.mono ?_
    rintro e W8 ⟨rfl,hb8⟩
    have HB8:Hid (Below w.heap.size w W8):=Lib.hid (HB7.out.trans (hb8.mono HB7.out.size))
    have HBU8:=Lib.hid hb8
    clear hb8
    go_wp2
    go_ret
    exact⟨rfl,HB8.out⟩
end Go.Proofs.YtokpcpjnihinfaaGreat
namespace Go.Proofs.YtokpcpjnihinfaaGreat
open Go.RowKit Go.ChangeShapes Go.WideShapes Go.ChangeAt Go.Joins
theorem weigh{H:Type}{P:Program}{ts:List TypeId}{ds:List (DataW H)}(h:(DataW.weightsEach P ts ds).all (·≤reachBytes)=true){j:Nat}{t:TypeId}{d:DataW H}(ht:ts[j]?=some t)(hd:ds[j]?=some d):∀n∈d.weights P t,n≤reachBytes:=fun n hn=>by
 simpa using List.all_eq_true.1 h n (DataW.weights_mem_each ht hd n hn)
theorem byl_weigh0{H:Type}{enc:TypeId×Value→H}{W:World}{base:Nat}{sp:Nat→Bool}{hd:Bool}{a:Option Addr}{len cap:Nat}{y:DataW H×List MemPlace}{fuel:Nat}
  (hf:DataW.trod enc Tryz.prog W base sp hd fuel 22 [Value.slice a len cap]=some y) (hw:∀n∈y.1.weights Tryz.prog 22,n≤reachBytes):len≤140737488355328:=by
 rcases open_ints Tryz.underlying22 Tryz.underlying5 (by kernel_rfl) hf with⟨hcs,_⟩|⟨x,l,c,zs,hcs,_,hl,_,hz,hy,_,_⟩
 ·simp at hcs
  omega
 ·simp at hcs
  obtain⟨rfl,rfl,rfl⟩:=hcs
  subst hy
  have hb:Tryz.prog.bytesOf 5=1:=by kernel_rfl
  have h1:=hw ((zs.take len).length+(zs.drop len).length) (by
   simp only[DataW.weights,Tryz.underlying22,hb,lits,List.length_map,Nat.mul_one]
   exact List.mem_cons_self ..)
  have hzl:len≤zs.length:=by rw[hz];split<;>omega
  rw[List.length_take,List.length_drop]at h1
  unfold reachBytes at h1
  omega
theorem byl_weigh{H:Type}{enc:TypeId×Value→H}{W:World}{base:Nat}{sp:Nat→Bool}{hd:Bool}{a:Option Addr}{len cap:Nat}{d:DataW H}{p:List MemPlace}
  (h:DataW.Trod enc Tryz.prog W base sp hd 22 (Value.slice a len cap) d p) (hw:∀n∈d.weights Tryz.prog 22,n≤reachBytes):len≤140737488355328:=by
 obtain⟨fuel,hf⟩:=h
 exact byl_weigh0 (y:=(d,p)) hf hw
end Go.Proofs.YtokpcpjnihinfaaGreat
