/-
  Words and walks.
-/
import Derived.BigRegion
import Derived.Test.Ytcmpmighjglnpaasaac
import Derived.Test.Ytcmpmighjglnpaasaap
import Derived.Test.Ytcmpmighjglnpaasaat
import Derived.Test.Ytcmpmighjglnpaasaau
set_option maxRecDepth 100000
set_option maxHeartbeats 16000000
namespace Go.Proofs.Ytcmpmighjglnpaa
open Go.RowKit
def sinkG(l:List Oper)(F:List Nat)(n:Nat):Bool:=(List.range n).all fun i=>F.contains i||(List.range (n+1)).any fun j=>decide (i<j)&& !F.contains j&&Region.waitsFor .any l.toArray j i
theorem tail_lateG{l:List Oper}{F:List Nat}{n:Nat}{listed:Array Bool}(hs:sinkG l F n=true)(hc:Region.chainB .any l.toArray n=true)(hn:n<l.length)(inv:HeadInv .any l.toArray n listed){i:Nat}(hi:i<n)(hi0:i∉F)(hu:listed.getD i true=false):
  ∀t,n≤t→t∉Region.ready .any l.toArray listed:=by
 have hsz:listed.size=l.length:=by rw[inv.size];simp
 have key:∀(d i:Nat),d=n-i→i≤n→i∉F→listed.getD i true=false→n∈Region.ready .any l.toArray listed→i=n:=by
  intro d
  induction d using Nat.strongRecOn with
  |_ d ih=>
   intro i hd hi hi0 hu hr
   rcases Nat.eq_or_lt_of_le hi with e|hi
   ·exact e
   ·exfalso
    have h1:=List.all_eq_true.1 hs i (List.mem_range.2 hi)
    simp only[Bool.or_eq_true]at h1
    rcases h1 with h1|h1
    ·exact hi0 (by simpa using h1)
    ·obtain⟨j,hj,hj2⟩:=List.any_eq_true.1 h1
     simp only[Bool.and_eq_true,decide_eq_true_eq,Bool.not_eq_true',List.contains_eq_mem,decide_eq_false_iff_not]at hj2
     obtain⟨oj,hoj,e,he,hb,hon⟩:=Region.waitsFor_spec hj2.2
     have hjn:j≤n:=by have:=List.mem_range.1 hj;omega
     cases hl:listed.getD j false with
     |true=>
      have h2:=inv.closed j oj hoj hl e he hb
      rw[hon,getD_both hu]at h2;cases h2
     |false=>
      have hjt:=ih (n-j) (by omega) j rfl hjn hj2.1.2 (getD_in (by omega) hl) hr
      subst hjt
      obtain⟨_,ot,hot,hall⟩:=mem_ready.1 hr
      rw[hoj]at hot;cases hot
      have h2:=hall e he hb
      rw[hon,getD_both hu]at h2;cases h2
 intro t ht hr
 by_cases htn:t=n
 ·subst htn
  have:=key (t-i) i rfl (by omega) hi0 hu hr
  omega
 ·obtain⟨_,ot,hot,hall⟩:=mem_ready.1 hr
  have htl:t<l.length:=by have:=(Array.getElem?_eq_some_iff.1 hot).1;simpa using this
  have h1:=List.all_eq_true.1 hc t (List.mem_range.2 (by simpa using htl))
  simp only[Bool.or_eq_true,decide_eq_true_eq]at h1
  rcases h1 with h1|h1
  ·omega
  ·obtain⟨o',ho',e,he,hb,hon⟩:=Region.waitsFor_spec h1
   rw[hot]at ho';cases ho'
   have h2:=hall e he hb
   rw[hon,getD_both (inv.tail (t-1) (by omega) (by simp;omega))]at h2;cases h2
def FloatAt(P:Program)(l:List Oper)(T:Nat→Value→World→Prop)(a0:Act)(U:World)(Q:Exit→Act→World→Prop)(i0:Nat):Prop:=
 ∃o0 d0,l[i0]?=some o0∧o0.guard=none∧o0.dst=some d0∧(∀v c a w,Q (.panic c) (a.put o0.dst v) w→Q (.panic c) a w)∧
  ∀(a:Act) (w:World),Below U.heap.size U w→(∀s,offB l s=true→a.eval (.tmp s)=a0.eval (.tmp s))→(∀j d,Region.waitsFor .any l.toArray i0 j=true→(l[j]?).bind (·.dst)=some d→Up (T j) (a.eval (.tmp d)) w)→∃v,(∀w',(execOp a.eval o0).run P w'=.ok (.value v) w')∧Up (T i0) v w
theorem tabg_any{P:Program}{Q:Exit→Act→World→Prop}{a0:Act}{U:World}{l:List Oper}{T:Nat→Value→World→Prop}{n:Nat}{F:List Nat}(hFn:∀i∈F,i<n)(hn:n<l.length)(hs:sinkG l F n=true)(hfl:∀i∈F,floatB l i=true)(hsel:Region.noSelect l.toArray=true)(hF:∀i∈F,FloatAt P l T a0 U Q i)
   (hc:Region.chainB .any l.toArray n=true)
  (hseq:Region.seqB .any l.toArray (l.length-n) n (doneA n (l.length-n))=true) (hB:tabB l a0.tmps.size=true) (hstep:TabAll P l T a0 U 0 (l.take n))
  (hend:∀listed a w,TabInv l T a0 U listed a w→(∀i,i<n→listed.getD i false=true)→(∀i,n≤i→i<l.length→listed.getD i true=false)→wpList P l.toArray Q (l.drop n) a w):
  ∀(f:Nat) (listed:Array Bool) (a:Act) (w:World),((List.range n).filter fun i=> !listed.getD i false).length=f→TabInv l T a0 U listed a w→HeadInv .any l.toArray n listed→wpAny P .any l.toArray Q (f+(l.length-n)) listed a w:=by
 have hB':=hB
 simp only[tabB,Bool.and_eq_true,decide_eq_true_eq]at hB'
 obtain⟨⟨hnd,hin⟩,hlow⟩:=hB'
 intro f
 induction f with
 |zero=>
  intro listed a w hf inv hi
  have hup:∀i,i<n→listed.getD i false=true:=fun i hi=>by
   have h0:=List.length_eq_zero_iff.1 hf
   have h1:=List.filter_eq_nil_iff.1 h0 i (List.mem_range.2 hi)
   simpa using h1
  have hk:=hend listed a w inv hup (fun i h1 h2=>hi.tail i h1 (by simpa using h2))
  have he:=split_done (n:=n) (g:=l.length-n) (listed:=listed) (by rw[inv.size];omega) (fun i h=>by
   have h1:=hup i h
   cases h2:listed.getD i true with
   |true=>rfl
   |false=>rw[getD_both h2]at h1;cases h1) (fun t ht ht2=>hi.tail t ht (by simp;omega))
  subst he
  have h3:=wpAny_of_seq (P:=P) (md:=.any) (Q':=Q) (l.drop n) n (doneA n (l.length-n)) a w (fun j=>by simp[List.getElem?_drop]) (by rw[List.length_drop];exact hseq) hk
  rw[List.length_drop]at h3
  rw[Nat.zero_add];exact h3
 |succ f ih=>
  intro listed a w hf inv hi
  rw[show f+1+(l.length-n)=(f+(l.length-n))+1 by omega]
  obtain⟨x,hxn,hxu⟩:∃x,x<n∧listed.getD x false=false:=by
   have:0<((List.range n).filter fun i=> !listed.getD i false).length:=by omega
   obtain⟨x,hx⟩:=List.exists_mem_of_length_pos this
   obtain⟨h1,h2⟩:=List.mem_filter.1 hx
   exact⟨x,List.mem_range.1 h1,by simpa using h2⟩
  by_cases hrF:∃i0,i0∈F∧i0∈Region.ready .any l.toArray listed
  ·
   obtain⟨i0,hi0F,hr0⟩:=hrF
   have hi0n:=hFn i0 hi0F
   have hfl:=hfl i0 hi0F
   obtain⟨o0,d0,hi0,hg0,hd0,hQ0,hy0⟩:=hF i0 hi0F
   obtain⟨h0,o,ho,hafter⟩:=mem_ready.1 hr0
   have hol:l[i0]?=some o:=by simpa using ho
   have hoo:o=o0:=by rw[hi0]at hol;exact(Option.some.inj hol).symm
   subst hoo
   have hlt:i0<l.length:=(List.getElem?_eq_some_iff.1 hol).1
   have heval:∀s,offB l s=true→a.eval (.tmp s)=a0.eval (.tmp s):=fun s hs=>by
    show a.tmps.getD s undef=a0.tmps.getD s undef
    rw[Array.getD_eq_getD_getElem?,Array.getD_eq_getD_getElem?,inv.off s (fun _ _ _ hd=>offB_is hs hd)]
   have hfacts:∀j d,Region.waitsFor .any l.toArray i0 j=true→(l[j]?).bind (·.dst)=some d→Up (T j) (a.eval (.tmp d)) w:=fun j d hw hd=>by
    obtain⟨ok,hok,e,he,hb,hon⟩:=Region.waitsFor_spec hw
    rw[ho]at hok;cases hok
    exact inv.told j d (by have:=hafter e he hb;rwa[hon]at this) hd
   obtain⟨v,hv1,hv2⟩:=hy0 a w inv.below heval hfacts
   have hdlt:d0<a.tmps.size:=by
    have h1:=List.all_eq_true.1 hin o (List.mem_of_getElem? hol)
    simp only[hd0,decide_eq_true_eq]at h1
    rw[inv.tmps];exact h1
   refine wpAny_first (oi:=o) (v:=v) ho (Region.noSelect_spec hsel) (hQ0 v) (f+(l.length-n)) listed a w (fun j oj hj hne hun hno=>?_) hr0 (.inl ⟨by simp[Region.wanted,hg0],hv1⟩) ?_
   ·have hjl:j<l.length:=by have:=(Array.getElem?_eq_some_iff.1 hj).1;simpa using this
    have h1:=List.all_eq_true.1 hfl j (List.mem_range.2 hjl)
    have hj2:l[j]?=some oj:=by simpa using hj
    simp only[hi0,hj2,Bool.or_eq_true,beq_iff_eq]at h1
    rcases h1 with((h1|h1)|h1)|h1
    ·exact absurd h1 hne
    ·obtain⟨ok,hok,e,he,hb,hon⟩:=Region.waitsFor_spec h1
     rw[ho]at hok;cases hok
     have h2:=hafter e he hb
     rw[hon,getD_both hun]at h2;cases h2
    ·obtain⟨ok,hok,e,he,hb,hon⟩:=Region.waitsFor_spec h1
     rw[hj]at hok;cases hok
     exact absurd hon (hno e he hb)
    ·exact h1
   ·refine ih _ _ _ ?_ ⟨by simp[inv.size],?_,?_,inv.below,fun s hs=>?_,fun j d hl hd=>?_⟩ (hi.set hr0 hi0n)
    ·have hfe:((List.range n).filter fun i=> !(listed.setIfInBounds i0 true).getD i false)=((List.range n).filter fun i=> !listed.getD i false).erase i0:=by
      rw[List.Nodup.erase_eq_filter (List.nodup_range.filter _),List.filter_filter]
      apply List.filter_congr
      intro x hx
      by_cases e:x=i0
      ·subst e
       have:x<listed.size:=by rw[inv.size];exact hlt
       simp[this]
      ·rw[getD_set_ne false (Ne.symm e)];simp[e]
     rw[hfe,List.length_erase_of_mem (List.mem_filter.2 ⟨List.mem_range.2 hi0n,by rw[getD_both h0];rfl⟩),hf];rfl
    ·unfold Act.put;cases o.dst<;>simp[inv.tmps]
    ·unfold Act.put;cases o.dst<;>exact inv.defers
    ·rw[←inv.off s (fun j d hl hd=>hs j d (getD_set_true hl) hd),hd0]
     have e:d0≠s:=hs i0 d0 (by have:i0<listed.size:=(by rw[inv.size];exact hlt);simp[this]) (by rw[hol];simpa using hd0)
     simp[Act.put,Array.getElem?_setIfInBounds_ne e]
    ·by_cases e:j=i0
     ·subst e
      rw[hol]at hd
      have hd':o.dst=some d:=by simpa using hd
      have hdd:d=d0:=by rw[hd0]at hd';exact(Option.some.inj hd').symm
      subst hdd
      have he:(a.put o.dst v).eval (.tmp d)=v:=by rw[hd'];simp[Act.put,Act.eval,hdlt]
      rw[he];exact hv2
     ·rw[getD_set_ne false (Ne.symm e)]at hl
      have h1:=inv.told j d hl hd
      have he:(a.put o.dst v).eval (.tmp d)=a.eval (.tmp d):=Act.eval_put fun d' hd' hx=>by
       cases hx
       cases hj:l[j]? with
       |none=>rw[hj]at hd;cases hd
       |some y=>
        rw[hj]at hd
        exact e (tab_dst hnd hj hol (by simpa using hd) hd')
      rw[he];exact h1
  obtain⟨y,hyn,hy0',hyu⟩:∃y,y<n∧y∉F∧listed.getD y false=false:=by
   have key:∀x,x<n→listed.getD x false=false→∃y,y<n∧y∉F∧listed.getD y false=false:=by
    intro x
    induction x using Nat.strongRecOn with
    |_ x ihx=>
     intro hxn hxu
     by_cases e:x∈F
     ·have hex:∃o0:Oper,l[x]?=some o0∧∃e,e∈o0.after∧Region.binds .any e=true∧listed.getD e.on false≠true:=by
       refine⟨l[x]'(by omega),List.getElem?_eq_getElem (by omega),?_⟩
       apply Classical.byContradiction
       intro hno
       exact hrF ⟨x,e,mem_ready.2 ⟨getD_in (by rw[inv.size];omega) hxu,l[x]'(by omega),by simp,fun e he hb=>Classical.byContradiction fun hne=>hno ⟨e,he,hb,hne⟩⟩⟩
      obtain⟨o0,ho0,e,he,hb,hne⟩:=hex
      have h1:=List.all_eq_true.1 hlow x (List.mem_range.2 (by omega))
      simp only[ho0]at h1
      have h2:=Array.all_eq_true_iff_forall_mem.1 h1 e he
      simp only[hb,Bool.not_true,Bool.false_or,decide_eq_true_eq]at h2
      exact ihx e.on h2 (by omega) (by simpa using hne)
     ·exact⟨x,hxn,e,hxu⟩
   exact key x hxn hxu
  have hxt:listed.getD y true=false:=getD_in (by rw[inv.size];omega) hyu
  have hready:∀i,i∈Region.ready .any l.toArray listed→i<n:=fun i hr=>by
   rcases Nat.lt_or_ge i n with g|g
   ·exact g
   ·exact absurd hr (tail_lateG hs hc hn hi hyn hy0' hxt i g)
  refine⟨fun h0=>?_,fun k hk=>?_⟩
  ·exfalso
   have hall:∀i,i<l.length→listed.getD i false=true:=fun i=>by
    induction i using Nat.strongRecOn with
    |_ i ih2=>
     intro hil
     cases hu:listed.getD i false with
     |true=>rfl
     |false=>
      exfalso
      have h1:=List.all_eq_true.1 hlow i (List.mem_range.2 hil)
      have hoi:l[i]?=some l[i]:=List.getElem?_eq_getElem hil
      simp only[hoi]at h1
      have:i∈Region.ready .any l.toArray listed:=mem_ready.2 ⟨getD_in (by rw[inv.size];exact hil) hu,l[i],by simp[hil],fun e he hb=>by
       have h2:=Array.all_eq_true_iff_forall_mem.1 h1 e he
       simp only[hb,Bool.not_true,Bool.false_or,decide_eq_true_eq]at h2
       exact ih2 e.on h2 (by omega)⟩
      rw[h0]at this;cases this
   have:=hall x (by omega)
   rw[hxu]at this;cases this
  ·have hkn:=hready k hk
   obtain⟨h0,o,ho,hafter⟩:=mem_ready.1 hk
   have hol:l[k]?=some o:=by simpa using ho
   have hlt:k<l.length:=(List.getElem?_eq_some_iff.1 hol).1
   have hst:TabStep P l T a0 U k o:=by
    have:=hstep.get (j:=k) (o:=o) (by rw[List.getElem?_take_of_lt hkn];exact hol)
    rwa[Nat.zero_add]at this
   have heval:∀s,offB l s=true→a.eval (.tmp s)=a0.eval (.tmp s):=fun s hs=>by
    show a.tmps.getD s undef=a0.tmps.getD s undef
    rw[Array.getD_eq_getD_getElem?,Array.getD_eq_getD_getElem?,inv.off s (fun _ _ _ hd=>offB_is hs hd)]
   have hfacts:∀j d,Region.waitsFor .any l.toArray k j=true→(l[j]?).bind (·.dst)=some d→Up (T j) (a.eval (.tmp d)) w:=fun j d hw hd=>by
    obtain⟨ok,hok,e,he,hb,hon⟩:=Region.waitsFor_spec hw
    rw[ho]at hok;cases hok
    exact inv.told j d (by have:=hafter e he hb;rwa[hon]at this) hd
   have hdlt:∀d,o.dst=some d→d<a.tmps.size:=fun d hd=>by
    have h1:=List.all_eq_true.1 hin o (List.mem_of_getElem? hol)
    simp only[hd,decide_eq_true_eq]at h1
    rw[inv.tmps];exact h1
   have hgo:=hst a w inv.below heval hfacts (wpAny P .any l.toArray Q (f+(l.length-n)) (listed.setIfInBounds k true)) Q (fun v w' hb hv=>by
    refine ih _ _ _ ?_ ⟨by simp[inv.size],?_,?_,inv.below.trans (hb.mono inv.below.size),fun s hs=>?_,fun j d hl hd=>?_⟩ (hi.set hk hkn)
    ·have hfe:((List.range n).filter fun i=> !(listed.setIfInBounds k true).getD i false)=((List.range n).filter fun i=> !listed.getD i false).erase k:=by
      rw[List.Nodup.erase_eq_filter (List.nodup_range.filter _),List.filter_filter]
      apply List.filter_congr
      intro x hx
      by_cases e:x=k
      ·subst e
       have:x<listed.size:=by rw[inv.size];exact hlt
       simp[this]
      ·rw[getD_set_ne false (Ne.symm e)];simp[e]
     rw[hfe,List.length_erase_of_mem (List.mem_filter.2 ⟨List.mem_range.2 hkn,by rw[getD_both h0];rfl⟩),hf];rfl
    ·unfold Act.put;cases o.dst<;>simp[inv.tmps]
    ·unfold Act.put;cases o.dst<;>exact inv.defers
    ·rw[←inv.off s (fun j d hl hd=>hs j d (getD_set_true hl) hd)]
     unfold Act.put
     cases hd:o.dst with
     |none=>rfl
     |some d=>
      have e:d≠s:=hs k d (by have:k<listed.size:=(by rw[inv.size];exact hlt);simp[this]) (by rw[hol];simpa using hd)
      simp[Array.getElem?_setIfInBounds_ne e]
    ·by_cases e:j=k
     ·subst e
      rw[hol]at hd
      have hd':o.dst=some d:=by simpa using hd
      have hlt2:=hdlt d hd'
      have he:(a.put o.dst v).eval (.tmp d)=v:=by rw[hd'];simp[Act.put,Act.eval,hlt2]
      rw[he];exact hv
     ·rw[getD_set_ne false (Ne.symm e)]at hl
      have h1:=inv.told j d hl hd
      have he:(a.put o.dst v).eval (.tmp d)=a.eval (.tmp d):=Act.eval_put fun d' hd' hx=>by
       cases hx
       cases hj:l[j]? with
       |none=>rw[hj]at hd;cases hd
       |some y=>
        rw[hj]at hd
        exact e (tab_dst hnd hj hol (by simpa using hd) hd')
      rw[he];exact h1.on hb)
   unfold wpOp
   simp only[ho]
   split at hgo
   ·rename_i hw;rw[if_pos hw];exact .inl hgo
   ·rename_i hw;rw[if_neg hw];exact hgo
theorem float_move{P:Program}{o:Oper}{a:Act}(x:Operand)(ho:o.op=.move x)(v:Value)(hx:a.eval x=v):∀w',(execOp a.eval o).run P w'=.ok (.value v) w':=fun w'=>by
 unfold execOp;simp only[ho,hx];rfl
def tabgB(l:List Oper)(F:List Nat)(n m:Nat):Bool:=(F.all fun i=>decide (i<n))&&(F.all fun i=>floatB l i)&&Region.noSelect l.toArray&&decide (n<l.length)&&sinkG l F n&&Region.chainB .any l.toArray n&&Region.seqB .any l.toArray (l.length-n) n (doneA n (l.length-n))&&tabB l m
theorem wp_region_tabg{P:Program}{id:Nat}{Q:Exit→Act→World→Prop}{a0:Act}{w0:World}{l:List Oper}(n:Nat)(F:List Nat)(T:Nat→Value→World→Prop)(U:World)(hU:Below U.heap.size U w0)(hm:P.follows .mixedOrders=true)(hB:tabgB l F n a0.tmps.size=true)(hF:∀i∈F,FloatAt P l T a0 U Q i)
  (hstep:TabAll P l T a0 U 0 (l.take n))
  (hend:∀(vals:Tmp→Value) (w:World),Below U.heap.size U w→(∀j d,((l.take n)[j]?).bind (·.dst)=some d→Up (T j) (vals d) w)→wpList P l.toArray Q (l.drop n) (putL ((l.take n).map (·.dst)) vals a0) w):(Code.region id l.toArray true).wp P Q a0 w0:=by
 simp only[tabgB,Bool.and_eq_true,decide_eq_true_eq]at hB
 obtain⟨⟨⟨⟨⟨⟨⟨hFn,hfl⟩,hsel⟩,hn⟩,hs⟩,hc⟩,hseq⟩,hB⟩:=hB
 refine wp_region_any hm ?_
 have hl0:∀i,(Array.replicate l.toArray.size false).getD i false=false:=fun i=>getD_replicate_false _ _
 have hinv:HeadInv .any l.toArray n (Array.replicate l.toArray.size false):=⟨by simp,(fun j oj _ hl=>by rw[hl0]at hl;cases hl),(fun t _ ht=>by simp at ht;simp[ht])⟩
 have key:=tabg_any (P:=P) (Q:=Q) (T:=T) (U:=U) (F:=F) (fun i hi=>of_decide_eq_true (List.all_eq_true.1 hFn i hi)) hn hs (fun i hi=>List.all_eq_true.1 hfl i hi) hsel hF hc hseq hB hstep (fun listed a w inv hup htl=>by
  have ha:a=putL ((l.take n).map (·.dst)) (fun d=>a.eval (.tmp d)) a0:=by
   have hB2:=hB
   simp only[tabB,Bool.and_eq_true,decide_eq_true_eq]at hB2
   have ht:a.tmps=(putL ((l.take n).map (·.dst)) (fun d=>a.eval (.tmp d)) a0).tmps:=by
    apply Array.ext_getElem?
    intro s
    by_cases hs:some s∈(l.take n).map (·.dst)
    ·obtain⟨o,ho,hd⟩:=List.mem_map.1 hs
     have h1:=List.all_eq_true.1 hB2.1.2 o (List.mem_of_mem_take ho)
     simp only[hd,decide_eq_true_eq]at h1
     rw[putL_in _ _ _ s (.inl hs) h1]
     have h2:s<a.tmps.size:=by rw[inv.tmps];exact h1
     simp[Act.eval,h2]
    ·rw[putL_out _ _ _ s hs]
     refine inv.off s (fun j d hl hd e=>hs ?_)
     cases hj:l[j]? with
     |none=>rw[hj]at hd;cases hd
     |some y=>
      have hjl:j<l.length:=(List.getElem?_eq_some_iff.1 hj).1
      have hjn:j<n:=by
       rcases Nat.lt_or_ge j n with g|g
       ·exact g
       ·have:=getD_both (htl j g hjl)
        rw[hl]at this;cases this
      rw[hj]at hd
      exact List.mem_map.2 ⟨y,List.mem_of_getElem? (i:=j) (by rw[List.getElem?_take_of_lt hjn];exact hj),by rw[←e];simpa using hd⟩
   have hdf:a.defers=(putL ((l.take n).map (·.dst)) (fun d=>a.eval (.tmp d)) a0).defers:=by rw[putL_defers];exact inv.defers
   cases a with
   |mk t df=>
    generalize hp:putL ((l.take n).map (·.dst)) (fun d=>(Act.mk t df).eval (.tmp d)) a0=p at*
    cases p with
    |mk t2 df2=>simp only at ht hdf;rw[ht,hdf]
  rw[ha]
  refine hend _ w inv.below fun j d hd=>?_
  rcases Nat.lt_or_ge j n with g|g
  ·rw[List.getElem?_take_of_lt g]at hd
   exact inv.told j d (hup j g) hd
  ·rw[List.getElem?_eq_none (by rw[List.length_take];omega)]at hd;cases hd) n (Array.replicate l.toArray.size false) a0 w0.drew (by rw[List.filter_eq_self.2 (fun i _=>by rw[hl0];rfl)];simp) ⟨by simp,rfl,rfl,hU.drew,fun _ _=>rfl,fun j d h _=>by rw[hl0]at h;cases h⟩ hinv
 rw[show n+(l.length-n)=l.toArray.size by simp;omega]at key
 exact key
end Go.Proofs.Ytcmpmighjglnpaa
namespace Go.Proofs.Ytcmpmighjglnpaa
open Go.RowKit
theorem in_len(pw b:List Nat):inSN 32768 pw.length b.length=(winI pw b).length:=by
 unfold winI inSN keepN;rw[lastN_len,List.length_append];omega
theorem in_lst(pw b:List Nat)(j:Nat):inF 32768 pw.length (lst pw) b.length (lst b) j=lst (winI pw b) j:=by
 unfold winI inF dropN lastN
 rw[lst_drop,lst_app,List.length_append]
theorem win_bytes{pw b:List Nat}(h:BytesP pw)(k:BytesP b):BytesP (winI pw b):=lastN_mem fun x hx=>(List.mem_append.1 hx).elim (h x) (k x)
theorem upush_any(w:World)(pw b:List Nat)(Aw:Option Addr)(cw:Nat)(A2:Option Addr)(m c2:Nat)(hm:m=b.length)(h1:ByR w w.heap.size Aw pw.length cw (lst pw))(h2:ByR w w.heap.size A2 m c2 (lst b))(hpw:pw.length≤32768)(hb:b.length≤131072)(bp:BytesP pw)(bb:BytesP b):
  Calls Try.prog 39 #[.agg #[.int .i64 32768,.slice Aw pw.length cw],.slice A2 m c2] w fun e w'=>∃A' l' c',e=.returned (.tuple #[.agg #[.int .i64 32768,.slice A' l' c'],.int .i64 0])∧l'=(winI pw b).length∧ByR w' w'.heap.size A' l' c' (lst (winI pw b))∧NewB w' w.heap.size A' l'∧Below w.heap.size w w':=by
 subst hm
 have h:=spushW_any w 32768 Aw pw.length cw (lst pw) h1 (by omega) (by omega) A2 b.length c2 (lst b) h2
 refine h.mono ?_
 rintro e w' ⟨⟨S',A',l',c',F',e1,e2,e3,e4⟩,hb'⟩
 have e0:pushE 32768 pw.length b.length=0:=by
  unfold pushE winE;rw[if_pos (by omega),if_neg (by omega)]
 rw[e0]at e1 e4
 rw[if_pos rfl]at e4
 obtain⟨rfl,rfl,rfl⟩:=e4
 have hl:=in_len pw b
 refine⟨A',_,c',e1,hl,?_,e3,hb'⟩
 exact e2.ext (lst_lt (win_bytes bp bb)) fun j _=>in_lst pw b j
theorem copL_len(L:List Nat)(d n:Nat):(copL L d n).length=n:=by simp[copL]
theorem copL_bytes{L:List Nat}{d n:Nat}(h:BytesP L):BytesP (copL L d n):=fun x hx=>by
 unfold copL at hx
 obtain⟨i,_,rfl⟩:=List.mem_map.1 hx
 exact lst_lt h _
theorem copL_lst(L:List Nat)(d n j:Nat)(hj:j<n):copF L.length (lst L) d j=lst (copL L d n) j:=by
 unfold copF copL lst
 rw[List.getD_eq_getElem?_getD (l:=List.map _ _),List.getElem?_map,List.getElem?_range hj]
 rfl
theorem ucopy_any(w:World)(pw:List Nat)(Aw:Option Addr)(cw:Nat)(h1:ByR w w.heap.size Aw pw.length cw (lst pw))(hpw:pw.length≤32768)(bp:BytesP pw)(d:Int)(n:Nat)(hd:1≤d)(hd2:d≤32768)(hn:n≤258):
  Calls Try.prog 45 #[.agg #[.int .i64 32768,.slice Aw pw.length cw],.int .i64 d,.int .i64 (n:Int)] w fun e w'=>∃S' A' l' c' B' k' b',e=.returned (.tuple #[.agg #[.int .i64 S',.slice A' l' c'],.slice B' k' b',.int .i64 (if(pw.length:Int)<d then 60 else 0)])∧
   ((pw.length:Int)<d∨(S'=32768∧l'=(winI pw (copL pw d.toNat n)).length∧k'=n∧ByR w' w'.heap.size A' l' c' (lst (winI pw (copL pw d.toNat n)))∧ByR w' w'.heap.size B' k' b' (lst (copL pw d.toNat n))∧NewBs w.heap.size A'∧NewBs w.heap.size B'))∧Below w.heap.size w w':=by
 have h:=scopy_any w 32768 Aw pw.length cw (lst pw) h1 (by omega) (by omega) d (n:Int) (by omega) (by omega) (by omega) (by omega)
 refine h.mono ?_
 rintro e w' ⟨⟨S',A',l',c',F',B',k',b',G',e1,e2,e3,e4,e5,e6⟩,hb'⟩
 have e0:copyE 32768 pw.length d (n:Int)=if(pw.length:Int)<d then 60 else 0:=by
  unfold copyE winE;rw[if_pos (by omega),if_neg (by omega)]
 rw[e0]at e1 e6
 refine⟨S',A',l',c',B',k',b',e1,?_,hb'⟩
 by_cases hdist:(pw.length:Int)<d
 ·exact .inl hdist
 ·rw[if_neg hdist,if_pos rfl]at e6
  have en:((n:Int)).toNat=n:=Int.toNat_natCast n
  have e9:(32768:Int).toNat=32768:=rfl
  rw[en,e9]at e6
  obtain⟨q1,q2,q3,q4,q5⟩:=e6
  refine .inr ⟨q1,?_,q4,?_,?_,e4,e5⟩
  ·have:=in_len pw (copL pw d.toNat n)
   rw[copL_len]at this;exact q2.trans this
  ·have hx:=in_lst pw (copL pw d.toNat n)
   rw[copL_len]at hx
   refine e2.ext (lst_lt (win_bytes bp (copL_bytes bp))) fun j hj=>?_
   rw[←hx,q3]
   unfold inF cat
   split
   ·rfl
   ·rename_i h9
    refine copL_lst pw d.toNat n _ ?_
    rw[q2]at hj
    unfold inSN keepN at hj
    unfold dropN at h9⊢
    omega
  ·rw[q5]at e3
   exact e3.ext (lst_lt (copL_bytes bp)) fun j hj=>copL_lst pw d.toNat n j (by omega)
theorem tab_nil14{l:List Oper}{o:Oper}{a:Act}{w:World}{T:Value→World→Prop}{K:Act→World→Prop}{Q:Exit→Act→World→Prop}{E:Prop}(hw:Region.wanted o (yielded l.toArray a.tmps)=true)(x:Operand)(ho:o.op=.nilCheck x)(q:Addr)(hx:a.eval x=.pointer (some q))
  (hT:Up T (.pointer (some q)) w) (hK:∀v w',Below w.heap.size w w'→Up T v w'→K (a.put o.dst v) w'):if Region.wanted o (yielded l.toArray a.tmps)=true then Oper.wp Try.prog o a w K Q else E:=
 tab_val hw (.pointer (some q)) (by unfold execOp;simp only[ho,hx];rfl) hT hK
theorem tab_sub14{l:List Oper}{o:Oper}{a:Act}{w:World}{T:Value→World→Prop}{K:Act→World→Prop}{Q:Exit→Act→World→Prop}{E:Prop}(hw:Region.wanted o (yielded l.toArray a.tmps)=true)(t t':TypeId)(x y:Operand)(ho:o.op=.binOp .sub t x y t')(p q r:Int)(hx:a.eval x=.int .i64 p)(hy:a.eval y=.int .i64 q)(e:p-q=r)(h1: -9223372036854775808≤r)(h2:r≤9223372036854775807)
  (hT:Up T (.int .i64 r) w) (hK:∀v w',Below w.heap.size w w'→Up T v w'→K (a.put o.dst v) w'):if Region.wanted o (yielded l.toArray a.tmps)=true then Oper.wp Try.prog o a w K Q else E:=by
 subst e
 exact tab_bin hw .sub t t' x y ho _ _ _ hx hy (eqg_no _ _ _ _ _ _ _ (by decide) (by decide) _) (by unfold binOp;go_simp;rw[IntKind.wrap_i64];omega) hT hK
theorem tab_len14{l:List Oper}{o:Oper}{a:Act}{w:World}{T:Value→World→Prop}{K:Act→World→Prop}{Q:Exit→Act→World→Prop}{E:Prop}(hw:Region.wanted o (yielded l.toArray a.tmps)=true)(x:Operand)(ho:o.op=.call {callee:=.builtin .len,args:=#[x],argTypes:=#[22]})(A:Option Addr)(n c:Nat)(hx:a.eval x=.slice A n c)
  (hT:Up T (.int .i64 (n:Int)) w) (hK:∀v w',Below w.heap.size w w'→Up T v w'→K (a.put o.dst v) w'):if Region.wanted o (yielded l.toArray a.tmps)=true then Oper.wp Try.prog o a w K Q else E:=
 tab_val hw (.int .i64 (n:Int)) (by
  have h:(Builtin.len_ #[22] o.type #[.slice A n c]).run Try.prog w=.ok (.int .i64 (n:Int)) w:=by simp[Builtin.len_,go_sem]
  simp[execOp,ho,resolve,invoke,builtin,hx,h,Result.andThen]) hT hK
theorem tab_min14{l:List Oper}{o:Oper}{a:Act}{w:World}{T:Value→World→Prop}{K:Act→World→Prop}{Q:Exit→Act→World→Prop}{E:Prop}(hw:Region.wanted o (yielded l.toArray a.tmps)=true)(x y:Operand)(t t':TypeId)(ho:o.op=.call {callee:=.builtin .min,args:=#[x,y],argTypes:=#[t,t']})(p q r:Int)(hx:a.eval x=.int .i64 p)(hy:a.eval y=.int .i64 q)(e:min p q=r)
  (hT:Up T (.int .i64 r) w) (hK:∀v w',Below w.heap.size w w'→Up T v w'→K (a.put o.dst v) w'):if Region.wanted o (yielded l.toArray a.tmps)=true then Oper.wp Try.prog o a w K Q else E:=
 tab_val hw (.int .i64 r) (by
  have h:(Builtin.min_ #[t,t'] o.type #[.int .i64 p,.int .i64 q]).run Try.prog w=.ok (.int .i64 r) w:=by
   subst e
   simp[Builtin.min_,Builtin.min2,go_sem]
   split<;>omega
  simp[execOp,ho,resolve,invoke,builtin,hx,hy,h,Result.andThen]) hT hK
end Go.Proofs.Ytcmpmighjglnpaa
namespace Go.Proofs.Ytcmpmighjglnpaa
open Go.RowKit
def sameK(kd kd':Nat)(last last':Bool)(left left':Int)(c1 d1:Nat→Int)(s1 t1:List Int)(c2 d2:Nat→Int)(s2 t2:List Int):Bool:=((kd:Int)==(kd':Int))&&(last==last')&&(left==left')&&sameT c1 d1 s1 t1&&sameT c2 d2 s2 t2
end Go.Proofs.Ytcmpmighjglnpaa
namespace Go.Proofs.Ytcmpmighjglnpaa
open Go.RowKit
theorem rdS_nil14(w:World)(B:Nat):RdS w B (.slice none 0 0) []:=⟨none,0,rfl,⟨rfl,fun h=>absurd h (by decide)⟩,fun _=>rfl,Nat.le_refl _,Nat.zero_le _⟩
theorem szBlkL(kd:Nat)(last:Bool)(left:Int)(c1 c2:Nat→Int)(v1 v2:Value):(Try.prog.info? 28).map (·.size)=some (blkL kd last left c1 c2 v1 v2).length:=by rw[blkL_len];exact(zero_of_info infoBlkT).2
def begV14(n:Int):SwV:={swZ with M:=n,S:=32768}
theorem built_beg14(n:Int):Try.prog.built 32 [(0,.int .i64 n),(6,.agg #[.int .i64 32768,.slice none 0 0])]=some (swA (begV14 n)):=by kernel_rfl
def newV14(n:Int):SwV:=if n<0∨131072<n then swZ else begV14 n
def newE14(n:Int):Int:=if n<0∨131072<n then 2 else 0
theorem newV_B(n:Int):(newV14 n).B.length=37:=by unfold newV14;split<;>rfl
theorem swA_one{x:SwV}(hI:x.I.oneCell'=true)(hW:x.W.oneCell'=true)(hB:∀v∈x.B,v.oneCell'=true):(swA x).all (·.oneCell')=true:=by
 refine all_oneCell_toArray fun v hv=>?_
 unfold swL swP swQ at hv
 simp only[List.mem_append,List.mem_cons,List.mem_nil_iff,or_false]at hv
 rcases hv with((rfl|rfl|rfl|rfl)|hv)|(rfl|rfl|rfl|rfl)
 all_goals first|rfl|assumption|(exact hB _ hv)
theorem trL_one{c:Nat→Int}{v:Value}(h:v.oneCell'=true):∀x∈trL c v,x.oneCell'=true:=fun x hx=>by
 rcases List.mem_append.1 hx with hx|hx
 ·obtain⟨i,_,rfl⟩:=List.mem_map.1 hx;rfl
 ·rw[List.mem_singleton.1 hx];exact h
theorem blkL_one{kd:Nat}{last:Bool}{left:Int}{c1 c2:Nat→Int}{v1 v2:Value}(h1:v1.oneCell'=true)(h2:v2.oneCell'=true):∀v∈blkL kd last left c1 c2 v1 v2,v.oneCell'=true:=by
 intro v hv
 unfold blkL at hv
 simp only[List.mem_cons,List.mem_append]at hv
 rcases hv with rfl|rfl|rfl|hv|hv
 ·rfl
 ·rfl
 ·rfl
 ·exact trL_one h1 v hv
 ·exact trL_one h2 v hv
theorem swZ_one:(swA swZ).all (·.oneCell')=true:=swA_one rfl rfl (blkL_one rfl rfl)
theorem newV_one(n:Int):(swA (newV14 n)).all (·.oneCell')=true:=by unfold newV14;split<;>exact swA_one rfl rfl (blkL_one rfl rfl)
theorem cell_swl2{fn:Func}{p u:Tmp}(h:fn.results=#[.cell p 32,.tmp u])(tmps:Array Value)(w:World)(g:Nat)(cs:Array Value)(hs:cs.size=45)(hp:tmps.getD p undef=.pointer (some ⟨g,0,none⟩))(ht:w.heap[g]?=some (.cells cs 32 (0,0))):
  (results fn tmps).run Try.prog w=.ok (.tuple #[.agg cs,tmps.getD u undef]) w:=by
 have hp':tmps[p]?.getD undef=.pointer (some ⟨g,0,none⟩):=by simpa using hp
 have hl:=run_loadVar_row (P:=Try.prog) w g 32 32 cs (0,0) _ ht Try.underlying32 rfl (szSwl cs hs)
 simp[results,h,hp',asAddr,hl]
end Go.Proofs.Ytcmpmighjglnpaa
namespace Go.Proofs.Ytcmpmighjglnpaa
open Go.RowKit
theorem rd_part14{w:World}{B n c s m:Nat}{a:Addr}{A2:Option Addr}{f:Nat→Nat}(h:ByR w B (some a) n c f)(hs:s≤n)(hm:m≤n-s)(hA:(if c=s then some a else some (a.add s))=A2):RdB w B A2 m (dropG f s):=by
 have h1:=h.drop hs hA
 refine⟨fun j=>h.1.1 _,fun h0=>?_⟩
 obtain⟨b,o,e,hb,hc⟩:=h1.1.2 (by omega)
 refine⟨b,o,e,hb,fun j hj=>?_⟩
 rw[hc j (by omega)]
 unfold dropG;rw[Nat.add_comm]
theorem upiece_any(w:World)(h0 p:Nat)(u:UnV)(k:Option Blk13)(g:Nat→Nat)(L:Nat)(pw out:List Nat)(h:UnR w h0 p u k g L pw out):
  Calls Try.prog 33 #[.pointer (some ⟨p,0,none⟩)] w fun e w'=>∃A' c',e=.returned (.tuple #[.slice A' (min 600 (L-u.bit/8)) c',.int .i64 ((u.bit%8:Nat):Int)])∧RdB w' w'.heap.size A' (min 600 (L-u.bit/8)) (dropG g (u.bit/8))∧Below w.heap.size w w':=by
 obtain⟨Ab,cb,eb,hB⟩:=h.b
 have hby:=hB.r
 have hbit:=h.bit
 have hL:=h.lL
 have a1:=h.box.cbit
 have a2:=h.box.cb
 rw[eb]at a2
 clear eb hB h
 obtain⟨s,hs⟩:∃s,s=u.bit/8:=⟨_,rfl⟩
 obtain⟨r,hr⟩:∃r,r=u.bit%8:=⟨_,rfl⟩
 obtain⟨m,hm⟩:∃m,m=min 600 (L-s):=⟨_,rfl⟩
 obtain⟨bit,hbt⟩:∃b,b=u.bit:=⟨_,rfl⟩
 rw[←hbt]at a1 hbit hs hr
 rw[←hbt,←hs,←hr,←hm]
 clear hbt
 have hsL:s≤L:=by omega
 have e1:(bit:Int)/8=(s:Int):=by omega
 have e2:(bit:Int)%8=(r:Int):=by omega
 have e3:Int.tdiv (bit:Int) 8=(s:Int):=by rw[Int.tdiv_eq_ediv_of_nonneg (by omega)];exact e1
 have e4:Int.tmod (bit:Int) 8=(r:Int):=by rw[Int.tmod_eq_emod_of_nonneg (by omega)];exact e2
 obtain⟨hn0,hnc,hcm⟩:=hby.2
 unfold maxLen at hcm
 rcases Ab with _|ad
 ·obtain rfl:=hn0 rfl
  obtain rfl:L=0:=by omega
  obtain rfl:s=0:=by omega
  obtain rfl:m=0:=by omega
  have HG:=Lib.hid hby.1.1
  clear hs hr hm e1 e2 hby
  go_enter Try.func33,Try.ntmps33
  go_wp2
  go_region
  go_wp2
  refine bodyPost_ret (results_tmp2 rfl _ _ _) rfl ?_
  exact⟨none,0,rfl,⟨fun j=>HG.out _,fun h=>absurd h (by omega)⟩,(Below.refl _ _).drew⟩
 ·obtain⟨A2,hA2⟩:∃A2,(if cb=s then(some ad:Option Addr)else some (ad.add s))=A2:=⟨_,rfl⟩
  have HP:=Lib.hid (rd_part14 (m:=m) hby hsL (by omega) hA2)
  by_cases hc:s+600≤L
  ·obtain rfl:m=600:=by omega
   clear hs hr hm e1 e2 hby
   go_enter Try.func33,Try.ntmps33
   go_wp2
   go_region
   go_wp2
   refine bodyPost_ret (results_tmp2 rfl _ _ _) rfl ?_
   exact⟨A2,cb-s,by show Ending.returned (.tuple #[.slice A2 (s+600-s) (cb-s),.int .i64 (r:Int)])=_;rw[Nat.add_sub_cancel_left],HP.out,(Below.refl _ _).drew⟩
  ·obtain rfl:m=L-s:=by omega
   clear hs hr hm e1 e2 hby
   go_enter Try.func33,Try.ntmps33
   go_wp2
   go_region
   go_wp2
   refine bodyPost_ret (results_tmp2 rfl _ _ _) rfl ?_
   first|exact⟨A2,_,rfl,HP.out,(Below.refl _ _).drew⟩|exact⟨A2,⟨_,rfl⟩,HP.out,(Below.refl _ _).drew⟩|exact⟨A2,HP.out,(Below.refl _ _).drew⟩
theorem uclose_any(w:World)(h0 p:Nat)(u:UnV)(k:Blk13)(g:Nat→Nat)(L:Nat)(pw out:List Nat)(h:UnR w h0 p u (some k) g L pw out):
  Calls Try.prog 36 #[.pointer (some ⟨p,0,none⟩)] w fun e w'=>e=.returned (.tuple #[])∧
   UnR w' h0 p {u with ov:=k.last,kd:=0,last:=false,left:=0,c1:=fun _=>0,c2:=fun _=>0,v1:=.slice none 0 0,v2:=.slice none 0 0,op:=false} none g L pw out∧Fr (At p) w w':=by
 have el:u.last=k.last:=by obtain⟨_,_,_,_,_,h1,_⟩:=h.blk;exact h1.2.1.symm
 have a1:=h.box.cl
 have f1:=h.box.free 44
 have c44:=h.box.cov
 rw[el]at a1
 obtain⟨U1,hU1⟩:∃U1,U1=w.setCell ⟨p,44,none⟩ (.bool k.last):=⟨_,rfl⟩
 have b1:UnB U1 p {u with ov:=k.last}:=by rw[hU1];exact h.box.sov _
 have r1:Fr (At p) w U1:=by rw[hU1];exact Fr.cell _ _ _ _
 obtain⟨X,hX⟩:∃X,X=blkNil.toArray:=⟨_,rfl⟩
 have HXB:Hid (Try.prog.built 28 []=some X):=Lib.hid (by rw[hX];exact built_blkZ)
 have HXS:Hid (X.size=37):=Lib.hid (by rw[hX];exact blkL_len ..)
 have HXI:Hid ((Try.prog.info? 28).map (·.size)=some X.size):=Lib.hid (by rw[HXS.out];exact(zero_of_info infoBlkT).2)
 have HXO:Hid (X.all (·.oneCell')=true):=Lib.hid (by rw[hX];exact all_oneCell_toArray (blkL_one rfl rfl))
 obtain⟨U2,hU2⟩:∃U2,U2=U1.setCells p 4 X.toList:=⟨_,rfl⟩
 have b2:UnB U2 p {u with ov:=k.last,kd:=0,last:=false,left:=0,c1:=fun _=>0,c2:=fun _=>0,v1:=.slice none 0 0,v2:=.slice none 0 0}:=by
  rw[hU2,hX];exact b1.sB 0 false 0 (fun _=>0) (fun _=>0) (.slice none 0 0) (.slice none 0 0)
 have r2:Fr (At p) w U2:=r1.trans (by rw[hU2];exact Fr.setCells _ _ _ _ rfl)
 obtain⟨U3,hU3⟩:∃U3,U3=U2.setCell ⟨p,41,none⟩ (.bool false):=⟨_,rfl⟩
 have b3:=b2.sop false
 have r3:Fr (At p) w U3:=r2.trans (by rw[hU3];exact Fr.cell _ _ _ _)
 rw[←hU3]at b3
 have HT:Hid (U1.there p 4 X.size):=Lib.hid (by rw[HXS.out];exact b1.th 4 37 (by omega))
 have c41:=b2.cop
 have f2:=b2.free 41
 have HFIN:=Lib.hid (h.cells r3 b3 rfl rfl rfl rfl (k':=none) ⟨rfl,rfl,rfl,rfl,rfl,rfl,World.ownsRow_nil _ _ _ _,World.ownsRow_nil _ _ _ _⟩ h.bit h.wait)
 have HU1:=Lib.hid hU1;have HU2:=Lib.hid hU2;have HU3:=Lib.hid hU3;have HR3:=Lib.hid r3
 clear h hU1 b1 r1 el hX hU2 b2 r2 hU3 b3 r3
 go_enter Try.func36,Try.ntmps36
 go_wp2_with (first
  |(rw[←HU1.out])
  |(rw[←HU3.out])
  |(refine wpList_buildTo rfl 28 #[] rfl (some 14) rfl X ?_ ?_;focus(simpa[Act.eval]using HXB.out))
  |(refine wpList_store_mid rfl _ _ _ rfl p 4 X rfl rfl HT.out HXI.out HXO.out ?_;rw[←HU2.out])
  |fail)
 go_end0
 exact⟨rfl,HFIN.out,HR3.out⟩
end Go.Proofs.Ytcmpmighjglnpaa
namespace Go.Proofs.Ytcmpmighjglnpaa
open Go.RowKit
theorem ByF.newB{S:Nat→Prop}{w:World}{A:Option Addr}{n c B:Nat}{f:Nat→Nat}(h:ByR w w.heap.size A n c f)(hn:NewB w B A n)(hS:∀j,S j→j<B):ByF S w A n c f:=
 ⟨⟨h.1,fun b o h0 e hs=>by
  obtain⟨g,o',cur,e',hg,_⟩:=hn h0
  rw[e]at e';injection e' with e';injection e' with e1 _ _;have:=hS b hs;omega⟩,h.2⟩
def winO(pw out:List Nat)(wait:Nat):List Nat:=winI pw (out.drop (out.length-wait))
structure SetD (w:World) (h0 p:Nat) (u:UnV) (k:Option Blk13) (g:Nat→Nat) (L:Nat) (pw out:List Nat) (e:Ending) (w':World):Prop where
 ret:e=.returned (.tuple #[])
 ok:∃u',UnR w' h0 p u' k g L (winO pw out u.wait) out∧u'.M=u.M∧u'.D=u.D∧u'.I=u.I∧u'.a=u.a∧u'.ov=u.ov∧u'.bit=u.bit∧u'.wait=0∧∃A' c',u'.W=.slice A' (winO pw out u.wait).length c'∧NewB w' h0 A' (winO pw out u.wait).length
 bel:Below h0 w w'
 fr:Fr (At p) w w'
theorem usettle_any(w:World)(h0 p:Nat)(u:UnV)(k:Option Blk13)(g:Nat→Nat)(L:Nat)(pw out:List Nat)(h:UnR w h0 p u k g L pw out)(ho:out.length≤131072):
  Calls Try.prog 27 #[.pointer (some ⟨p,0,none⟩)] w fun e w'=>SetD w h0 p u k g L pw out e w':=by
 obtain⟨Ao,ct,et,_⟩:=h.told
 obtain⟨Aw,cw,eW,hW⟩:=h.win
 obtain⟨q,hq⟩:∃q,q=out.length:=⟨_,rfl⟩
 obtain⟨n,hn⟩:∃n,n=pw.length:=⟨_,rfl⟩
 obtain⟨wt,hwt⟩:∃x,x=u.wait:=⟨_,rfl⟩
 obtain⟨d,hd⟩:∃d,d=q-wt:=⟨_,rfl⟩
 obtain⟨PN,hPN⟩:∃x,x=winO pw out u.wait:=⟨_,rfl⟩
 obtain⟨m,hm⟩:∃m,m=PN.length:=⟨_,rfl⟩
 obtain⟨A2,hA2⟩:∃A2,(if ct=d then Ao else Ao.map (·.add d))=A2:=⟨_,rfl⟩
 have hle:=h.wait
 have hcap:q≤ct:=by have o:=h.own;rw[et]at o;have:=(own_cap o).1;omega
 have CW:Hid (∀V,Below w.heap.size w V→V.rangeAt p 42 [.int .i64 32768,.slice Aw n cw]):=Lib.hid fun V hV=>by
  have r:=(h.on hV).box.rW
  rw[h.S,eW,←hn]at r;exact r
 have CT:Hid (∀V,Below w.heap.size w V→V.cell? ⟨p,47,none⟩=some (.slice Ao q ct)):=Lib.hid fun V hV=>by
  have r:=(h.on hV).box.ct
  rw[et,←hq]at r;exact r
 have CWT:Hid (∀V,Below w.heap.size w V→V.cell? ⟨p,48,none⟩=some (.int .i64 (wt:Int))):=Lib.hid fun V hV=>by
  have r:=(h.on hV).box.cwait
  rw[←hwt]at r;exact r
 have ED:Hid ((q:Int)-(wt:Int)=(d:Int)):=Lib.hid (by omega)
 have EQ:Hid (d≤1000000):=Lib.hid (by omega)
 have ELE:Hid (d≤q):=Lib.hid (by omega)
 have EA2:=Lib.hid hA2
 have PU:Hid (∀V,Below w.heap.size w V→Calls Try.prog 39 #[.agg #[.int .i64 32768,.slice Aw n cw],.slice A2 (q-d) (ct-d)] V fun e w'=>∃A' l' c',e=.returned (.tuple #[.agg #[.int .i64 32768,.slice A' l' c'],.int .i64 0])∧l'=m∧ByR w' w'.heap.size A' l' c' (lst PN)∧NewB w' w.heap.size A' l'∧Below V.heap.size V w'):=Lib.hid fun V hV=>by
  have hU:=h.on hV
  have b1:ByR V V.heap.size Aw pw.length cw (lst pw):=by
   obtain⟨Aw',cw',e',hb'⟩:=hU.win
   rw[eW]at e';injection e' with e1 _ e2;rw[e1,e2];exact hb'.r
  have o:=hU.own
  rw[et]at o
  have b2:ByR V V.heap.size Ao q ct (lst out):=by rw[hq];exact ByR.of_own o (lst_lt h.bout)
  have b3:ByR V V.heap.size A2 (q-d) (ct-d) (lst (out.drop d)):=by
   rcases Ao with _|ad
   ·have hc0:=b2.2.1 rfl
    have hq0:q=0:=by have:=b2.2.2.1;omega
    have hd0:d=0:=by omega
    subst hc0;subst hq0;subst hd0
    have:A2=none:=by rw[←hA2];rfl
    rw[this]
    exact ByR.nil _ _ _ (lst_lt fun x hx=>h.bout x (List.mem_of_mem_drop hx))
   ·have:=b2.drop (p:=d) (by omega) (A2:=A2) (by rw[←hA2];rfl)
    refine this.ext (lst_lt fun x hx=>h.bout x (List.mem_of_mem_drop hx)) fun j _=>?_
    rw[lst_drop]
  have hp:=upush_any V pw (out.drop d) Aw cw A2 (q-d) (ct-d) (by rw[List.length_drop,←hq]) b1 b3 h.lpw (by rw[List.length_drop];omega) h.bpw (fun x hx=>h.bout x (List.mem_of_mem_drop hx))
  rw[←hn]at hp
  have ePN:winI pw (out.drop d)=PN:=by rw[hPN,hd,hq,hwt];rfl
  rw[ePN,←hm]at hp
  exact hp.mono fun e w' ⟨A',l',c',x1,x2,x3,x4,x5⟩=>⟨A',l',c',x1,x2,x3,(fun h9=>by obtain⟨g',o',cur,y1,y2,y3⟩:=x4 h9;exact⟨g',o',cur,y1,Nat.le_trans hV.size y2,y3⟩),x5⟩
 have HH:=Lib.hid h;have HQ:=Lib.hid hq;have HN:=Lib.hid hn;have HWT:=Lib.hid hwt;have HPN:=Lib.hid hPN;have HM:=Lib.hid hm
 clear h hq hn hwt hPN hm hd hA2 hle hcap et eW hW ho
 go_enter Try.func27,Try.ntmps27
 go_wp2
 refine wp_region_tabf 28 24 _ rfl rfl 26 rfl (tabT [fun v _=>v=.pointer (some ⟨p,0,none⟩),fun v _=>v=.pointer (some ⟨p,0,none⟩),fun v _=>v=.pointer (some ⟨p,0,none⟩),fun v _=>v=.pointer (some ⟨p,0,none⟩),fun v _=>v=.pointer (some ⟨p,42,none⟩),fun v _=>v=.agg #[.int .i64 32768,.slice Aw n cw],fun v _=>v=.pointer (some ⟨p,0,none⟩),fun v _=>v=.pointer (some ⟨p,0,none⟩),fun v _=>v=.pointer (some ⟨p,47,none⟩),fun v _=>v=.slice Ao q ct,fun v _=>v=.pointer (some ⟨p,0,none⟩),fun v _=>v=.pointer (some ⟨p,0,none⟩),fun v _=>v=.pointer (some ⟨p,47,none⟩),fun v _=>v=.slice Ao q ct,fun v _=>v=.int .i64 (q:Int),fun v _=>v=.pointer (some ⟨p,0,none⟩),fun v _=>v=.pointer (some ⟨p,0,none⟩),fun v _=>v=.pointer (some ⟨p,48,none⟩),fun v _=>v=.int .i64 (wt:Int),fun v _=>v=.int .i64 (d:Int),fun v _=>v=.slice A2 (q-d) (ct-d),fun v W=>∃A' l' c',v=.tuple #[.agg #[.int .i64 32768,.slice A' l' c'],.int .i64 0]∧l'=m∧ByR W W.heap.size A' l' c' (lst PN)∧NewB W w.heap.size A' l',fun v W=>∃A' l' c',v=.tuple #[.agg #[.int .i64 32768,.slice A' l' c'],.int .i64 0]∧l'=m∧ByR W W.heap.size A' l' c' (lst PN)∧NewB W w.heap.size A' l',fun v W=>∃A' l' c',v=.agg #[.int .i64 32768,.slice A' l' c']∧l'=m∧ByR W W.heap.size A' l' c' (lst PN)∧NewB W w.heap.size A' l',fun v _=>v=.int .i64 0,fun v _=>v=.pointer (some ⟨p,0,none⟩),fun v _=>v=.pointer (some ⟨p,0,none⟩),fun v _=>v=.pointer (some ⟨p,42,none⟩)]) w (Below.refl _ _) (by kernel_rfl) (by kernel_rfl) (fun _ _ _ _ h=>h) (fun aa wv hb ha hS=>by have hs:=hS 22 2 (by kernel_rfl) rfl;obtain⟨A',l',c',e1,r1,r2,r3⟩:=hs.here;exact⟨_,float_extract _ _ rfl _ _ e1 (fun w=>by go_simp),up_eq rfl⟩) ?_ ?_
 case refine_1=>
  simp only[List.take_succ_cons,List.take_zero]
  refine TabAll.cons (fun aa wv hb ha hS Kk Qq hK=>tab_move (tab_free rfl) _ rfl (up_eq ((ha 0 (by kernel_rfl)).trans rfl)) hK) ?_
  refine TabAll.cons (fun aa wv hb ha hS Kk Qq hK=>tab_move (tab_free rfl) _ rfl (up_eq ((ha 0 (by kernel_rfl)).trans rfl)) hK) ?_
  refine TabAll.cons (fun aa wv hb ha hS Kk Qq hK=>tab_nil14 (tab_free rfl) _ rfl ⟨p,0,none⟩ (show aa.eval (.tmp 4)=.pointer (some ⟨p,0,none⟩)from(hS 1 4 (by kernel_rfl) rfl).here) (up_eq rfl) hK) ?_
  refine TabAll.cons (fun aa wv hb ha hS Kk Qq hK=>tab_field (tab_free rfl) _ _ _ rfl _ (.pointer (some ⟨p,0,none⟩)) (show aa.eval (.tmp 5)=.pointer (some ⟨p,0,none⟩)from(hS 2 5 (by kernel_rfl) rfl).here) (by go_simp) (up_eq rfl) hK) ?_
  refine TabAll.cons (fun aa wv hb ha hS Kk Qq hK=>tab_field (tab_free rfl) _ _ _ rfl _ (.pointer (some ⟨p,42,none⟩)) (show aa.eval (.tmp 6)=.pointer (some ⟨p,0,none⟩)from(hS 3 6 (by kernel_rfl) rfl).here) (by go_simp) (up_eq rfl) hK) ?_
  refine TabAll.cons (fun aa wv hb ha hS Kk Qq hK=>tab_row (tab_free rfl) _ _ rfl p 42 (show aa.eval (.tmp 7)=.pointer (some ⟨p,42,none⟩)from(hS 4 7 (by kernel_rfl) rfl).here) [.int .i64 32768,.slice Aw n cw] _ (CW.out wv hb) Try.underlying30 rfl ((zero_of_info infoWin14).2) (up_eq rfl) hK) ?_
  refine TabAll.cons (fun aa wv hb ha hS Kk Qq hK=>tab_move (tab_free rfl) _ rfl (up_eq ((ha 0 (by kernel_rfl)).trans rfl)) hK) ?_
  refine TabAll.cons (fun aa wv hb ha hS Kk Qq hK=>tab_nil14 (tab_free rfl) _ rfl ⟨p,0,none⟩ (show aa.eval (.tmp 9)=.pointer (some ⟨p,0,none⟩)from(hS 6 9 (by kernel_rfl) rfl).here) (up_eq rfl) hK) ?_
  refine TabAll.cons (fun aa wv hb ha hS Kk Qq hK=>tab_field (tab_free rfl) _ _ _ rfl _ (.pointer (some ⟨p,47,none⟩)) (show aa.eval (.tmp 10)=.pointer (some ⟨p,0,none⟩)from(hS 7 10 (by kernel_rfl) rfl).here) (by go_simp) (up_eq rfl) hK) ?_
  refine TabAll.cons (fun aa wv hb ha hS Kk Qq hK=>tab_load (tab_free rfl) _ _ rfl _ (.slice Ao q ct) (show aa.eval (.tmp 11)=.pointer (some ⟨p,47,none⟩)from(hS 8 11 (by kernel_rfl) rfl).here) (by have hc:=CT.out wv hb;go_simp) (up_eq rfl) hK) ?_
  refine TabAll.cons (fun aa wv hb ha hS Kk Qq hK=>tab_move (tab_free rfl) _ rfl (up_eq ((ha 0 (by kernel_rfl)).trans rfl)) hK) ?_
  refine TabAll.cons (fun aa wv hb ha hS Kk Qq hK=>tab_nil14 (tab_free rfl) _ rfl ⟨p,0,none⟩ (show aa.eval (.tmp 13)=.pointer (some ⟨p,0,none⟩)from(hS 10 13 (by kernel_rfl) rfl).here) (up_eq rfl) hK) ?_
  refine TabAll.cons (fun aa wv hb ha hS Kk Qq hK=>tab_field (tab_free rfl) _ _ _ rfl _ (.pointer (some ⟨p,47,none⟩)) (show aa.eval (.tmp 14)=.pointer (some ⟨p,0,none⟩)from(hS 11 14 (by kernel_rfl) rfl).here) (by go_simp) (up_eq rfl) hK) ?_
  refine TabAll.cons (fun aa wv hb ha hS Kk Qq hK=>tab_load (tab_free rfl) _ _ rfl _ (.slice Ao q ct) (show aa.eval (.tmp 15)=.pointer (some ⟨p,47,none⟩)from(hS 12 15 (by kernel_rfl) rfl).here) (by have hc:=CT.out wv hb;go_simp) (up_eq rfl) hK) ?_
  refine TabAll.cons (fun aa wv hb ha hS Kk Qq hK=>tab_len14 (tab_free rfl) _ rfl Ao q ct (show aa.eval (.tmp 16)=.slice Ao q ct from(hS 13 16 (by kernel_rfl) rfl).here) (up_eq rfl) hK) ?_
  refine TabAll.cons (fun aa wv hb ha hS Kk Qq hK=>tab_move (tab_free rfl) _ rfl (up_eq ((ha 0 (by kernel_rfl)).trans rfl)) hK) ?_
  refine TabAll.cons (fun aa wv hb ha hS Kk Qq hK=>tab_nil14 (tab_free rfl) _ rfl ⟨p,0,none⟩ (show aa.eval (.tmp 18)=.pointer (some ⟨p,0,none⟩)from(hS 15 18 (by kernel_rfl) rfl).here) (up_eq rfl) hK) ?_
  refine TabAll.cons (fun aa wv hb ha hS Kk Qq hK=>tab_field (tab_free rfl) _ _ _ rfl _ (.pointer (some ⟨p,48,none⟩)) (show aa.eval (.tmp 19)=.pointer (some ⟨p,0,none⟩)from(hS 16 19 (by kernel_rfl) rfl).here) (by go_simp) (up_eq rfl) hK) ?_
  refine TabAll.cons (fun aa wv hb ha hS Kk Qq hK=>tab_load (tab_free rfl) _ _ rfl _ (.int .i64 (wt:Int)) (show aa.eval (.tmp 20)=.pointer (some ⟨p,48,none⟩)from(hS 17 20 (by kernel_rfl) rfl).here) (by have hc:=CWT.out wv hb;go_simp) (up_eq rfl) hK) ?_
  refine TabAll.cons (fun aa wv hb ha hS Kk Qq hK=>tab_sub14 (tab_free rfl) _ _ _ _ rfl (q:Int) (wt:Int) (d:Int) (show aa.eval (.tmp 17)=.int .i64 (q:Int)from(hS 14 17 (by kernel_rfl) rfl).here) (show aa.eval (.tmp 21)=.int .i64 (wt:Int)from(hS 18 21 (by kernel_rfl) rfl).here) ED.out (by omega) (by have:=EQ.out;omega) (up_eq rfl) hK) ?_
  refine TabAll.cons (fun aa wv hb ha hS Kk Qq hK=>tab_slice (tab_free rfl) _ _ _ _ _ rfl (.slice Ao q ct) (.slice A2 (q-d) (ct-d)) (some (.int .i64 (d:Int))) none none (show aa.eval (.tmp 12)=.slice Ao q ct from(hS 9 12 (by kernel_rfl) rfl).here) (by have e:=(show aa.eval (.tmp 22)=.int .i64 (d:Int)from(hS 19 22 (by kernel_rfl) rfl).here);simp[e]) rfl rfl (run_from Ao A2 q ct d ELE.out EA2.out wv) (up_eq rfl) hK) ?_
  refine TabAll.cons (fun aa wv hb ha hS Kk Qq hK=>tab_call (tab_free rfl) 39 _ _ rfl (enters_of Try.func39 (by kernel_rfl) rfl) #[.agg #[.int .i64 32768,.slice Aw n cw],.slice A2 (q-d) (ct-d)] (by simp[(show aa.eval (.tmp 8)=.agg #[.int .i64 32768,.slice Aw n cw]from(hS 5 8 (by kernel_rfl) rfl).here),(show aa.eval (.tmp 23)=.slice A2 (q-d) (ct-d)from(hS 20 23 (by kernel_rfl) rfl).here)]) (PU.out wv hb) (fun ee w' ⟨A',l',c',h1,h2,h3,h4,h5⟩=>⟨_,h1,h5,fun W hW=>⟨A',l',c',rfl,h2,(h3.below hW (Nat.le_refl _)).more hW.size,h4.below hW (Nat.le_refl _)⟩⟩) hK) ?_
  refine TabAll.cons (fun aa wv hb ha hS Kk Qq hK=>tab_move (tab_free rfl) _ rfl (hS 21 24 (by kernel_rfl) rfl) hK) ?_
  refine TabAll.cons (fun aa wv hb ha hS Kk Qq hK=>by have hs:=hS 22 2 (by kernel_rfl) rfl;obtain⟨A',l',c',e1,r1,r2,r3⟩:=hs.here;exact tab_extract (tab_free rfl) _ _ rfl _ _ e1 (by go_simp) (fun W hW=>⟨A',l',c',rfl,r1,(r2.below hW (Nat.le_refl _)).more hW.size,r3.below hW (Nat.le_refl _)⟩) hK) ?_
  refine TabAll.cons (fun aa wv hb ha hS Kk Qq hK=>by have hs:=hS 22 2 (by kernel_rfl) rfl;obtain⟨A',l',c',e1,r1,r2,r3⟩:=hs.here;exact tab_extract (tab_free rfl) _ _ rfl _ _ e1 (by go_simp) (up_eq rfl) hK) ?_
  refine TabAll.cons (fun aa wv hb ha hS Kk Qq hK=>tab_nil14 (tab_free rfl) _ rfl ⟨p,0,none⟩ (show aa.eval (.tmp 3)=.pointer (some ⟨p,0,none⟩)from(hS 0 3 (by kernel_rfl) rfl).here) (up_eq rfl) hK) ?_
  refine TabAll.cons (fun aa wv hb ha hS Kk Qq hK=>tab_field (tab_free rfl) _ _ _ rfl _ (.pointer (some ⟨p,0,none⟩)) (show aa.eval (.tmp 27)=.pointer (some ⟨p,0,none⟩)from(hS 25 27 (by kernel_rfl) rfl).here) (by go_simp) (up_eq rfl) hK) ?_
  refine TabAll.cons (fun aa wv hb ha hS Kk Qq hK=>tab_field (tab_free rfl) _ _ _ rfl _ (.pointer (some ⟨p,42,none⟩)) (show aa.eval (.tmp 28)=.pointer (some ⟨p,0,none⟩)from(hS 26 28 (by kernel_rfl) rfl).here) (by go_simp) (up_eq rfl) hK) ?_
  exact TabAll.nil
 intro vals w5 hb hv
 obtain⟨A',l',c',e25,r1,r2,r3⟩:=(hv 23 25 rfl).here
 have e29:vals 29=.pointer (some ⟨p,42,none⟩):=(hv 27 29 rfl).here
 have hU:=HH.out.on hb
 obtain⟨w6,hw6⟩:∃W,W=w5.setCells p 42 [.int .i64 32768,.slice A' l' c']:=⟨_,rfl⟩
 have b6:=hU.box.sW 32768 (.slice A' l' c')
 have f6:Fr (At p) w5 w6:=by rw[hw6];exact Fr.setCells _ _ _ _ rfl
 rw[←hw6]at b6
 have f6':Fr (TS p u.t) w5 w6:=f6.mono fun j hj=>.inl hj
 have hS:=hU.lt
 have hlt:=HH.out.lt
 have hmB:BytesP PN:=by
  rw[HPN.out];exact win_bytes HH.out.bpw fun x hx=>HH.out.bout x (List.mem_of_mem_drop hx)
 have hmL:PN.length≤32768:=by rw[HPN.out];unfold winO winI;exact lastN_le _ _
 have eM:=HM.out
 have ho6:=own_blk hU.own (w':=w6) fun j hj=>f6.block j (hS j (.inr hj)) fun e=>by
  have e':j=p:=e
  rw[e']at hj
  exact own_type hU.own hU.box (by kernel_rfl) hj
 have hwin:∃Aw' cw',({u with S:=32768,W:=.slice A' l' c'}:UnV).W=.slice Aw' PN.length cw'∧ByF (TS p u.t) w6 Aw' PN.length cw' (lst PN):=by
  rw[r1,eM]at r2 r3
  refine⟨A',c',by rw[r1,eM],?_⟩
  have q:ByF (TS p u.t) w5 A' PN.length c' (lst PN):=ByF.newB r2 r3 hlt
  exact q.go f6' fun _ h=>.inl h
 have h6:UnR w6 h0 p {u with S:=32768,W:=.slice A' l' c'} k g L PN out:=
  hU.any f6' b6 (by obtain⟨x,y,z,_⟩:=hU.told;exact⟨x,y,z⟩) ho6 (fun j hj=>Or.inl hj) rfl hwin rfl (hU.blk.fr hU.box hU.own f6':BlkT w6 h0 u k) hU.bout hmB hU.lout hmL hU.bit hU.wait
 obtain⟨w7,hw7⟩:∃W,W=w6.setCell ⟨p,48,none⟩ (.int .i64 0):=⟨_,rfl⟩
 have h7:UnR (w6.setCell ⟨p,48,none⟩ (.int .i64 0)) h0 p {u with S:=32768,W:=.slice A' l' c',wait:=0} k g L PN out:=h6.setWait 0 (Nat.zero_le _)
 rw[←hw7]at h7
 have f7:Fr (At p) w5 w7:=f6.trans (by rw[hw7];exact Fr.cell _ _ _ _)
 have hb7:Below h0 w w7:=(hb.mono HH.out.bel).trans (f7.below (fun j hj=>by have e':j=p:=hj;rw[e'];exact HH.out.lo) hU.bel)
 have hnw:NewB w7 h0 A' PN.length:=fun h9=>by
  rw[r1,eM]at r3
  obtain⟨g',o',cur,y1,y2,y3⟩:=r3 h9
  have hbel:=HH.out.bel
  have hlp:=HH.out.lt p (.inl rfl)
  exact⟨g',o',cur,y1,by omega,(f7.block g' (Array.getElem?_eq_some_iff.1 y3).1 fun e=>by have e':g'=p:=e;omega).trans y3⟩
 have ec48:=h6.box.cwait
 have ef48:=h6.box.free 48
 have HT:Hid (w5.there p 42 2):=Lib.hid (hU.box.th 42 2 (by omega))
 have HFIN:Hid (SetD w h0 p u k g L pw out (.returned (.tuple #[])) w7):=Lib.hid ⟨rfl,⟨{u with S:=32768,W:=.slice A' l' c',wait:=0},by rw[←HPN.out];exact h7,rfl,rfl,rfl,rfl,rfl,rfl,rfl,A',c',by rw[←HPN.out,←eM,←r1],by rw[←HPN.out];exact hnw⟩,hb7,(Fr.of hb).trans f7⟩
 have HW6:=Lib.hid hw6;have HW7:=Lib.hid hw7
 clear hw6 hw7 b6 f6 f6' hS hlt hmB hmL eM ho6 hwin h6 h7 f7 hb7 hnw hU r1 r2 r3 hb hv
 simp only[List.take_succ_cons,List.take_zero,List.drop_succ_cons,List.drop_zero,List.map_cons,List.map_nil,putL,Act.put,List.setIfInBounds_toArray,List.set_cons_zero,List.set_cons_succ,e25,e29]
 clear e25 e29
 go_wp2_with (first
  |(rw[←HW7.out])
  |(refine wpList_store_mid rfl _ _ _ rfl p 42 #[.int .i64 32768,.slice A' l' c'] rfl rfl HT.out ((zero_of_info infoWin14).2) (by simp[Value.oneCell']) ?_;rw[←HW6.out])
  |fail)
 go_end0
 exact HFIN.out
end Go.Proofs.Ytcmpmighjglnpaa
namespace Go.Proofs.Ytcmpmighjglnpaa
open Go.RowKit
theorem float_bin{P:Program}{o:Oper}{a:Act}(b:BinOp)(t t':TypeId)(x y:Operand)(ho:o.op=.binOp b t x y t')(u z v:Value)(hx:a.eval x=u)(hy:a.eval y=z)(hg:∀w,(eqGuard b t x y u z).run P w=.ok () w)(hr:∀w,(binOp b t u z).run P w=.ok v w):∀w',(execOp a.eval o).run P w'=.ok (.value v) w':=fun w'=>by
 simp only[execOp,ho,hx,hy,Sem.run_bind,hg,hr,Result.andThen_ok];rfl
def OwnB(w:World)(B:Nat)(v:Value)(l:Nat)(f:Nat→Nat):Prop:=∃A c,v=.slice A l c∧w.ownsRow B 5 1 v l (bytesL l f)
structure RstD (w:World) (h0 p:Nat) (u:UnV) (st:Option Blk13) (g:Nat→Nat) (L:Nat) (pw out:List Nat) (il:Nat) (e:Ending) (w':World):Prop where
 ret:e=.returned (.int .i64 (if u.ov=true then max (((u.bit+7)/8:Nat)-(il:Int)) 0 else(L:Int)-(il:Int)))
 ok:∃u',UnR w' h0 p u' st g L (winO pw out u.wait) out∧u'.M=u.M∧u'.D=u.D∧u'.ov=u.ov∧(u.ov=true→u'.I=.slice none 0 0∧u'.a=0)∧(u.ov=false→OwnB w' h0 u'.I (L-u.bit/8) (dropG g (u.bit/8))∧u'.a=((u.bit%8:Nat):Int))∧
  ∃A' c',u'.W=.slice A' (winO pw out u.wait).length c'∧NewB w' h0 A' (winO pw out u.wait).length
 bel:Below h0 w w'
theorem NewB.frA{w w':World}{B n p:Nat}{A:Option Addr}(h:NewB w B A n)(f:Fr (At p) w w'){cs:Array Value}{t:TypeId}(hb:BoxC w p cs t)(ht:(t==5)=false):NewB w' B A n:=fun h0=>by
 obtain⟨g,o,cur,h1,h2,h3⟩:=h h0
 refine⟨g,o,cur,h1,h2,(f.block g (Array.getElem?_eq_some_iff.1 h3).1 fun e=>?_).trans h3⟩
 have e':g=p:=e
 subst e'
 have h4:w.heap[g]?=some (.cells cs t (0,0)):=hb
 rw[h4]at h3
 injection h3 with h3;injection h3 with _ h5 _
 rw[h5]at ht;simp at ht
theorem urest_any(w:World)(h0 p:Nat)(u:UnV)(st:Option Blk13)(g:Nat→Nat)(L:Nat)(pw out:List Nat)(h:UnR w h0 p u st g L pw out)(ho:out.length≤131072)(il:Nat)(hil:il≤L):
  Calls Try.prog 16 #[.pointer (some ⟨p,0,none⟩),.int .i64 (il:Int)] w fun e w'=>RstD w h0 p u st g L pw out il e w':=by
 have hS:=usettle_any w h0 p u st g L pw out h ho
 obtain⟨PW,hPW⟩:∃P,P=winO pw out u.wait:=⟨_,rfl⟩
 have HS:=Lib.hid hS
 have hLL:=h.lL
 have hbit:=h.bit
 have HPW:=Lib.hid hPW
 by_cases hov:u.ov=true
 ·obtain⟨N,hN⟩:∃N:Int,N=max (((u.bit+7)/8:Nat)-(il:Int)) 0:=⟨_,rfl⟩
  obtain⟨q,hq⟩:∃q,q=(u.bit+7)/8:=⟨_,rfl⟩
  rw[←hq]at hN
  have HOV:=Lib.hid hov;have HN:=Lib.hid hN;have HQ:=Lib.hid hq
  have HBT0:Hid (u.bit≤8000000):=Lib.hid (by omega)
  have hil8:(il:Int)≤1000000:=by omega
  have hq8:(q:Int)≤1000001:=by omega
  have hcase:(q:Int)-(il:Int)<0∨¬((q:Int)-(il:Int)<0):=by omega
  clear hS h ho hPW hbit hov hN hq
  rcases hcase with hlt|hlt
  all_goals(
   go_enter Try.func16,Try.ntmps16
   go_wp2_with fail
   refine HS.out.mono ?_
   rintro e w2 ⟨rfl,⟨u2,r1,r2,r3,r4,r5,r6,r7,r8,A',c',r9,r10⟩,rb,rf⟩
   have c44:=r1.box.cov
   rw[r6,HOV.out]at c44
   have c2:=r1.box.cI
   have f2:=r1.box.free 2
   obtain⟨w3,hw3⟩:∃W,W=w2.setCell ⟨p,2,none⟩ (.slice none 0 0):=⟨_,rfl⟩
   have b3:=r1.box.sI (.slice none 0 0)
   rw[←hw3]at b3
   have c3:=b3.ca
   have f3:=b3.free 3
   obtain⟨w4,hw4⟩:∃W,W=w3.setCell ⟨p,3,none⟩ (.int .i64 0):=⟨_,rfl⟩
   have b4:=b3.sa 0
   rw[←hw4]at b4
   have F:Fr (At p) w2 w4:=by rw[hw4,hw3];exact(Fr.cell w2 p 2 _).trans (Fr.cell _ p 3 _)
   have h4:=r1.cells F b4 rfl rfl rfl rfl (r1.blk.cells r1.box r1.own F:BlkT w4 h0 u2 st) r1.bit r1.wait
   have c46:=h4.box.cbit
   obtain⟨bt,hbt⟩:∃b,b=u2.bit:=⟨_,rfl⟩
   have c46':w4.cell? ⟨p,46,none⟩=some (.int .i64 (bt:Int)):=by rw[hbt];exact c46
   have ebt:bt=u.bit:=hbt.trans r7
   have e1:((bt:Int)+7)/8=(q:Int):=by have:=HQ.out;omega
   have l1:(bt:Int)≤8000000:=by have:=HBT0.out;omega
   have HFIN:Hid (RstD w h0 p u st g L pw out il (.returned (.int .i64 N)) w4):=Lib.hid (by
    refine⟨by rw[if_pos HOV.out,HN.out,HQ.out],⟨_,h4,r2,r3,r6,fun _=>⟨rfl,rfl⟩,fun h=>(by rw[HOV.out]at h;cases h),A',c',r9,r10.frA F r1.box (by kernel_rfl)⟩,rb.trans (F.below (fun j hj=>by have hj':j=p:=hj;rw[hj'];exact r1.lo) r1.bel)⟩)
   have HW3:=Lib.hid hw3;have HW4:=Lib.hid hw4
   clear r1 r2 r3 r4 r5 r6 r7 r8 r9 r10 rb rf hw3 b3 hw4 b4 F h4 c46 hbt ebt
   go_wp2_with (first
    |(rw[←HW3.out])
    |(rw[←HW4.out])
    |fail)
   go_ret
   have hf:=HFIN.out
   have hn:=HN.out
   first
    |(rw[show N=0 by omega]at hf;exact hf)
    |(rw[show N=(q:Int)-(il:Int) by omega]at hf;exact hf))
 ·have hov':u.ov=false:=by simpa using hov
  obtain⟨s,hs⟩:∃s,s=u.bit/8:=⟨_,rfl⟩
  obtain⟨r,hr⟩:∃s,s=u.bit%8:=⟨_,rfl⟩
  have HOV:=Lib.hid hov';have HSS:=Lib.hid hs;have HRR:=Lib.hid hr
  have HBT0:Hid (u.bit≤8*L):=Lib.hid hbit
  have hL0:(L:Int)≤1000000:=by omega
  have hil0:(il:Int)≤(L:Int):=by omega
  clear hS h ho hPW hbit hov hov' hs hr
  go_enter Try.func16,Try.ntmps16
  go_wp2_with fail
  refine HS.out.mono ?_
  rintro e w2 ⟨rfl,⟨u2,r1,r2,r3,r4,r5,r6,r7,r8,A',c',r9,r10⟩,rb,rf⟩
  have c44:=r1.box.cov
  rw[r6,HOV.out]at c44
  obtain⟨Ab,cb,eb,hB⟩:=r1.b
  obtain⟨A2,hA2⟩:∃A2,(if cb=s then Ab else Ab.map (·.add s))=A2:=⟨_,rfl⟩
  obtain⟨bt,hbt⟩:∃b,b=u.bit:=⟨_,rfl⟩
  have hsL:s≤L:=by have:=HBT0.out;have:=HSS.out;omega
  have ELE:=Lib.hid hsL;have EA2:=Lib.hid hA2
  have CB:Hid (∀V,Below w2.heap.size w2 V→V.cell? ⟨p,45,none⟩=some (.slice Ab L cb)):=Lib.hid fun V hV=>by
   have q:=(r1.on hV).box.cb
   rw[eb]at q;exact q
  have CT:Hid (∀V,Below w2.heap.size w2 V→V.cell? ⟨p,46,none⟩=some (.int .i64 (bt:Int))):=Lib.hid fun V hV=>by
   have q:=(r1.on hV).box.cbit
   rw[r7,←hbt]at q;exact q
  have QUO:Hid (∀V:World,(binOp .quo 3 (.int .i64 (bt:Int)) (.int .i64 8)).run Try.prog V=.ok (.int .i64 (s:Int)) V):=Lib.hid fun V=>by
   have:=quo_nat Try.prog 3 bt 8 (by omega) (by have:=HBT0.out;omega) V
   rw[show bt/8=s by rw[hbt];exact HSS.out.symm]at this;exact this
  have REM:Hid (∀V:World,(binOp .rem 3 (.int .i64 (bt:Int)) (.int .i64 8)).run Try.prog V=.ok (.int .i64 (r:Int)) V):=Lib.hid fun V=>by
   have:=rem_nat Try.prog 3 .i64 bt 8 (by omega) V
   rw[show bt%8=r by rw[hbt];exact HRR.out.symm]at this;exact this
  have CL:Hid (∀V,Below w2.heap.size w2 V→Calls Try.prog 28 #[.slice A2 (L-s) (cb-s)] V fun e w'=>∃A' c',e=.returned (.slice A' (L-s) c')∧w'.ownsRow w2.heap.size 5 1 (.slice A' (L-s) c') (L-s) (bytesL (L-s) (dropG g s))∧Below V.heap.size V w'):=Lib.hid fun V hV=>by
   have hb9:ByR V V.heap.size Ab L cb g:=by
    obtain⟨Ab',cb',e',hB'⟩:=(r1.on hV).b
    rw[eb]at e';injection e' with e1 _ e2;rw[e1,e2];exact hB'.r
   have hb3:ByR V V.heap.size A2 (L-s) (cb-s) (dropG g s):=by
    rcases Ab with _|ad
    ·have hc0:=hb9.2.1 rfl
     have hL9:L=0:=by have:=hb9.2.2.1;omega
     have hs0:s=0:=by omega
     have:A2=none:=by rw[←hA2,hc0,hs0];rfl
     rw[this,hL9,hc0,hs0]
     exact ByR.nil _ _ _ (fun j=>hb9.1.1 _)
    ·have:=hb9.drop (p:=s) hsL (A2:=A2) (by rw[←hA2];rfl)
     exact this.ext (fun j=>hb9.1.1 _) fun j _=>by unfold dropG;rw[Nat.add_comm]
   exact(clone14_any V A2 (L-s) (cb-s) (dropG g s) hb3 (by omega)).mono fun e w' ⟨A',c',x1,x2,x3⟩=>⟨A',c',x1,ownsRow_lower x2 hV.size,x3⟩
  have HR1:=Lib.hid r1;have HR2:=Lib.hid r2;have HR3:=Lib.hid r3;have HR6:=Lib.hid r6;have HR7:=Lib.hid r7;have HR9:=Lib.hid r9;have HR10:=Lib.hid r10;have HRB:=Lib.hid rb;have HEB:=Lib.hid eb;have HBT:=Lib.hid hbt
  clear r1 r2 r3 r4 r5 r6 r7 r8 r9 r10 rb rf eb hB hA2 hbt
  go_wp2_with fail
  refine wp_region_tabg 21 [1,17] (tabT [fun v _=>v=.pointer (some ⟨p,0,none⟩),fun v _=>v=.pointer (some ⟨p,0,none⟩),fun v _=>v=.pointer (some ⟨p,0,none⟩),fun v _=>v=.pointer (some ⟨p,0,none⟩),fun v _=>v=.pointer (some ⟨p,45,none⟩),fun v _=>v=.slice Ab L cb,fun v _=>v=.pointer (some ⟨p,0,none⟩),fun v _=>v=.pointer (some ⟨p,0,none⟩),fun v _=>v=.pointer (some ⟨p,46,none⟩),fun v _=>v=.int .i64 (bt:Int),fun v _=>v=.int .i64 (s:Int),fun v _=>v=.slice A2 (L-s) (cb-s),fun v W=>∃A' c',v=.slice A' (L-s) c'∧W.ownsRow w2.heap.size 5 1 (.slice A' (L-s) c') (L-s) (bytesL (L-s) (dropG g s)),fun v _=>v=.pointer (some ⟨p,0,none⟩),fun v _=>v=.pointer (some ⟨p,0,none⟩),fun v _=>v=.pointer (some ⟨p,46,none⟩),fun v _=>v=.int .i64 (bt:Int),fun v _=>v=.int .i64 (r:Int),fun v _=>v=.pointer (some ⟨p,0,none⟩),fun v _=>v=.pointer (some ⟨p,0,none⟩),fun v _=>v=.pointer (some ⟨p,2,none⟩)]) w2 (Below.refl _ _) (by kernel_rfl) (by kernel_rfl) (List.forall_mem_cons.2 ⟨⟨_,_,rfl,rfl,rfl,(fun _ _ _ _ h=>h),fun aa wv hb ha hS=>⟨_,float_move _ rfl _ ((ha 0 (by kernel_rfl)).trans rfl),up_eq rfl⟩⟩,(List.forall_mem_cons.2 ⟨⟨_,_,rfl,rfl,rfl,(fun _ _ _ _ h=>h),fun aa wv hb ha hS=>⟨_,float_bin _ _ _ _ _ rfl _ _ (.int .i64 (r:Int)) (show aa.eval (.tmp 45)=.int .i64 (bt:Int)from(hS 16 45 (by kernel_rfl) rfl).here) rfl (eqg_no _ _ _ _ _ _ _ (by decide) (by decide)) REM.out,up_eq rfl⟩⟩,(fun _ h=>by cases h)⟩)⟩) ?_ ?_
  case refine_1=>
   simp only[List.take_succ_cons,List.take_zero]
   refine TabAll.cons (fun aa wv hb ha hS Kk Qq hK=>tab_move (tab_free rfl) _ rfl (up_eq ((ha 0 (by kernel_rfl)).trans rfl)) hK) ?_
   refine TabAll.cons (fun aa wv hb ha hS Kk Qq hK=>tab_move (tab_free rfl) _ rfl (up_eq ((ha 0 (by kernel_rfl)).trans rfl)) hK) ?_
   refine TabAll.cons (fun aa wv hb ha hS Kk Qq hK=>tab_move (tab_free rfl) _ rfl (up_eq ((ha 0 (by kernel_rfl)).trans rfl)) hK) ?_
   refine TabAll.cons (fun aa wv hb ha hS Kk Qq hK=>tab_nil14 (tab_free rfl) _ rfl ⟨p,0,none⟩ (show aa.eval (.tmp 31)=.pointer (some ⟨p,0,none⟩)from(hS 2 31 (by kernel_rfl) rfl).here) (up_eq rfl) hK) ?_
   refine TabAll.cons (fun aa wv hb ha hS Kk Qq hK=>tab_field (tab_free rfl) _ _ _ rfl _ (.pointer (some ⟨p,45,none⟩)) (show aa.eval (.tmp 32)=.pointer (some ⟨p,0,none⟩)from(hS 3 32 (by kernel_rfl) rfl).here) (by go_simp) (up_eq rfl) hK) ?_
   refine TabAll.cons (fun aa wv hb ha hS Kk Qq hK=>tab_load (tab_free rfl) _ _ rfl _ (.slice Ab L cb) (show aa.eval (.tmp 33)=.pointer (some ⟨p,45,none⟩)from(hS 4 33 (by kernel_rfl) rfl).here) (by have hc:=CB.out wv hb;go_simp) (up_eq rfl) hK) ?_
   refine TabAll.cons (fun aa wv hb ha hS Kk Qq hK=>tab_move (tab_free rfl) _ rfl (up_eq ((ha 0 (by kernel_rfl)).trans rfl)) hK) ?_
   refine TabAll.cons (fun aa wv hb ha hS Kk Qq hK=>tab_nil14 (tab_free rfl) _ rfl ⟨p,0,none⟩ (show aa.eval (.tmp 35)=.pointer (some ⟨p,0,none⟩)from(hS 6 35 (by kernel_rfl) rfl).here) (up_eq rfl) hK) ?_
   refine TabAll.cons (fun aa wv hb ha hS Kk Qq hK=>tab_field (tab_free rfl) _ _ _ rfl _ (.pointer (some ⟨p,46,none⟩)) (show aa.eval (.tmp 36)=.pointer (some ⟨p,0,none⟩)from(hS 7 36 (by kernel_rfl) rfl).here) (by go_simp) (up_eq rfl) hK) ?_
   refine TabAll.cons (fun aa wv hb ha hS Kk Qq hK=>tab_load (tab_free rfl) _ _ rfl _ (.int .i64 (bt:Int)) (show aa.eval (.tmp 37)=.pointer (some ⟨p,46,none⟩)from(hS 8 37 (by kernel_rfl) rfl).here) (by have hc:=CT.out wv hb;go_simp) (up_eq rfl) hK) ?_
   refine TabAll.cons (fun aa wv hb ha hS Kk Qq hK=>tab_bin (tab_free rfl) _ _ _ _ _ rfl _ _ (.int .i64 (s:Int)) (show aa.eval (.tmp 38)=.int .i64 (bt:Int)from(hS 9 38 (by kernel_rfl) rfl).here) rfl (eqg_no _ _ _ _ _ _ _ (by decide) (by decide) _) (QUO.out wv) (up_eq rfl) hK) ?_
   refine TabAll.cons (fun aa wv hb ha hS Kk Qq hK=>tab_slice (tab_free rfl) _ _ _ _ _ rfl (.slice Ab L cb) (.slice A2 (L-s) (cb-s)) (some (.int .i64 (s:Int))) none none (show aa.eval (.tmp 34)=.slice Ab L cb from(hS 5 34 (by kernel_rfl) rfl).here) (by have e:=(show aa.eval (.tmp 39)=.int .i64 (s:Int)from(hS 10 39 (by kernel_rfl) rfl).here);simp[e]) rfl rfl (run_from Ab A2 L cb s ELE.out EA2.out wv) (up_eq rfl) hK) ?_
   refine TabAll.cons (fun aa wv hb ha hS Kk Qq hK=>tab_call (tab_free rfl) 28 _ _ rfl (enters_of Try.func28 (by kernel_rfl) rfl) #[.slice A2 (L-s) (cb-s)] (by simp[(show aa.eval (.tmp 40)=.slice A2 (L-s) (cb-s)from(hS 11 40 (by kernel_rfl) rfl).here)]) (CL.out wv hb) (fun ee w' ⟨A',c',h1,h2,h5⟩=>⟨_,h1,h5,fun W hW=>⟨A',c',rfl,own_keep h2 hW⟩⟩) hK) ?_
   refine TabAll.cons (fun aa wv hb ha hS Kk Qq hK=>tab_move (tab_free rfl) _ rfl (up_eq ((ha 0 (by kernel_rfl)).trans rfl)) hK) ?_
   refine TabAll.cons (fun aa wv hb ha hS Kk Qq hK=>tab_nil14 (tab_free rfl) _ rfl ⟨p,0,none⟩ (show aa.eval (.tmp 42)=.pointer (some ⟨p,0,none⟩)from(hS 13 42 (by kernel_rfl) rfl).here) (up_eq rfl) hK) ?_
   refine TabAll.cons (fun aa wv hb ha hS Kk Qq hK=>tab_field (tab_free rfl) _ _ _ rfl _ (.pointer (some ⟨p,46,none⟩)) (show aa.eval (.tmp 43)=.pointer (some ⟨p,0,none⟩)from(hS 14 43 (by kernel_rfl) rfl).here) (by go_simp) (up_eq rfl) hK) ?_
   refine TabAll.cons (fun aa wv hb ha hS Kk Qq hK=>tab_load (tab_free rfl) _ _ rfl _ (.int .i64 (bt:Int)) (show aa.eval (.tmp 44)=.pointer (some ⟨p,46,none⟩)from(hS 15 44 (by kernel_rfl) rfl).here) (by have hc:=CT.out wv hb;go_simp) (up_eq rfl) hK) ?_
   refine TabAll.cons (fun aa wv hb ha hS Kk Qq hK=>tab_bin (tab_free rfl) _ _ _ _ _ rfl _ _ (.int .i64 (r:Int)) (show aa.eval (.tmp 45)=.int .i64 (bt:Int)from(hS 16 45 (by kernel_rfl) rfl).here) rfl (eqg_no _ _ _ _ _ _ _ (by decide) (by decide) _) (REM.out wv) (up_eq rfl) hK) ?_
   refine TabAll.cons (fun aa wv hb ha hS Kk Qq hK=>tab_nil14 (tab_free rfl) _ rfl ⟨p,0,none⟩ (show aa.eval (.tmp 29)=.pointer (some ⟨p,0,none⟩)from(hS 0 29 (by kernel_rfl) rfl).here) (up_eq rfl) hK) ?_
   refine TabAll.cons (fun aa wv hb ha hS Kk Qq hK=>tab_field (tab_free rfl) _ _ _ rfl _ (.pointer (some ⟨p,0,none⟩)) (show aa.eval (.tmp 47)=.pointer (some ⟨p,0,none⟩)from(hS 18 47 (by kernel_rfl) rfl).here) (by go_simp) (up_eq rfl) hK) ?_
   refine TabAll.cons (fun aa wv hb ha hS Kk Qq hK=>tab_field (tab_free rfl) _ _ _ rfl _ (.pointer (some ⟨p,2,none⟩)) (show aa.eval (.tmp 48)=.pointer (some ⟨p,0,none⟩)from(hS 19 48 (by kernel_rfl) rfl).here) (by go_simp) (up_eq rfl) hK) ?_
   exact TabAll.nil
  intro vals w5 hb hv
  obtain⟨Ac,cc,e41,o41⟩:=(hv 12 41 rfl).here
  have e46:vals 46=.int .i64 (r:Int):=(hv 17 46 rfl).here
  have e49:vals 49=.pointer (some ⟨p,2,none⟩):=(hv 20 49 rfl).here
  have e30:vals 30=.pointer (some ⟨p,0,none⟩):=(hv 1 30 rfl).here
  have h5:=HR1.out.on hb
  have k2:=h5.box.cI
  have f2:=h5.box.free 2
  obtain⟨w6,hw6⟩:∃W,W=w5.setCell ⟨p,2,none⟩ (.slice Ac (L-s) cc):=⟨_,rfl⟩
  have b6:=h5.box.sI (.slice Ac (L-s) cc)
  rw[←hw6]at b6
  have k3:=b6.ca
  have f3:=b6.free 3
  obtain⟨w7,hw7⟩:∃W,W=w6.setCell ⟨p,3,none⟩ (.int .i64 (r:Int)):=⟨_,rfl⟩
  have b7:=b6.sa (r:Int)
  rw[←hw7]at b7
  have F:Fr (At p) w5 w7:=by rw[hw7,hw6];exact(Fr.cell w5 p 2 _).trans (Fr.cell _ p 3 _)
  have h7:=h5.cells F b7 rfl rfl rfl rfl (h5.blk.cells h5.box h5.own F:BlkT w7 h0 u2 st) h5.bit h5.wait
  have o7:=own_blk o41 (w':=w7) fun j hj=>F.block j (own_blk_lt o41 j hj).2 fun e=>by
   have e':j=p:=e
   have:=(own_blk_lt o41 j hj).1
   have:=HR1.out.lt p (.inl rfl)
   omega
  have n7:=(HR10.out.below hb (Nat.le_refl _)).frA F h5.box (by kernel_rfl)
  have hbel:=HR1.out.bel
  have HFIN:Hid (RstD w h0 p u st g L pw out il (.returned (.int .i64 ((L:Int)-(il:Int)))) w7):=Lib.hid (by
   refine⟨by rw[if_neg (by rw[HOV.out];decide)],⟨_,h7,HR2.out,HR3.out,HR6.out,fun h=>(by rw[HOV.out]at h;cases h),fun _=>⟨?_,?_⟩,A',c',HR9.out,n7⟩,(HRB.out.trans (hb.mono hbel)).trans (F.below (fun j hj=>by have hj':j=p:=hj;rw[hj'];exact h5.lo) h5.bel)⟩
   ·rw[←HSS.out]
    exact⟨Ac,cc,rfl,ownsRow_lower o7 hbel⟩
   ·rw[←HRR.out])
  have c45:=h7.box.cb
  have c45':w7.cell? ⟨p,45,none⟩=some (.slice Ab L cb):=by rw[←HEB.out];exact c45
  have HW6:=Lib.hid hw6;have HW7:=Lib.hid hw7
  clear h5 hw6 b6 hw7 b7 F h7 o7 n7 hbel c45 o41 hb hv
  simp only[List.take_succ_cons,List.take_zero,List.drop_succ_cons,List.drop_zero,List.map_cons,List.map_nil,putL,Act.put,List.setIfInBounds_toArray,List.set_cons_zero,List.set_cons_succ,e41,e46,e49,e30]
  clear e41 e46 e49 e30
  go_wp2_with (first
   |(rw[←HW6.out])
   |(rw[←HW7.out])
   |fail)
  go_ret
  exact HFIN.out
end Go.Proofs.Ytcmpmighjglnpaa
