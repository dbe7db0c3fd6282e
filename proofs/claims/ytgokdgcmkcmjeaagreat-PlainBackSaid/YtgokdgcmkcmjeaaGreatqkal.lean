/-
  Words and walks.
-/
import Derived.Test.YtgokdgcmkcmjeaaGreatqkaa
import Derived.Test.YtgokdgcmkcmjeaaGreatqkah
import Derived.Test.YtgokdgcmkcmjeaaGreatqkak
set_option maxRecDepth 100000
set_option maxHeartbeats 16000000
namespace Go.Proofs.YtgokdgcmkcmjeaaGreat
open Value renaming slice → af
open Go renaming World → au, Value → ay, Program → aA, Oper → aB, wpList_store_rowTo → aD, setRow_other → aM
open Go.RowKit renaming Below → aS
open _root_.Go.Proofs.Tryz
open Go.RowKit
def Ce(l:List aB)(i0 n:Nat):Bool:=(List.range n).all fun i=>i==i0||(List.range (n+1)).any fun j=>decide (i<j)&&j !=i0&&Region.waitsFor .any l.toArray j i
def wj(l:List aB)(i0:Nat):Bool:=(List.range l.length).all fun j=>j==i0||Region.waitsFor .any l.toArray i0 j||Region.waitsFor .any l.toArray j i0||match l[i0]?,l[j]? with
 |some x,some y=>x.apart l.toArray y
 |_,_=>false
theorem Ry{l:List aB}{i0 n:Nat}{fj:Array Bool}(hs:Ce l i0 n=true)(hc:Region.chainB .any l.toArray n=true)(hn:n<l.length)(inv:HeadInv .any l.toArray n fj){i:Nat}(hi:i<n)(av:i≠i0)(hu:fj.getD i true=false):
  ∀t,n<=t->t∉Region.ready .any l.toArray fj:=by
 have a1:fj.size=l.length:=by rw[inv.size];simp
 have key:∀(d i:Nat),d=n-i->i<=n->i≠i0->fj.getD i true=false->n∈Region.ready .any l.toArray fj->i=n:=by
  intro d;induction d using Nat.strongRecOn with
  |_ d ih=>
   intro i hd hi av hu hr;rcases Nat.eq_or_lt_of_le hi with e|hi
   ·exact e
   ·exfalso;have h1:=List.all_eq_true.1 hs i (List.mem_range.2 hi);simp only[Bool.or_eq_true,beq_iff_eq]at h1;rcases h1 with h1|h1
    ·exact av h1
    ·obtain⟨j,hj,aT⟩:=List.any_eq_true.1 h1;simp only[Bool.and_eq_true,decide_eq_true_eq,bne_iff_ne,ne_eq]at aT;obtain⟨oj,aU,e,he,hb,al⟩:=Region.waitsFor_spec aT.2;have aW:j<=n:=by have:=List.mem_range.1 hj;omega
     cases hl:fj.getD j false with
     |true=>
      have h2:=inv.closed j oj aU hl e he hb;rw[al,getD_both hu]at h2;cases h2
     |false=>
      have aX:=ih (n-j) (by omega) j rfl aW aT.1.2 (getD_in (by omega) hl) hr;subst aX;obtain⟨_,ot,ad,ah⟩:=mem_ready.1 hr;rw[aU]at ad;cases ad;have h2:=ah e he hb;rw[al,getD_both hu]at h2;cases h2
 intro t ht hr
 by_cases aY:t=n
 ·subst aY;have:=key (t-i) i rfl (by omega) av hu hr;omega
 ·obtain⟨_,ot,ad,ah⟩:=mem_ready.1 hr;have aZ:t<l.length:=by have:=(Array.getElem?_eq_some_iff.1 ad).1;simpa using this
  have h1:=List.all_eq_true.1 hc t (List.mem_range.2 (by simpa using aZ));simp only[Bool.or_eq_true,decide_eq_true_eq]at h1;rcases h1 with h1|h1
  ·omega
  ·obtain⟨o',aV,e,he,hb,al⟩:=Region.waitsFor_spec h1;rw[ad]at aV;cases aV;have h2:=ah e he hb;rw[al,getD_both (inv.tail (t-1) (by omega) (by simp;omega))]at h2;cases h2
theorem RA{P:aA}{Q:Exit->Act->au->Prop}{a0:Act}{U:au}{l:List aB}{T:Nat->ay->au->Prop}{n i0:Nat}{o0:aB}(aZ:l[i0]?=some o0)(a5:i0<n)(hn:n<l.length)(hs:Ce l i0 n=true)(bC:wj l i0=true)(bl:Region.noSelect l.toArray=true)(bD:o0.guard=none)(d0:Tmp)(a1:o0.dst=some d0)(bE:∀v c a w,Q (.panic c) (a.put o0.dst v) w->Q (.panic c) a w)
  (bF:∀(a:Act) (w:au),aS U.heap.size U w->(∀s,nG l s=true->a.eval (.tmp s)=a0.eval (.tmp s))->(∀j d,Region.waitsFor .any l.toArray i0 j=true->(l[j]?).bind (·.dst)=some d->Up (T j) (a.eval (.tmp d)) w)->∃v,(∀w',(execOp a.eval o0).run P w'=.ok (.value v) w')/\Up (T i0) v w)
   (hc:Region.chainB .any l.toArray n=true)
  (bn:Region.seqB .any l.toArray (l.length-n) n (jW n (l.length-n))=true) (hB:Vs l a0.tmps.size=true) (a7:fk P l T a0 U 0 (l.take n))
  (bq:∀fj a w,rG l T a0 U fj a w->(∀i,i<n->fj.getD i false=true)->(∀i,n<=i->i<l.length->fj.getD i true=false)->wpList P l.toArray Q (l.drop n) a w):
  ∀(f:Nat) (fj:Array Bool) (a:Act) (w:au),((List.range n).filter fun i=> !fj.getD i false).length=f->rG l T a0 U fj a w->HeadInv .any l.toArray n fj->wpAny P .any l.toArray Q (f+(l.length-n)) fj a w:=by
 have br:=hB
 simp only[Vs,Bool.and_eq_true,decide_eq_true_eq]at br
 obtain⟨⟨bt,bu⟩,a6⟩:=br
 intro f
 induction f with
 |zero=>
  intro fj a w hf inv hi;have bx:∀i,i<n->fj.getD i false=true:=fun i hi=>by
   have h0:=List.length_eq_zero_iff.1 hf;have h1:=List.filter_eq_nil_iff.1 h0 i (List.mem_range.2 hi);simpa using h1
  have hk:=bq fj a w inv bx (fun i h1 h2=>hi.tail i h1 (by simpa using h2));have he:=xc (n:=n) (g:=l.length-n) (fj:=fj) (by rw[inv.size];omega) (fun i h=>by
   have h1:=bx i h;cases h2:fj.getD i true with
   |true=>rfl
   |false=>rw[getD_both h2]at h1;cases h1) (fun t ht bU=>hi.tail t ht (by simp;omega))
  subst he;have h3:=wpAny_of_seq (P:=P) (md:=.any) (Q':=Q) (l.drop n) n (jW n (l.length-n)) a w (fun j=>by simp[List.getElem?_drop]) (by rw[List.length_drop];exact bn) hk;rw[List.length_drop]at h3;rw[Nat.zero_add];exact h3
 |succ f ih=>
  intro fj a w hf inv hi;rw[show f+1+(l.length-n)=(f+(l.length-n))+1 by omega];obtain⟨x,bG,a8⟩:∃x,x<n/\fj.getD x false=false:=by
   have:0<((List.range n).filter fun i=> !fj.getD i false).length:=by omega
   obtain⟨x,hx⟩:=List.exists_mem_of_length_pos this;obtain⟨h1,h2⟩:=List.mem_filter.1 hx;exact⟨x,List.mem_range.1 h1,by simpa using h2⟩
  by_cases a2:i0∈Region.ready .any l.toArray fj
  ·obtain⟨h0,o,ho,ah⟩:=mem_ready.1 a2;have ad:l[i0]?=some o:=by simpa using ho
   have bH:o=o0:=by rw[aZ]at ad;exact(Option.some.inj ad).symm
   subst bH;have aW:i0<l.length:=(List.getElem?_eq_some_iff.1 ad).1;have aU:∀s,nG l s=true->a.eval (.tmp s)=a0.eval (.tmp s):=fun s hs=>by
    show a.tmps.getD s undef=a0.tmps.getD s undef
    rw[Array.getD_eq_getD_getElem?,Array.getD_eq_getD_getElem?,inv.off s (fun _ _ _ hd=>sQ hs hd)]
   have aT:∀j d,Region.waitsFor .any l.toArray i0 j=true->(l[j]?).bind (·.dst)=some d->Up (T j) (a.eval (.tmp d)) w:=fun j d hw hd=>by
    obtain⟨ok,al,e,he,hb,aV⟩:=Region.waitsFor_spec hw;rw[ho]at al;cases al;exact inv.told j d (by have:=ah e he hb;rwa[aV]at this) hd
   obtain⟨v,bI,bJ⟩:=bF a w inv.below aU aT;have aX:d0<a.tmps.size:=by
    have h1:=List.all_eq_true.1 bu o (List.mem_of_getElem? ad);simp only[a1,decide_eq_true_eq]at h1;rw[inv.tmps];exact h1
   refine wpAny_first (oi:=o) (v:=v) ho (Region.noSelect_spec bl) (bE v) (f+(l.length-n)) fj a w (fun j oj hj aY bK a9=>?_) a2 (.inl ⟨by simp[Region.wanted,bD],bI⟩) ?_
   ·have bL:j<l.length:=by have:=(Array.getElem?_eq_some_iff.1 hj).1;simpa using this
    have h1:=List.all_eq_true.1 bC j (List.mem_range.2 bL);have bM:l[j]?=some oj:=by simpa using hj
    simp only[aZ,bM,Bool.or_eq_true,beq_iff_eq]at h1;rcases h1 with((h1|h1)|h1)|h1
    ·exact absurd h1 aY
    ·obtain⟨ok,al,e,he,hb,aV⟩:=Region.waitsFor_spec h1;rw[ho]at al;cases al;have h2:=ah e he hb;rw[aV,getD_both bK]at h2;cases h2
    ·obtain⟨ok,al,e,he,hb,aV⟩:=Region.waitsFor_spec h1;rw[hj]at al;cases al;exact absurd aV (a9 e he hb)
    ·exact h1
   ·refine ih _ _ _ ?_ ⟨by simp[inv.size],?_,?_,inv.below,fun s hs=>?_,fun j d hl hd=>?_⟩ (hi.set a2 a5)
    ·have bf:((List.range n).filter fun i=> !(fj.setIfInBounds i0 true).getD i false)=((List.range n).filter fun i=> !fj.getD i false).erase i0:=by
      rw[List.Nodup.erase_eq_filter (List.nodup_range.filter _),List.filter_filter];apply List.filter_congr;intro x hx;by_cases e:x=i0
      ·subst e;have:x<fj.size:=by rw[inv.size];exact aW
       simp[this]
      ·rw[getD_set_ne false (Ne.symm e)];simp[e]
     rw[bf,List.length_erase_of_mem (List.mem_filter.2 ⟨List.mem_range.2 a5,by rw[getD_both h0];rfl⟩),hf];rfl
    ·unfold Act.put;cases o.dst<;>simp[inv.tmps]
    ·unfold Act.put;cases o.dst<;>exact inv.defers
    ·rw[<-inv.off s (fun j d hl hd=>hs j d (getD_set_true hl) hd),a1];have e:d0≠s:=hs i0 d0 (by have:i0<fj.size:=(by rw[inv.size];exact aW);simp[this]) (by rw[ad];simpa using a1);simp[Act.put,Array.getElem?_setIfInBounds_ne e]
    ·by_cases e:j=i0
     ·subst e;rw[ad]at hd;have av:o.dst=some d:=by simpa using hd
      have bN:d=d0:=by rw[a1]at av;exact(Option.some.inj av).symm
      subst bN;have he:(a.put o.dst v).eval (.tmp d)=v:=by rw[av];simp[Act.put,Act.eval,aX]
      rw[he];exact bJ
     ·rw[getD_set_ne false (Ne.symm e)]at hl;have h1:=inv.told j d hl hd;have he:(a.put o.dst v).eval (.tmp d)=a.eval (.tmp d):=Act.eval_put fun d' av hx=>by
       cases hx
       cases hj:l[j]? with
       |none=>rw[hj]at hd;cases hd
       |some y=>
        rw[hj]at hd;exact e (sR bt hj ad (by simpa using hd) av)
      rw[he];exact h1
  obtain⟨y,bO,bz,bP⟩:∃y,y<n/\y≠i0/\fj.getD y false=false:=by
   by_cases e:x=i0
   ·subst e;have hex:∃e,e∈o0.after/\Region.binds .any e=true/\fj.getD e.on false≠true:=by
     apply Classical.byContradiction;intro a9;exact a2 (mem_ready.2 ⟨getD_in (by rw[inv.size];omega) a8,o0,by simpa using aZ,fun e he hb=>Classical.byContradiction fun aY=>a9 ⟨e,he,hb,aY⟩⟩)
    obtain⟨e,he,hb,aY⟩:=hex;have h1:=List.all_eq_true.1 a6 x (List.mem_range.2 (by omega));simp only[aZ]at h1;have h2:=Array.all_eq_true_iff_forall_mem.1 h1 e he;simp only[hb,Bool.not_true,Bool.false_or,decide_eq_true_eq]at h2;exact⟨e.on,by omega,by omega,by simpa using aY⟩
   ·exact⟨x,bG,e,a8⟩
  have bQ:fj.getD y true=false:=getD_in (by rw[inv.size];omega) bP;have a3:∀i,i∈Region.ready .any l.toArray fj->i<n:=fun i hr=>by
   rcases Nat.lt_or_ge i n with g|g
   ·exact g
   ·exact absurd hr (Ry hs hc hn hi bO bz bQ i g)
  refine⟨fun h0=>?_,fun k hk=>?_⟩
  ·exfalso;have bA:∀i,i<l.length->fj.getD i false=true:=fun i=>by
    induction i using Nat.strongRecOn with
    |_ i bR=>
     intro a4;cases hu:fj.getD i false with
     |true=>rfl
     |false=>
      exfalso;have h1:=List.all_eq_true.1 a6 i (List.mem_range.2 a4);have bS:l[i]?=some l[i]:=List.getElem?_eq_getElem a4;simp only[bS]at h1;have:i∈Region.ready .any l.toArray fj:=mem_ready.2 ⟨getD_in (by rw[inv.size];exact a4) hu,l[i],by simp[a4],fun e he hb=>by
       have h2:=Array.all_eq_true_iff_forall_mem.1 h1 e he;simp only[hb,Bool.not_true,Bool.false_or,decide_eq_true_eq]at h2;exact bR e.on h2 (by omega)⟩
      rw[h0]at this;cases this
   have:=bA x (by omega);rw[a8]at this;cases this
  ·have bg:=a3 k hk;obtain⟨h0,o,ho,ah⟩:=mem_ready.1 hk;have ad:l[k]?=some o:=by simpa using ho
   have aW:k<l.length:=(List.getElem?_eq_some_iff.1 ad).1;have bT:uh P l T a0 U k o:=by
    have:=a7.get (j:=k) (o:=o) (by rw[List.getElem?_take_of_lt bg];exact ad);rwa[Nat.zero_add]at this
   have aU:∀s,nG l s=true->a.eval (.tmp s)=a0.eval (.tmp s):=fun s hs=>by
    show a.tmps.getD s undef=a0.tmps.getD s undef
    rw[Array.getD_eq_getD_getElem?,Array.getD_eq_getD_getElem?,inv.off s (fun _ _ _ hd=>sQ hs hd)]
   have aT:∀j d,Region.waitsFor .any l.toArray k j=true->(l[j]?).bind (·.dst)=some d->Up (T j) (a.eval (.tmp d)) w:=fun j d hw hd=>by
    obtain⟨ok,al,e,he,hb,aV⟩:=Region.waitsFor_spec hw;rw[ho]at al;cases al;exact inv.told j d (by have:=ah e he hb;rwa[aV]at this) hd
   have aX:∀d,o.dst=some d->d<a.tmps.size:=fun d hd=>by
    have h1:=List.all_eq_true.1 bu o (List.mem_of_getElem? ad);simp only[hd,decide_eq_true_eq]at h1;rw[inv.tmps];exact h1
   have bj:=bT a w inv.below aU aT (wpAny P .any l.toArray Q (f+(l.length-n)) (fj.setIfInBounds k true)) Q (fun v w' hb hv=>by
    refine ih _ _ _ ?_ ⟨by simp[inv.size],?_,?_,inv.below.trans (hb.mono inv.below.size),fun s hs=>?_,fun j d hl hd=>?_⟩ (hi.set hk bg)
    ·have bf:((List.range n).filter fun i=> !(fj.setIfInBounds k true).getD i false)=((List.range n).filter fun i=> !fj.getD i false).erase k:=by
      rw[List.Nodup.erase_eq_filter (List.nodup_range.filter _),List.filter_filter];apply List.filter_congr;intro x hx;by_cases e:x=k
      ·subst e;have:x<fj.size:=by rw[inv.size];exact aW
       simp[this]
      ·rw[getD_set_ne false (Ne.symm e)];simp[e]
     rw[bf,List.length_erase_of_mem (List.mem_filter.2 ⟨List.mem_range.2 bg,by rw[getD_both h0];rfl⟩),hf];rfl
    ·unfold Act.put;cases o.dst<;>simp[inv.tmps]
    ·unfold Act.put;cases o.dst<;>exact inv.defers
    ·rw[<-inv.off s (fun j d hl hd=>hs j d (getD_set_true hl) hd)];unfold Act.put;cases hd:o.dst with
     |none=>rfl
     |some d=>
      have e:d≠s:=hs k d (by have:k<fj.size:=(by rw[inv.size];exact aW);simp[this]) (by rw[ad];simpa using hd);simp[Array.getElem?_setIfInBounds_ne e]
    ·by_cases e:j=k
     ·subst e;rw[ad]at hd;have av:o.dst=some d:=by simpa using hd
      have bB:=aX d av;have he:(a.put o.dst v).eval (.tmp d)=v:=by rw[av];simp[Act.put,Act.eval,bB]
      rw[he];exact hv
     ·rw[getD_set_ne false (Ne.symm e)]at hl;have h1:=inv.told j d hl hd;have he:(a.put o.dst v).eval (.tmp d)=a.eval (.tmp d):=Act.eval_put fun d' av hx=>by
       cases hx
       cases hj:l[j]? with
       |none=>rw[hj]at hd;cases hd
       |some y=>
        rw[hj]at hd;exact e (sR bt hj ad (by simpa using hd) av)
      rw[he];exact h1.on hb)
   unfold wpOp;simp only[ho];split at bj
   ·rename_i hw;rw[if_pos hw];exact .inl bj
   ·rename_i hw;rw[if_neg hw];exact bj
theorem RC{P:aA}{o:aB}{a:Act}(x:Operand)(i:Nat)(ho:o.op=.extract x i)(u v:ay)(hx:a.eval x=u)(hr:∀w,(Instr.extract u i).run P w=.ok v w):∀w',(execOp a.eval o).run P w'=.ok (.value v) w':=fun w'=>by
 unfold execOp;simp only[ho,hx,Sem.run_bind,hr w',Result.andThen_ok];rfl
def IN(l:List aB)(i0 n m:Nat):Bool:=decide (i0<n)&&wj l i0&&Region.noSelect l.toArray&&decide (n<l.length)&&Ce l i0 n&&Region.chainB .any l.toArray n&&Region.seqB .any l.toArray (l.length-n) n (jW n (l.length-n))&&Vs l m
theorem RD{P:aA}{id:Nat}{Q:Exit->Act->au->Prop}{a0:Act}{w0:au}{l:List aB}(n i0:Nat)(o0:aB)(aX:l[i0]?=some o0)(aY:o0.guard=none)(d0:Tmp)(aZ:o0.dst=some d0)(T:Nat->ay->au->Prop)(U:au)(hU:aS U.heap.size U w0)(hm:P.follows .mixedOrders=true)(hB:IN l i0 n a0.tmps.size=true)(a1:∀v c a w,Q (.panic c) (a.put o0.dst v) w->Q (.panic c) a w)
  (a2:∀(a:Act) (w:au),aS U.heap.size U w->(∀s,nG l s=true->a.eval (.tmp s)=a0.eval (.tmp s))->(∀j d,Region.waitsFor .any l.toArray i0 j=true->(l[j]?).bind (·.dst)=some d->Up (T j) (a.eval (.tmp d)) w)->∃v,(∀w',(execOp a.eval o0).run P w'=.ok (.value v) w')/\Up (T i0) v w)
  (ad:fk P l T a0 U 0 (l.take n))
  (al:∀(vals:Tmp->ay) (w:au),aS U.heap.size U w->(∀j d,((l.take n)[j]?).bind (·.dst)=some d->Up (T j) (vals d) w)->wpList P l.toArray Q (l.drop n) (U0 ((l.take n).map (·.dst)) vals a0) w):(Code.region id l.toArray true).wp P Q a0 w0:=by
 simp only[IN,Bool.and_eq_true,decide_eq_true_eq]at hB
 obtain⟨⟨⟨⟨⟨⟨⟨av,a3⟩,aT⟩,hn⟩,hs⟩,hc⟩,aU⟩,hB⟩:=hB
 refine wp_region_any hm ?_
 have ah:∀i,(Array.replicate l.toArray.size false).getD i false=false:=fun i=>getD_replicate_false _ _
 have hinv:HeadInv .any l.toArray n (Array.replicate l.toArray.size false):=⟨by simp,(fun j oj _ hl=>by rw[ah]at hl;cases hl),(fun t _ ht=>by simp at ht;simp[ht])⟩
 have key:=RA (P:=P) (Q:=Q) (T:=T) (U:=U) aX av hn hs a3 aT aY d0 aZ a1 a2 hc aU hB ad (fun fj a w inv a4 a5=>by
  have ha:a=U0 ((l.take n).map (·.dst)) (fun d=>a.eval (.tmp d)) a0:=by
   have aV:=hB;simp only[Vs,Bool.and_eq_true,decide_eq_true_eq]at aV;have ht:a.tmps=(U0 ((l.take n).map (·.dst)) (fun d=>a.eval (.tmp d)) a0).tmps:=by
    apply Array.ext_getElem?;intro s;by_cases hs:some s∈(l.take n).map (·.dst)
    ·obtain⟨o,ho,hd⟩:=List.mem_map.1 hs;have h1:=List.all_eq_true.1 aV.1.2 o (List.mem_of_mem_take ho);simp only[hd,decide_eq_true_eq]at h1;rw[sO _ _ _ s (.inl hs) h1];have h2:s<a.tmps.size:=by rw[inv.tmps];exact h1
     simp[Act.eval,h2]
    ·rw[sP _ _ _ s hs];refine inv.off s (fun j d hl hd e=>hs ?_);cases hj:l[j]? with
     |none=>rw[hj]at hd;cases hd
     |some y=>
      have a6:j<l.length:=(List.getElem?_eq_some_iff.1 hj).1;have a7:j<n:=by
       rcases Nat.lt_or_ge j n with g|g
       ·exact g
       ·have:=getD_both (a5 j g a6);rw[hl]at this;cases this
      rw[hj]at hd;exact List.mem_map.2 ⟨y,List.mem_of_getElem? (i:=j) (by rw[List.getElem?_take_of_lt a7];exact hj),by rw[<-e];simpa using hd⟩
   have aW:a.defers=(U0 ((l.take n).map (·.dst)) (fun d=>a.eval (.tmp d)) a0).defers:=by rw[sN];exact inv.defers
   cases a with
   |mk t df=>
    generalize hp:U0 ((l.take n).map (·.dst)) (fun d=>(Act.mk t df).eval (.tmp d)) a0=p at*;cases p with
    |mk t2 a8=>simp only at ht aW;rw[ht,aW]
  rw[ha];refine al _ w inv.below fun j d hd=>?_
  rcases Nat.lt_or_ge j n with g|g
  ·rw[List.getElem?_take_of_lt g]at hd;exact inv.told j d (a4 j g) hd
  ·rw[List.getElem?_eq_none (by rw[List.length_take];omega)]at hd;cases hd) n (Array.replicate l.toArray.size false) a0 w0.drew (by rw[List.filter_eq_self.2 (fun i _=>by rw[ah];rfl)];simp) ⟨by simp,rfl,rfl,hU.drew,fun _ _=>rfl,fun j d h _=>by rw[ah]at h;cases h⟩ hinv
 rw[show n+(l.length-n)=l.toArray.size by simp;omega]at key
 exact key
theorem kf{P:aA}{Q:Exit->Act->au->Prop}{l:List aB}(i:Nat){o:aB}(v:ay)(aT:Region.noSelect l.toArray=true)(aW:wj l i=true)(ho:l[i]?=some o)(hg:o.guard=none)(d:Tmp)(hd:o.dst=some d){fuel:Nat}{fj:Array Bool}{a:Act}{w:au}
  (hQ:∀c a w,Q (.panic c) (a.put (some d) v) w->Q (.panic c) a w) (hr:(Region.ready .any l.toArray fj).contains i=true) (hv:∀w',(execOp a.eval o).run P w'=.ok (.value v) w')
  (h:wpAny P .any l.toArray Q fuel (fj.setIfInBounds i true) (a.put (some d) v) w):wpAny P .any l.toArray Q (fuel+1) fj a w:=by
 rw[<-hd]at h hQ
 have aU:i∈Region.ready .any l.toArray fj:=by simpa using hr
 obtain⟨a3,oi,aV,ah⟩:=mem_ready.1 aU
 have al:l.toArray[i]?=some o:=by simpa using ho
 rw[al]at aV;cases aV
 refine wpAny_first (oi:=o) (v:=v) al (Region.noSelect_spec aT) hQ fuel fj a w (fun j oj hj aX aY aZ=>?_) aU (.inl ⟨by simp[Region.wanted,hg],hv⟩) h
 have a1:j<l.length:=by have:=(Array.getElem?_eq_some_iff.1 hj).1;simpa using this
 have h1:=List.all_eq_true.1 aW j (List.mem_range.2 a1)
 have a2:l[j]?=some oj:=by simpa using hj
 simp only[ho,a2,Bool.or_eq_true,beq_iff_eq]at h1
 rcases h1 with((h1|h1)|h1)|h1
 ·exact absurd h1 aX
 ·obtain⟨ok,ad,e,he,hb,av⟩:=Region.waitsFor_spec h1;rw[al]at ad;cases ad;have h2:=ah e he hb;rw[av,getD_both aY]at h2;cases h2
 ·obtain⟨ok,ad,e,he,hb,av⟩:=Region.waitsFor_spec h1;rw[hj]at ad;cases ad;exact absurd av (aZ e he hb)
 ·exact h1
theorem RE(w:au)(p:Nat)(A:Option Addr)(l c:Nat)(s:Rz)(h:fx w p A l c s)(F1 F2:Nat->Nat)(h1:∀j,F1 j<256)(h2:∀j,F2 j<256)
  (aY:∀w:au,Calls prog 87 #[] w fun e w'=>∃A1 c1 A2 c2,e=.returned (.tuple #[af A1 288 c1,af A2 32 c2])/\
   w'.ownsRow w.heap.size 5 1 (af A1 288 c1) 288 (ft 288 F1)/\w'.ownsRow w.heap.size 5 1 (af A2 32 c2) 32 (ft 32 F2)/\aS w.heap.size w w'):
  Calls prog 54 #[.pointer (some ⟨p,0,none⟩)] w fun e w'=>∃u1 u2,e=.returned (.tuple #[.agg (fJ (ib F1 288 15) u1),.agg (fJ (ib F2 32 15) u2)])/\
   fx w' p A l c (hH F2 32 15 (hH F1 288 15 s))/\iz w' w.heap.size u1 (gZ F1 288 15)/\iz w' w.heap.size u2 (gZ F2 32 15)/\Fr (At p) w w':=by
 have hp:=h.lt
 obtain⟨k,hk⟩:=fb (w.heap.size)
 obtain⟨Z,hZ⟩:=fb (fJ (fun _=>0) (af none 0 0))
 obtain⟨W1,ad⟩:=fb ((w.alloc (.cells Z 26)).alloc (.cells Z 26))
 have av:aS k w W1:=by rw[ad,hk];exact(fz.alloc fe _).alloc (by simp) _
 have aZ:W1.heap.size=k+2:=by rw[ad,hk];simp
 have z1:fg W1 k Z 26:=by rw[ad,hk];exact(fg.new w _ _).old _
 have y1:fg W1 (k+1) Z 26:=by rw[ad,hk];have:=fg.new (w.alloc (.cells Z 26)) Z 26;rwa[World.size_alloc]at this
 have a1:=fa (fg.below h av (by omega):fx W1 p A l c s)
 have bz:=fa (Fr.of (S:=At p) (hk▸av))
 have bN:∀u:au,(zeroValue 26).run prog u=.ok (.agg Z) u:=by rw[hZ];exact(zero_of_info xZ).1
 have a2:Hid (Z.size=17):=fa (by rw[hZ,jl])
 have a3:=fa (aY W1)
 have bA:=fa ad;have HK:=fa hk;have a4:=fa aZ;have a5:=fa z1;have a6:=fa y1
 have HP:Hid (p<k):=fa (by omega)
 have H1:=fa h1;have H2:=fa h2
 clear h hZ ad hk av aZ z1 y1 aY hp h1 h2
 go_enter func54,ntmps54
 go_wp2_with (first|(rw[<-bA.out,<-HK.out])|fail)
 refine a3.out.mono ?_
 rintro e w2 ⟨A1,c1,A2,c2,rfl,o1,o2,ah⟩
 have a7:=fa (fg.below a1.out ah a1.out.lt:fx w2 p A l c s)
 have a8:=(fq.gD o1 H1.out).1
 have a9:=(fq.gD o2 H2.out).1
 have bf:∀b o,0<32->A2=some ⟨b,o,none⟩->¬At p b:=fun b o h0 e (hb:b=p)=>by
  obtain⟨g',cap,hv,bO,_⟩:=o2.form h0;injection hv with hv _ _
  rw[e]at hv;injection hv with hv
  injection hv with e1 _ _
  have:=HP.out;have:=a4.out;omega
 have bg:Hid (jN (At p) w2 A2 32 F2):=fa ⟨a9,bf⟩
 have bj:=fa (qA w2 p A l c s a7.out A1 288 c1 F1 a8 (by omega) 15)
 have bB:=fa (bz.out.on ah)
 have bC:=fa (a5.out.below ah a5.out.lt);have bD:=fa (a6.out.below ah a6.out.lt)
 have aT:Hid (k+2<=w2.heap.size):=fa (by have:=ah.size;rw[a4.out]at this;exact this)
 clear o1 o2 ah a8 a9 bf a3
 go_wp2_with fail
 refine bj.out.mono ?_
 rintro e w3 ⟨u1,rfl,r3,o3,f3⟩
 have bE:=fa (bg.out.fr f3)
 have bl:=fa o3
 have bn:=fa (bB.out.trans f3)
 have bq:=fa (qA w3 p A l c _ r3 A2 32 c2 F2 bE.out.1 (by omega) 15)
 have al:¬At p k/\¬At p (k+1):=by have:=HP.out;exact⟨by show¬k=p;omega,by show¬k+1=p;omega⟩
 have br:=fa (bC.out.fr f3 al.1);have bt:=fa (bD.out.fr f3 al.2)
 have bF:Hid (k+2<=w3.heap.size):=fa (Nat.le_trans aT.out f3.size)
 obtain⟨X,hX⟩:=fb (fJ (ib F1 288 15) u1)
 rw[<-hX]
 have aU:Hid (X.size=17):=fa (by rw[hX,jl])
 have bG:Hid (X.all (·.oneCell')=true):=fa (by rw[hX];exact l7 _ _ o3.one)
 have bH:=fa hX
 clear r3 o3 f3 hX bj bg a7
 go_wp2_with fail
 refine bq.out.mono ?_
 rintro e w4 ⟨u2,rfl,r4,o4,f4⟩
 obtain⟨Y,hY⟩:=fb (fJ (ib F2 32 15) u2)
 rw[<-hY]
 have aV:Hid (Y.size=17):=fa (by rw[hY,jl])
 have bI:Hid (Y.all (·.oneCell')=true):=fa (by rw[hY];exact l7 _ _ o4.one)
 have bJ:=fa hY
 have bu:=fa (br.out.fr f4 al.1)
 have bx:Hid (fg (w4.setRow k X) (k+1) Z 26):=fa ((bt.out.fr f4 al.2).gV (by omega) _)
 have aW:=fa (bl.out.fr f4 (fun j (e:j=p)=>by have:=HP.out;have:=aT.out;omega))
 have aX:=fa o4;have bK:=fa r4;have bL:=fa (bn.out.trans f4)
 clear r4 o4 f4 hY bq br bt bl bn al
 go_wp2_with (first
  |(refine aD rfl _ _ _ rfl rfl k X rfl rfl 26 Z bu.out (jT aU.out) (by rw[a2.out,aU.out]) bG.out ?_)
  |(refine aD rfl _ _ _ rfl rfl (k+1) Y rfl rfl 26 Z bx.out (jT aV.out) (by rw[a2.out,aV.out]) bI.out ?_)
  |fail)
 have bP:=aT.out;have bM:=bF.out;have bQ:=HP.out
 refine bodyPost_ret (v:=.tuple #[.agg X,.agg Y]) (sJ rfl _ _ k (k+1) X Y aU.out aV.out rfl rfl (fg.gV (show fg (w4.setRow k X) k X 26 from setRow_heap _ _ _ _ _ _ bu.out) (by omega) _) (setRow_heap _ _ _ _ _ _ bx.out)) rfl ⟨u1,u2,by rw[bH.out,bJ.out],?_,?_,?_,?_⟩
 ·exact fg.gV (fg.gV bK.out (by omega) _) (by omega) _
 ·rw[<-HK.out];exact lZ (iB aW.out fun j hj=>(aM _ _ _ _ (by have:=(gP aW.out j hj).1;omega)).trans (aM _ _ _ _ (by have:=(gP aW.out j hj).1;omega))) (by omega)
 ·rw[<-HK.out];exact lZ (iB aX.out fun j hj=>(aM _ _ _ _ (by have:=(gP aX.out j hj).1;omega)).trans (aM _ _ _ _ (by have:=(gP aX.out j hj).1;omega))) (by omega)
 ·exact(bL.out.from (Fr.row w4 k X) fun j hj=>.inr (by rw[<-HK.out];exact Nat.le_of_eq hj.symm)).from (Fr.row _ (k+1) Y) fun j hj=>.inr (by rw[<-HK.out];have:j=k+1:=hj;omega)
def gK(g:Nat->Nat)(L:Nat)(s:Rz):Nat:=fT g L 5 s+257
def qF(L:Nat)(s:Rz):Rz:=fR L 5 s
def iD(g:Nat->Nat)(L:Nat)(s:Rz):Nat:=fT g L 5 (qF L s)+1
def qG(L:Nat)(s:Rz):Rz:=fR L 5 (qF L s)
def oM(g:Nat->Nat)(L:Nat)(s:Rz):Nat:=fT g L 4 (qG L s)+4
def nJ(g:Nat->Nat)(L:Nat)(s:Rz):Rz:=ig (fR L 4 (qG L s)) (decide (gK g L s<=286/\iD g L s<=30)) 132
def mh(g:Nat->Nat)(L:Nat)(s:Rz):Nat->Nat:=ky g L (nJ g L s) (oM g L s)
def nK(g:Nat->Nat)(L:Nat)(s:Rz):Rz:=ig (hH (mh g L s) 19 7 (shS L (nJ g L s) (oM g L s))) (decide (2<=(((gZ (mh g L s) 19 7).length:Nat):Int))) 132
def ji(g:Nat->Nat)(L:Nat)(s:Rz):List (Int×Int)×Rz:=lnS (fG 19 (mh g L s)) g L (gK g L s+iD g L s) (gK g L s+iD g L s) 0 [] (nK g L s)
def jB(g:Nat->Nat)(L:Nat)(s:Rz):List Nat:=(nh (ji g L s).1 ((gK g L s+iD g L s:Nat):Int)).2
def pA(g:Nat->Nat)(L:Nat)(s:Rz):Rz:=if(ji g L s).2.2≠0 then(ji g L s).2 else hH (fc ((jB g L s).drop (gK g L s))) (iD g L s) 15 (hH (fc (jB g L s)) (gK g L s) 15 (ig (ji g L s).2 (decide (0<fc (jB g L s) 256)) 132))
def qH(g:Nat->Nat)(L:Nat)(s:Rz):Nat->Int:=if(ji g L s).2.2≠0 then fun _=>0 else ib (fc (jB g L s)) (gK g L s) 15
def qI(g:Nat->Nat)(L:Nat)(s:Rz):Nat->Int:=if(ji g L s).2.2≠0 then fun _=>0 else ib (fc ((jB g L s).drop (gK g L s))) (iD g L s) 15
def qJ(g:Nat->Nat)(L:Nat)(s:Rz):List Int:=if(ji g L s).2.2≠0 then[]else gZ (fc (jB g L s)) (gK g L s) 15
def qK(g:Nat->Nat)(L:Nat)(s:Rz):List Int:=if(ji g L s).2.2≠0 then[]else gZ (fc ((jB g L s).drop (gK g L s))) (iD g L s) 15
theorem IP{g:Nat->Nat}{L:Nat}{s:Rz}(h:s.1<=8*L):(nJ g L s).1<=8*L:=by unfold nJ;rw[nX];exact ld (ld (ld h))
theorem Cf{g:Nat->Nat}{L:Nat}{s:Rz}(h:s.1<=8*L):(nK g L s).1<=8*L:=by unfold nK hH;rw[nX,nX];exact An (IP h) _
theorem yt{s:Rz}{b:Bool}{x:Int}(hx:x≠0)(h:(ig s b x).2=0):s.2=0/\b=true:=by
 unfold ig jv at h;cases b
 ·exfalso;rw[if_neg (by decide)]at h;split at h
  ·exact hx h
  ·rename_i h2;exact h2 h
 ·rw[if_pos rfl]at h;exact⟨h,rfl⟩
theorem RG{g:Nat->Nat}{L:Nat}{s:Rz}(h:(nK g L s).2=0):fD (mh g L s) 19 7=0:=of_decide_eq_true (yt (by decide) (yt (by decide) h).1).2
theorem uq{P:aA}{o:aB}{a:Act}(t:TypeId)(x:Operand)(lo hi:Option Operand)(ho:o.op=.slice t x lo hi none)(u v:ay)(ad ah:Option ay)(hx:a.eval x=u)(h1:lo.map a.eval=ad)(h2:hi.map a.eval=ah)(hr:∀w,(Instr.sliceAt t u ad ah none).run P w=.ok v w)(w:au):(execOp a.eval o).run P w=.ok (.value v) w:=by
 unfold execOp;simp only[ho,hx,h1,h2,Option.map_none,Sem.run_bind,hr,Result.andThen_ok];rfl
theorem lU{P:aA}{o:aB}{a:Act}(x:Operand)(ho:o.op=.move x)(u:ay)(hx:a.eval x=u)(w:au):(execOp a.eval o).run P w=.ok (.value u) w:=by
 unfold execOp;simp only[ho,hx];rfl
theorem Cg{w:au}{B:Nat}{b o n:Nat}{O:List Nat}{k:Nat}(h:fB w B (some ⟨b,o,none⟩) n (fc O))(hk:k<=n):fB w B (some ⟨b,o+k,none⟩) (n-k) (fc (O.drop k)):=by
 refine⟨fun j=>?_,fun h0=>?_⟩
 ·have:=h.1 (k+j);unfold fc at this⊢;rwa[List.getD_eq_getElem?_getD,List.getElem?_drop,<-List.getD_eq_getElem?_getD]
 ·obtain⟨b',o',e,hb,hc⟩:=h.2 (by omega);cases e
  refine⟨b,o+k,rfl,hb,fun j hj=>?_⟩;have:=hc (k+j) (by omega);rw[<-Nat.add_assoc]at this;rw[this];unfold fc;rw[List.getD_eq_getElem?_getD,List.getD_eq_getElem?_getD,List.getElem?_drop]
end Go.Proofs.YtgokdgcmkcmjeaaGreat
