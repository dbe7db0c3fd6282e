/-
  Words and walks.
-/
import Derived.Test.YtokpcpjnihinfaaGreatpnad
import Derived.Test.YtokpcpjnihinfaaGreatpnaf
set_option maxRecDepth 100000
set_option maxHeartbeats 16000000
namespace Go.Proofs.YtokpcpjnihinfaaGreat
open Go.RowKit Go.ChangeShapes Go.WideShapes Go.ChangeAt Go.Joins
def NoB(cs:Array Value):Prop:=∀(i:Nat) (x:Int),cs[i]?≠some (.int .u8 x)
theorem rd_ne{V:World}{B g n b o:Nat}{A:Option Addr}{f:Nat→Nat}{cs:Array Value}{t:TypeId}(h:RdB V B A n f)(hg:BoxC V g cs t)(hn:NoB cs)(h0:0<n)(e:A=some ⟨b,o,none⟩):b≠g:=fun hb=>by
 obtain⟨b',o',e',_,hc⟩:=h.2 h0
 rw[e]at e'
 injection e' with e'
 injection e' with e1 e2 _
 have h1:=hc 0 h0
 rw[←e1,hb,hg.cell]at h1
 exact hn _ _ h1
theorem RdB.setBox{V:World}{B g n:Nat}{A:Option Addr}{f:Nat→Nat}{cs:Array Value}{t:TypeId}(h:RdB V B A n f)(hg:BoxC V g cs t)(hn:NoB cs)(i:Nat)(v:Value):RdB (V.setCell ⟨g,i,none⟩ v) B A n f:=by
 refine⟨h.1,fun h0=>?_⟩
 obtain⟨b,o,e,hb,hc⟩:=h.2 h0
 have hne:=rd_ne h hg hn h0 e
 refine⟨b,o,e,hb,fun j hj=>?_⟩
 have h1:=hc j hj
 have h2:=Below.heap_setCell V ⟨g,i,none⟩ v b hne
 simp only[World.cell?,h2]at h1⊢
 exact h1
theorem ByR.setBox{V:World}{B g n c:Nat}{A:Option Addr}{f:Nat→Nat}{cs:Array Value}{t:TypeId}(h:ByR V B A n c f)(hg:BoxC V g cs t)(hn:NoB cs)(i:Nat)(v:Value):ByR (V.setCell ⟨g,i,none⟩ v) B A n c f:=⟨h.1.setBox hg hn i v,h.2⟩
theorem putP_le{k kind:Nat}{raw:List Nat}{l:List Tok}{last:Bool}(hk:kind≤2)(hk7:k≤7)(hr:raw.length≤65535)(hb:BytesP raw)(hl:l.length≤65535)(hok:∀t∈l,mayT t=true∧t.x<256):k+bitsT (blkP (k%8) kind raw.length (lst raw) l last)≤4320007:=by
 have:=blkP_bits (a:=k%8) (last:=last) hk hr (lst_lt hb) hl hok
 omega
end Go.Proofs.YtokpcpjnihinfaaGreat
namespace Go.Proofs.YtokpcpjnihinfaaGreat
open Go.RowKit
def sinkX(l:List Oper)(i0 n:Nat):Bool:=(List.range n).all fun i=>i==i0||(List.range (n+1)).any fun j=>decide (i<j)&&j !=i0&&Region.waitsFor .any l.toArray j i
def floatB(l:List Oper)(i0:Nat):Bool:=(List.range l.length).all fun j=>j==i0||Region.waitsFor .any l.toArray i0 j||Region.waitsFor .any l.toArray j i0||match l[i0]?,l[j]? with
 |some x,some y=>x.apart l.toArray y
 |_,_=>false
theorem tail_lateX{l:List Oper}{i0 n:Nat}{listed:Array Bool}(hs:sinkX l i0 n=true)(hc:Region.chainB .any l.toArray n=true)(hn:n<l.length)(inv:HeadInv .any l.toArray n listed){i:Nat}(hi:i<n)(hi0:i≠i0)(hu:listed.getD i true=false):
  ∀t,n≤t→t∉Region.ready .any l.toArray listed:=by
 have hsz:listed.size=l.length:=by rw[inv.size];simp
 have key:∀(d i:Nat),d=n-i→i≤n→i≠i0→listed.getD i true=false→n∈Region.ready .any l.toArray listed→i=n:=by
  intro d
  induction d using Nat.strongRecOn with
  |_ d ih=>
   intro i hd hi hi0 hu hr
   rcases Nat.eq_or_lt_of_le hi with e|hi
   ·exact e
   ·exfalso
    have h1:=List.all_eq_true.1 hs i (List.mem_range.2 hi)
    simp only[Bool.or_eq_true,beq_iff_eq]at h1
    rcases h1 with h1|h1
    ·exact hi0 h1
    ·obtain⟨j,hj,hj2⟩:=List.any_eq_true.1 h1
     simp only[Bool.and_eq_true,decide_eq_true_eq,bne_iff_ne,ne_eq]at hj2
     obtain⟨oj,hoj,e,he,hb,hon⟩:=Region.waitsFor_spec hj2.2
     have hjn:j≤n:=by have:=List.mem_range.1 hj;omega
     cases hl:listed.getD j false with
     |true=>
      have h2:=inv.closed j oj hoj hl e he hb
      rw[hon,getD_both hu]at h2;cases h2
     |false=>
      have hjt:=ih (n-j) (by omega) j rfl hjn hj2.1.2 (getD_in (by omega) hl) hr
      subst hjt
      obtain⟨_,ot,hot,hall⟩:=mem_ready.1 hr
      rw[hoj]at hot;cases hot
      have h2:=hall e he hb
      rw[hon,getD_both hu]at h2;cases h2
 intro t ht hr
 by_cases htn:t=n
 ·subst htn
  have:=key (t-i) i rfl (by omega) hi0 hu hr
  omega
 ·obtain⟨_,ot,hot,hall⟩:=mem_ready.1 hr
  have htl:t<l.length:=by have:=(Array.getElem?_eq_some_iff.1 hot).1;simpa using this
  have h1:=List.all_eq_true.1 hc t (List.mem_range.2 (by simpa using htl))
  simp only[Bool.or_eq_true,decide_eq_true_eq]at h1
  rcases h1 with h1|h1
  ·omega
  ·obtain⟨o',ho',e,he,hb,hon⟩:=Region.waitsFor_spec h1
   rw[hot]at ho';cases ho'
   have h2:=hall e he hb
   rw[hon,getD_both (inv.tail (t-1) (by omega) (by simp;omega))]at h2;cases h2
theorem tabf_any{P:Program}{Q:Exit→Act→World→Prop}{a0:Act}{U:World}{l:List Oper}{T:Nat→Value→World→Prop}{n i0:Nat}{o0:Oper}(hi0:l[i0]?=some o0)(hi0n:i0<n)(hn:n<l.length)(hs:sinkX l i0 n=true)(hfl:floatB l i0=true)(hsel:Region.noSelect l.toArray=true)(hg0:o0.guard=none)(d0:Tmp)(hd0:o0.dst=some d0)(hQ0:∀v c a w,Q (.panic c) (a.put o0.dst v) w→Q (.panic c) a w)
  (hy0:∀(a:Act) (w:World),Below U.heap.size U w→(∀s,offB l s=true→a.eval (.tmp s)=a0.eval (.tmp s))→(∀j d,Region.waitsFor .any l.toArray i0 j=true→(l[j]?).bind (·.dst)=some d→Up (T j) (a.eval (.tmp d)) w)→∃v,(∀w',(execOp a.eval o0).run P w'=.ok (.value v) w')∧Up (T i0) v w)
   (hc:Region.chainB .any l.toArray n=true)
  (hseq:Region.seqB .any l.toArray (l.length-n) n (doneA n (l.length-n))=true) (hB:tabB l a0.tmps.size=true) (hstep:TabAll P l T a0 U 0 (l.take n))
  (hend:∀listed a w,TabInv l T a0 U listed a w→(∀i,i<n→listed.getD i false=true)→(∀i,n≤i→i<l.length→listed.getD i true=false)→wpList P l.toArray Q (l.drop n) a w):
  ∀(f:Nat) (listed:Array Bool) (a:Act) (w:World),((List.range n).filter fun i=> !listed.getD i false).length=f→TabInv l T a0 U listed a w→HeadInv .any l.toArray n listed→wpAny P .any l.toArray Q (f+(l.length-n)) listed a w:=by
 have hB':=hB
 simp only[tabB,Bool.and_eq_true,decide_eq_true_eq]at hB'
 obtain⟨⟨hnd,hin⟩,hlow⟩:=hB'
 intro f
 induction f with
 |zero=>
  intro listed a w hf inv hi
  have hup:∀i,i<n→listed.getD i false=true:=fun i hi=>by
   have h0:=List.length_eq_zero_iff.1 hf
   have h1:=List.filter_eq_nil_iff.1 h0 i (List.mem_range.2 hi)
   simpa using h1
  have hk:=hend listed a w inv hup (fun i h1 h2=>hi.tail i h1 (by simpa using h2))
  have he:=split_done (n:=n) (g:=l.length-n) (listed:=listed) (by rw[inv.size];omega) (fun i h=>by
   have h1:=hup i h
   cases h2:listed.getD i true with
   |true=>rfl
   |false=>rw[getD_both h2]at h1;cases h1) (fun t ht ht2=>hi.tail t ht (by simp;omega))
  subst he
  have h3:=wpAny_of_seq (P:=P) (md:=.any) (Q':=Q) (l.drop n) n (doneA n (l.length-n)) a w (fun j=>by simp[List.getElem?_drop]) (by rw[List.length_drop];exact hseq) hk
  rw[List.length_drop]at h3
  rw[Nat.zero_add];exact h3
 |succ f ih=>
  intro listed a w hf inv hi
  rw[show f+1+(l.length-n)=(f+(l.length-n))+1 by omega]
  obtain⟨x,hxn,hxu⟩:∃x,x<n∧listed.getD x false=false:=by
   have:0<((List.range n).filter fun i=> !listed.getD i false).length:=by omega
   obtain⟨x,hx⟩:=List.exists_mem_of_length_pos this
   obtain⟨h1,h2⟩:=List.mem_filter.1 hx
   exact⟨x,List.mem_range.1 h1,by simpa using h2⟩
  by_cases hr0:i0∈Region.ready .any l.toArray listed
  ·
   obtain⟨h0,o,ho,hafter⟩:=mem_ready.1 hr0
   have hol:l[i0]?=some o:=by simpa using ho
   have hoo:o=o0:=by rw[hi0]at hol;exact(Option.some.inj hol).symm
   subst hoo
   have hlt:i0<l.length:=(List.getElem?_eq_some_iff.1 hol).1
   have heval:∀s,offB l s=true→a.eval (.tmp s)=a0.eval (.tmp s):=fun s hs=>by
    show a.tmps.getD s undef=a0.tmps.getD s undef
    rw[Array.getD_eq_getD_getElem?,Array.getD_eq_getD_getElem?,inv.off s (fun _ _ _ hd=>offB_is hs hd)]
   have hfacts:∀j d,Region.waitsFor .any l.toArray i0 j=true→(l[j]?).bind (·.dst)=some d→Up (T j) (a.eval (.tmp d)) w:=fun j d hw hd=>by
    obtain⟨ok,hok,e,he,hb,hon⟩:=Region.waitsFor_spec hw
    rw[ho]at hok;cases hok
    exact inv.told j d (by have:=hafter e he hb;rwa[hon]at this) hd
   obtain⟨v,hv1,hv2⟩:=hy0 a w inv.below heval hfacts
   have hdlt:d0<a.tmps.size:=by
    have h1:=List.all_eq_true.1 hin o (List.mem_of_getElem? hol)
    simp only[hd0,decide_eq_true_eq]at h1
    rw[inv.tmps];exact h1
   refine wpAny_first (oi:=o) (v:=v) ho (Region.noSelect_spec hsel) (hQ0 v) (f+(l.length-n)) listed a w (fun j oj hj hne hun hno=>?_) hr0 (.inl ⟨by simp[Region.wanted,hg0],hv1⟩) ?_
   ·have hjl:j<l.length:=by have:=(Array.getElem?_eq_some_iff.1 hj).1;simpa using this
    have h1:=List.all_eq_true.1 hfl j (List.mem_range.2 hjl)
    have hj2:l[j]?=some oj:=by simpa using hj
    simp only[hi0,hj2,Bool.or_eq_true,beq_iff_eq]at h1
    rcases h1 with((h1|h1)|h1)|h1
    ·exact absurd h1 hne
    ·obtain⟨ok,hok,e,he,hb,hon⟩:=Region.waitsFor_spec h1
     rw[ho]at hok;cases hok
     have h2:=hafter e he hb
     rw[hon,getD_both hun]at h2;cases h2
    ·obtain⟨ok,hok,e,he,hb,hon⟩:=Region.waitsFor_spec h1
     rw[hj]at hok;cases hok
     exact absurd hon (hno e he hb)
    ·exact h1
   ·refine ih _ _ _ ?_ ⟨by simp[inv.size],?_,?_,inv.below,fun s hs=>?_,fun j d hl hd=>?_⟩ (hi.set hr0 hi0n)
    ·have hfe:((List.range n).filter fun i=> !(listed.setIfInBounds i0 true).getD i false)=((List.range n).filter fun i=> !listed.getD i false).erase i0:=by
      rw[List.Nodup.erase_eq_filter (List.nodup_range.filter _),List.filter_filter]
      apply List.filter_congr
      intro x hx
      by_cases e:x=i0
      ·subst e
       have:x<listed.size:=by rw[inv.size];exact hlt
       simp[this]
      ·rw[getD_set_ne false (Ne.symm e)];simp[e]
     rw[hfe,List.length_erase_of_mem (List.mem_filter.2 ⟨List.mem_range.2 hi0n,by rw[getD_both h0];rfl⟩),hf];rfl
    ·unfold Act.put;cases o.dst<;>simp[inv.tmps]
    ·unfold Act.put;cases o.dst<;>exact inv.defers
    ·rw[←inv.off s (fun j d hl hd=>hs j d (getD_set_true hl) hd),hd0]
     have e:d0≠s:=hs i0 d0 (by have:i0<listed.size:=(by rw[inv.size];exact hlt);simp[this]) (by rw[hol];simpa using hd0)
     simp[Act.put,Array.getElem?_setIfInBounds_ne e]
    ·by_cases e:j=i0
     ·subst e
      rw[hol]at hd
      have hd':o.dst=some d:=by simpa using hd
      have hdd:d=d0:=by rw[hd0]at hd';exact(Option.some.inj hd').symm
      subst hdd
      have he:(a.put o.dst v).eval (.tmp d)=v:=by rw[hd'];simp[Act.put,Act.eval,hdlt]
      rw[he];exact hv2
     ·rw[getD_set_ne false (Ne.symm e)]at hl
      have h1:=inv.told j d hl hd
      have he:(a.put o.dst v).eval (.tmp d)=a.eval (.tmp d):=Act.eval_put fun d' hd' hx=>by
       cases hx
       cases hj:l[j]? with
       |none=>rw[hj]at hd;cases hd
       |some y=>
        rw[hj]at hd
        exact e (tab_dst hnd hj hol (by simpa using hd) hd')
      rw[he];exact h1
  obtain⟨y,hyn,hy0',hyu⟩:∃y,y<n∧y≠i0∧listed.getD y false=false:=by
   by_cases e:x=i0
   ·subst e
    have hex:∃e,e∈o0.after∧Region.binds .any e=true∧listed.getD e.on false≠true:=by
     apply Classical.byContradiction
     intro hno
     exact hr0 (mem_ready.2 ⟨getD_in (by rw[inv.size];omega) hxu,o0,by simpa using hi0,fun e he hb=>Classical.byContradiction fun hne=>hno ⟨e,he,hb,hne⟩⟩)
    obtain⟨e,he,hb,hne⟩:=hex
    have h1:=List.all_eq_true.1 hlow x (List.mem_range.2 (by omega))
    simp only[hi0]at h1
    have h2:=Array.all_eq_true_iff_forall_mem.1 h1 e he
    simp only[hb,Bool.not_true,Bool.false_or,decide_eq_true_eq]at h2
    exact⟨e.on,by omega,by omega,by simpa using hne⟩
   ·exact⟨x,hxn,e,hxu⟩
  have hxt:listed.getD y true=false:=getD_in (by rw[inv.size];omega) hyu
  have hready:∀i,i∈Region.ready .any l.toArray listed→i<n:=fun i hr=>by
   rcases Nat.lt_or_ge i n with g|g
   ·exact g
   ·exact absurd hr (tail_lateX hs hc hn hi hyn hy0' hxt i g)
  refine⟨fun h0=>?_,fun k hk=>?_⟩
  ·exfalso
   have hall:∀i,i<l.length→listed.getD i false=true:=fun i=>by
    induction i using Nat.strongRecOn with
    |_ i ih2=>
     intro hil
     cases hu:listed.getD i false with
     |true=>rfl
     |false=>
      exfalso
      have h1:=List.all_eq_true.1 hlow i (List.mem_range.2 hil)
      have hoi:l[i]?=some l[i]:=List.getElem?_eq_getElem hil
      simp only[hoi]at h1
      have:i∈Region.ready .any l.toArray listed:=mem_ready.2 ⟨getD_in (by rw[inv.size];exact hil) hu,l[i],by simp[hil],fun e he hb=>by
       have h2:=Array.all_eq_true_iff_forall_mem.1 h1 e he
       simp only[hb,Bool.not_true,Bool.false_or,decide_eq_true_eq]at h2
       exact ih2 e.on h2 (by omega)⟩
      rw[h0]at this;cases this
   have:=hall x (by omega)
   rw[hxu]at this;cases this
  ·have hkn:=hready k hk
   obtain⟨h0,o,ho,hafter⟩:=mem_ready.1 hk
   have hol:l[k]?=some o:=by simpa using ho
   have hlt:k<l.length:=(List.getElem?_eq_some_iff.1 hol).1
   have hst:TabStep P l T a0 U k o:=by
    have:=hstep.get (j:=k) (o:=o) (by rw[List.getElem?_take_of_lt hkn];exact hol)
    rwa[Nat.zero_add]at this
   have heval:∀s,offB l s=true→a.eval (.tmp s)=a0.eval (.tmp s):=fun s hs=>by
    show a.tmps.getD s undef=a0.tmps.getD s undef
    rw[Array.getD_eq_getD_getElem?,Array.getD_eq_getD_getElem?,inv.off s (fun _ _ _ hd=>offB_is hs hd)]
   have hfacts:∀j d,Region.waitsFor .any l.toArray k j=true→(l[j]?).bind (·.dst)=some d→Up (T j) (a.eval (.tmp d)) w:=fun j d hw hd=>by
    obtain⟨ok,hok,e,he,hb,hon⟩:=Region.waitsFor_spec hw
    rw[ho]at hok;cases hok
    exact inv.told j d (by have:=hafter e he hb;rwa[hon]at this) hd
   have hdlt:∀d,o.dst=some d→d<a.tmps.size:=fun d hd=>by
    have h1:=List.all_eq_true.1 hin o (List.mem_of_getElem? hol)
    simp only[hd,decide_eq_true_eq]at h1
    rw[inv.tmps];exact h1
   have hgo:=hst a w inv.below heval hfacts (wpAny P .any l.toArray Q (f+(l.length-n)) (listed.setIfInBounds k true)) Q (fun v w' hb hv=>by
    refine ih _ _ _ ?_ ⟨by simp[inv.size],?_,?_,inv.below.trans (hb.mono inv.below.size),fun s hs=>?_,fun j d hl hd=>?_⟩ (hi.set hk hkn)
    ·have hfe:((List.range n).filter fun i=> !(listed.setIfInBounds k true).getD i false)=((List.range n).filter fun i=> !listed.getD i false).erase k:=by
      rw[List.Nodup.erase_eq_filter (List.nodup_range.filter _),List.filter_filter]
      apply List.filter_congr
      intro x hx
      by_cases e:x=k
      ·subst e
       have:x<listed.size:=by rw[inv.size];exact hlt
       simp[this]
      ·rw[getD_set_ne false (Ne.symm e)];simp[e]
     rw[hfe,List.length_erase_of_mem (List.mem_filter.2 ⟨List.mem_range.2 hkn,by rw[getD_both h0];rfl⟩),hf];rfl
    ·unfold Act.put;cases o.dst<;>simp[inv.tmps]
    ·unfold Act.put;cases o.dst<;>exact inv.defers
    ·rw[←inv.off s (fun j d hl hd=>hs j d (getD_set_true hl) hd)]
     unfold Act.put
     cases hd:o.dst with
     |none=>rfl
     |some d=>
      have e:d≠s:=hs k d (by have:k<listed.size:=(by rw[inv.size];exact hlt);simp[this]) (by rw[hol];simpa using hd)
      simp[Array.getElem?_setIfInBounds_ne e]
    ·by_cases e:j=k
     ·subst e
      rw[hol]at hd
      have hd':o.dst=some d:=by simpa using hd
      have hlt2:=hdlt d hd'
      have he:(a.put o.dst v).eval (.tmp d)=v:=by rw[hd'];simp[Act.put,Act.eval,hlt2]
      rw[he];exact hv
     ·rw[getD_set_ne false (Ne.symm e)]at hl
      have h1:=inv.told j d hl hd
      have he:(a.put o.dst v).eval (.tmp d)=a.eval (.tmp d):=Act.eval_put fun d' hd' hx=>by
       cases hx
       cases hj:l[j]? with
       |none=>rw[hj]at hd;cases hd
       |some y=>
        rw[hj]at hd
        exact e (tab_dst hnd hj hol (by simpa using hd) hd')
      rw[he];exact h1.on hb)
   unfold wpOp
   simp only[ho]
   split at hgo
   ·rename_i hw;rw[if_pos hw];exact .inl hgo
   ·rename_i hw;rw[if_neg hw];exact hgo
theorem float_extract{P:Program}{o:Oper}{a:Act}(x:Operand)(i:Nat)(ho:o.op=.extract x i)(u v:Value)(hx:a.eval x=u)(hr:∀w,(Instr.extract u i).run P w=.ok v w):∀w',(execOp a.eval o).run P w'=.ok (.value v) w':=fun w'=>by
 unfold execOp;simp only[ho,hx,Sem.run_bind,hr w',Result.andThen_ok];rfl
def tabfB(l:List Oper)(i0 n m:Nat):Bool:=decide (i0<n)&&floatB l i0&&Region.noSelect l.toArray&&decide (n<l.length)&&sinkX l i0 n&&Region.chainB .any l.toArray n&&Region.seqB .any l.toArray (l.length-n) n (doneA n (l.length-n))&&tabB l m
theorem wp_region_tabf{P:Program}{id:Nat}{Q:Exit→Act→World→Prop}{a0:Act}{w0:World}{l:List Oper}(n i0:Nat)(o0:Oper)(hi0:l[i0]?=some o0)(hg0:o0.guard=none)(d0:Tmp)(hd0:o0.dst=some d0)(T:Nat→Value→World→Prop)(U:World)(hU:Below U.heap.size U w0)(hm:P.follows .mixedOrders=true)(hB:tabfB l i0 n a0.tmps.size=true)(hQ0:∀v c a w,Q (.panic c) (a.put o0.dst v) w→Q (.panic c) a w)
  (hy0:∀(a:Act) (w:World),Below U.heap.size U w→(∀s,offB l s=true→a.eval (.tmp s)=a0.eval (.tmp s))→(∀j d,Region.waitsFor .any l.toArray i0 j=true→(l[j]?).bind (·.dst)=some d→Up (T j) (a.eval (.tmp d)) w)→∃v,(∀w',(execOp a.eval o0).run P w'=.ok (.value v) w')∧Up (T i0) v w)
  (hstep:TabAll P l T a0 U 0 (l.take n))
  (hend:∀(vals:Tmp→Value) (w:World),Below U.heap.size U w→(∀j d,((l.take n)[j]?).bind (·.dst)=some d→Up (T j) (vals d) w)→wpList P l.toArray Q (l.drop n) (putL ((l.take n).map (·.dst)) vals a0) w):(Code.region id l.toArray true).wp P Q a0 w0:=by
 simp only[tabfB,Bool.and_eq_true,decide_eq_true_eq]at hB
 obtain⟨⟨⟨⟨⟨⟨⟨hi0n,hfl⟩,hsel⟩,hn⟩,hs⟩,hc⟩,hseq⟩,hB⟩:=hB
 refine wp_region_any hm ?_
 have hl0:∀i,(Array.replicate l.toArray.size false).getD i false=false:=fun i=>getD_replicate_false _ _
 have hinv:HeadInv .any l.toArray n (Array.replicate l.toArray.size false):=⟨by simp,(fun j oj _ hl=>by rw[hl0]at hl;cases hl),(fun t _ ht=>by simp at ht;simp[ht])⟩
 have key:=tabf_any (P:=P) (Q:=Q) (T:=T) (U:=U) hi0 hi0n hn hs hfl hsel hg0 d0 hd0 hQ0 hy0 hc hseq hB hstep (fun listed a w inv hup htl=>by
  have ha:a=putL ((l.take n).map (·.dst)) (fun d=>a.eval (.tmp d)) a0:=by
   have hB2:=hB
   simp only[tabB,Bool.and_eq_true,decide_eq_true_eq]at hB2
   have ht:a.tmps=(putL ((l.take n).map (·.dst)) (fun d=>a.eval (.tmp d)) a0).tmps:=by
    apply Array.ext_getElem?
    intro s
    by_cases hs:some s∈(l.take n).map (·.dst)
    ·obtain⟨o,ho,hd⟩:=List.mem_map.1 hs
     have h1:=List.all_eq_true.1 hB2.1.2 o (List.mem_of_mem_take ho)
     simp only[hd,decide_eq_true_eq]at h1
     rw[putL_in _ _ _ s (.inl hs) h1]
     have h2:s<a.tmps.size:=by rw[inv.tmps];exact h1
     simp[Act.eval,h2]
    ·rw[putL_out _ _ _ s hs]
     refine inv.off s (fun j d hl hd e=>hs ?_)
     cases hj:l[j]? with
     |none=>rw[hj]at hd;cases hd
     |some y=>
      have hjl:j<l.length:=(List.getElem?_eq_some_iff.1 hj).1
      have hjn:j<n:=by
       rcases Nat.lt_or_ge j n with g|g
       ·exact g
       ·have:=getD_both (htl j g hjl)
        rw[hl]at this;cases this
      rw[hj]at hd
      exact List.mem_map.2 ⟨y,List.mem_of_getElem? (i:=j) (by rw[List.getElem?_take_of_lt hjn];exact hj),by rw[←e];simpa using hd⟩
   have hdf:a.defers=(putL ((l.take n).map (·.dst)) (fun d=>a.eval (.tmp d)) a0).defers:=by rw[putL_defers];exact inv.defers
   cases a with
   |mk t df=>
    generalize hp:putL ((l.take n).map (·.dst)) (fun d=>(Act.mk t df).eval (.tmp d)) a0=p at*
    cases p with
    |mk t2 df2=>simp only at ht hdf;rw[ht,hdf]
  rw[ha]
  refine hend _ w inv.below fun j d hd=>?_
  rcases Nat.lt_or_ge j n with g|g
  ·rw[List.getElem?_take_of_lt g]at hd
   exact inv.told j d (hup j g) hd
  ·rw[List.getElem?_eq_none (by rw[List.length_take];omega)]at hd;cases hd) n (Array.replicate l.toArray.size false) a0 w0.drew (by rw[List.filter_eq_self.2 (fun i _=>by rw[hl0];rfl)];simp) ⟨by simp,rfl,rfl,hU.drew,fun _ _=>rfl,fun j d h _=>by rw[hl0]at h;cases h⟩ hinv
 rw[show n+(l.length-n)=l.toArray.size by simp;omega]at key
 exact key
end Go.Proofs.YtokpcpjnihinfaaGreat
namespace Go.Proofs.YtokpcpjnihinfaaGreat
open Go.RowKit Go.ChangeShapes Go.WideShapes Go.ChangeAt Go.Joins
theorem noB_prs(p:Prs)(Ah:Option Addr)(hc:Nat)(Aw:Option Addr)(wc:Nat)(Ap:Option Addr)(pc:Nat):NoB (prsA p Ah hc Aw wc Ap pc):=fun i x=>by
 unfold prsA
 rcases i with _|_|_|_|_|_|_|_|_|i<;>simp
theorem ByR.rowBox{V:World}{B g n c:Nat}{A:Option Addr}{f:Nat→Nat}{cs:Array Value}{t:TypeId}(h:ByR V B A n c f)(hg:BoxC V g cs t)(hn:NoB cs)(ds:Array Value):ByR (V.setRow g ds) B A n c f:=⟨h.1.setRow ds fun _ _ h0 e=>rd_ne h.1 hg hn h0 e,h.2⟩
end Go.Proofs.YtokpcpjnihinfaaGreat
