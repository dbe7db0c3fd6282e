/-
  Words and walks.
-/
import Derived.Sort.QuietIn
import Derived.Test.Ytcmpmighjglnpaasaaa
import Derived.Test.Ytcmpmighjglnpaasaab
import Derived.Test.Ytcmpmighjglnpaasaac
import Derived.Test.Ytcmpmighjglnpaasaah
import Derived.Test.Ytcmpmighjglnpaasaal
import Derived.Test.Ytcmpmighjglnpaasaao
import Derived.Test.Ytcmpmighjglnpaasaas
import Derived.Test.Ytcmpmighjglnpaasaat
set_option maxRecDepth 100000
set_option maxHeartbeats 16000000
namespace Go.Proofs.Ytcmpmighjglnpaa
open Go.RowKit Go.Shelf Go.ChangeShapes Go.WideShapes Go.ChangeAt Go.Joins
attribute [local go_sem] Oper.semAt_some
attribute [local simp] wide_fn
theorem beg_small{g:Nat→Nat}{L a:Nat}(ha:a≤8*L)(h:(begR g L a).2.2=0):(begR g L a).1.n≤320∧(begR g L a).1.m≤320:=by
 by_cases k0:(begR g L a).1.kind=0
 ·unfold begR at h k0⊢
  split at h
  ·exact absurd h (by decide)
  ·rename_i h1
   rw[if_neg h1]at k0⊢
   unfold begW at h k0⊢
   split at h
   ·exact absurd h (by decide)
   ·rename_i h2
    rw[if_neg h2]at k0⊢
    split at h
    ·rename_i h3
     rw[if_pos h3]at k0
     have:=((dy_is (g:=g) (L:=L) (a:=a+3) (last:=decide (numN g a 3%2=1)) (by omega)).1 h).2.1
     rw[k0]at this;exact absurd this (by decide)
    ·rename_i h3
     rw[if_neg h3]at k0⊢
     split at h
     ·rename_i h4
      rw[if_pos h4]at k0;exact absurd k0 (show¬(1:Nat)=0 by decide)
     ·rename_i h4
      rw[if_neg h4]
      unfold stoR at h⊢
      split at h
      ·exact absurd h (by decide)
      ·rename_i h5
       rw[if_neg h5]
       unfold stoV at h⊢
       split at h
       ·exact absurd h (by decide)
       ·rename_i h6
        rw[if_neg h6];exact⟨Nat.zero_le _,Nat.zero_le _⟩
 ·obtain⟨_,_,_,_,_,_,_,h8⟩:=(head_is (g:=g) (L:=L) ha).1 h
  obtain⟨_,_,_,_,_,c5,c6⟩:=h8 k0
  exact⟨(check_ok c5).2.2.1,(check_ok c6).2.2.1⟩
end Go.Proofs.Ytcmpmighjglnpaa
namespace Go.Proofs.Ytcmpmighjglnpaa
open Go.RowKit
def offK(l:List Oper)(k:Nat)(t:Tmp):Bool:=(List.range l.length).all fun j=>match (l[j]?).bind (·.dst)with
 |some d=>d !=t||j==k||Region.waitsFor .any l.toArray j k
 |none=>true
theorem offK_is{l:List Oper}{k:Nat}{t:Tmp}(h:offK l k t=true){j:Nat}{d:Tmp}(hd:(l[j]?).bind (·.dst)=some d)(e:d=t):j=k∨Region.waitsFor .any l.toArray j k=true:=by
 have hj:j<l.length:=by
  cases hl:l[j]? with
  |none=>rw[hl]at hd;cases hd
  |some y=>exact(List.getElem?_eq_some_iff.1 hl).1
 have h1:=List.all_eq_true.1 h j (List.mem_range.2 hj)
 rw[hd]at h1
 simp only[Bool.or_eq_true,bne_iff_ne,ne_eq,beq_iff_eq]at h1
 rcases h1 with(h1|h1)|h1
 ·exact absurd e h1
 ·exact .inl h1
 ·exact .inr h1
def TwStepK(P:Program)(l:List Oper)(T:Nat→Value→Prop)(a0:Act)(W0 W1:World)(s k:Nat)(o:Oper):Prop:=
 ∀(a:Act) (w:World),(w=W0∨(w=W1∧k≠s∧Region.waitsFor .any l.toArray s k=false))→(∀t,offK l k t=true→a.eval (.tmp t)=a0.eval (.tmp t))→(∀j d,Region.waitsFor .any l.toArray k j=true→(l[j]?).bind (·.dst)=some d→T j (a.eval (.tmp d)))→
  ∀(K:Act→World→Prop) (Q:Exit→Act→World→Prop),(∀v,T k v→K (a.put o.dst v) (if k=s then W1 else w))→if Region.wanted o (yielded l.toArray a.tmps)=true then Oper.wp P o a w K Q else K (a.put o.dst undef) w
def TwAllK(P:Program)(l:List Oper)(T:Nat→Value→Prop)(a0:Act)(W0 W1:World)(s:Nat):Nat→List Oper→Prop
 |_,[]=>True
 |k,o::r=>TwStepK P l T a0 W0 W1 s k o∧TwAllK P l T a0 W0 W1 s (k+1) r
theorem TwAllK.get{P:Program}{l:List Oper}{T:Nat→Value→Prop}{a0:Act}{W0 W1:World}{s:Nat}:∀{r:List Oper} {k:Nat},TwAllK P l T a0 W0 W1 s k r→∀{j:Nat} {o:Oper},r[j]?=some o→TwStepK P l T a0 W0 W1 s (k+j) o
 |[],_,_,_,_,h=>by cases h
 |_::_,k,hA,0,_,h=>by cases h;exact hA.1
 |_::r,k,hA,j+1,o,h=>by
  have:=TwAllK.get (r:=r) hA.2 (j:=j) (by simpa using h)
  rw[show k+1+j=k+(j+1) by omega]at this
  exact this
theorem tw_anyK{P:Program}{Q:Exit→Act→World→Prop}{a0:Act}{W0 W1:World}{l:List Oper}{T:Nat→Value→Prop}{s:Nat}(hs:s<l.length)(hB:tabB l a0.tmps.size=true)(hstep:TwAllK P l T a0 W0 W1 s 0 l)
  (hend:∀listed a w,TwInv l T a0 W0 W1 s listed a w→(∀i,i<l.length→listed.getD i false=true)→Q .normal a w):
  ∀(f:Nat) (listed:Array Bool) (a:Act) (w:World),((List.range l.length).filter fun i=> !listed.getD i false).length=f→TwInv l T a0 W0 W1 s listed a w→wpAny P .any l.toArray Q f listed a w:=by
 have hB':=hB
 simp only[tabB,Bool.and_eq_true,decide_eq_true_eq]at hB'
 obtain⟨⟨hnd,hin⟩,hlow⟩:=hB'
 have hall:∀(listed:Array Bool),listed.size=l.length→Region.ready .any l.toArray listed=[]→∀i,i<l.length→listed.getD i false=true:=fun listed hsz hr i=>by
  induction i using Nat.strongRecOn with
  |_ i ih=>
   intro hi
   cases hu:listed.getD i false with
   |true=>rfl
   |false=>
    exfalso
    have h1:=List.all_eq_true.1 hlow i (List.mem_range.2 hi)
    have hoi:l[i]?=some l[i]:=List.getElem?_eq_getElem hi
    simp only[hoi]at h1
    have:i∈Region.ready .any l.toArray listed:=mem_ready.2 ⟨getD_in (by omega) hu,l[i],by simp[hi],fun e he hb=>by
     have h2:=Array.all_eq_true_iff_forall_mem.1 h1 e he
     simp only[hb,Bool.not_true,Bool.false_or,decide_eq_true_eq]at h2
     exact ih e.on h2 (by omega)⟩
    rw[hr]at this;cases this
 intro f
 induction f with
 |zero=>
  intro listed a w hf inv
  have hup:∀i,i<l.length→listed.getD i false=true:=fun i hi=>by
   have h0:=List.length_eq_zero_iff.1 hf
   have h1:=List.filter_eq_nil_iff.1 h0 i (List.mem_range.2 hi)
   simpa using h1
  refine⟨?_,hend listed a w inv hup⟩
  apply List.eq_nil_iff_forall_not_mem.2
  intro i hi
  obtain⟨h0,o,ho,_⟩:=mem_ready.1 hi
  have hlt:i<l.length:=by have:=(Array.getElem?_eq_some_iff.1 ho).1;simpa using this
  have h1:=hup i hlt
  rw[getD_both h0]at h1;cases h1
 |succ f ih=>
  intro listed a w hf inv
  refine⟨fun h0=>hend listed a w inv (hall listed inv.size h0),fun k hk=>?_⟩
  obtain⟨h0,o,ho,hafter⟩:=mem_ready.1 hk
  have hol:l[k]?=some o:=by simpa using ho
  have hlt:k<l.length:=(List.getElem?_eq_some_iff.1 hol).1
  have hst:TwStepK P l T a0 W0 W1 s k o:=by have:=hstep.get hol;rwa[Nat.zero_add]at this
  have heval:∀t,offK l k t=true→a.eval (.tmp t)=a0.eval (.tmp t):=fun t ht=>by
   show a.tmps.getD t undef=a0.tmps.getD t undef
   rw[Array.getD_eq_getD_getElem?,Array.getD_eq_getD_getElem?,inv.off t (fun j d hl hd e=>?_)]
   rcases offK_is ht hd e with e1|hw
   ·subst e1;rw[getD_both h0]at hl;cases hl
   ·obtain⟨oj,hoj,e,he,hb,hon⟩:=Region.waitsFor_spec hw
    have:=inv.closed j oj (by simpa using hoj) hl e he hb
    rw[hon,getD_both h0]at this;cases this
  have hfacts:∀j d,Region.waitsFor .any l.toArray k j=true→(l[j]?).bind (·.dst)=some d→T j (a.eval (.tmp d)):=fun j d hw hd=>by
   obtain⟨ok,hok,e,he,hb,hon⟩:=Region.waitsFor_spec hw
   rw[ho]at hok;cases hok
   exact inv.told j d (by have:=hafter e he hb;rwa[hon]at this) hd
  have hdlt:∀d,o.dst=some d→d<a.tmps.size:=fun d hd=>by
   have h1:=List.all_eq_true.1 hin o (List.mem_of_getElem? hol)
   simp only[hd,decide_eq_true_eq]at h1
   rw[inv.tmps];exact h1
  have hw01:w=W0∨(w=W1∧k≠s∧Region.waitsFor .any l.toArray s k=false):=by
   cases hls:listed.getD s false with
   |false=>left;have:=inv.world;rw[hls]at this;simpa using this
   |true=>
    right
    refine⟨by have:=inv.world;rw[hls]at this;simpa using this,fun e=>?_,?_⟩
    ·subst e;rw[getD_both h0]at hls;cases hls
    ·cases hw:Region.waitsFor .any l.toArray s k with
     |false=>rfl
     |true=>
      exfalso
      obtain⟨os,hos,e,he,hb,hon⟩:=Region.waitsFor_spec hw
      have:=inv.closed s os (by simpa using hos) hls e he hb
      rw[hon,getD_both h0]at this;cases this
  have hgo:=hst a w hw01 heval hfacts (wpAny P .any l.toArray Q f (listed.setIfInBounds k true)) Q (fun v hv=>by
   refine ih _ _ _ ?_ ⟨by simp[inv.size],?_,?_,fun t ht=>?_,fun j d hl hd=>?_,fun j oj hj hl e he hb=>?_,?_⟩
   ·have hfe:((List.range l.length).filter fun i=> !(listed.setIfInBounds k true).getD i false)=((List.range l.length).filter fun i=> !listed.getD i false).erase k:=by
     rw[List.Nodup.erase_eq_filter (List.nodup_range.filter _),List.filter_filter]
     apply List.filter_congr
     intro x hx
     by_cases e:x=k
     ·subst e
      have:x<listed.size:=by rw[inv.size];exact hlt
      simp[this]
     ·rw[getD_set_ne false (Ne.symm e)];simp[e]
    rw[hfe,List.length_erase_of_mem (List.mem_filter.2 ⟨List.mem_range.2 hlt,by rw[getD_both h0];rfl⟩),hf];rfl
   ·unfold Act.put;cases o.dst<;>simp[inv.tmps]
   ·unfold Act.put;cases o.dst<;>exact inv.defers
   ·rw[←inv.off t (fun j d hl hd=>ht j d (getD_set_true hl) hd)]
    unfold Act.put
    cases hd:o.dst with
    |none=>rfl
    |some d=>
     have e:d≠t:=ht k d (by have:k<listed.size:=(by rw[inv.size];exact hlt);simp[this]) (by rw[hol];simpa using hd)
     simp[Array.getElem?_setIfInBounds_ne e]
   ·by_cases e:j=k
    ·subst e
     rw[hol]at hd
     have hd':o.dst=some d:=by simpa using hd
     have hlt2:=hdlt d hd'
     have he:(a.put o.dst v).eval (.tmp d)=v:=by rw[hd'];simp[Act.put,Act.eval,hlt2]
     rw[he];exact hv
    ·rw[getD_set_ne false (Ne.symm e)]at hl
     have h1:=inv.told j d hl hd
     have he:(a.put o.dst v).eval (.tmp d)=a.eval (.tmp d):=Act.eval_put fun d' hd' hx=>by
      cases hx
      cases hj:l[j]? with
      |none=>rw[hj]at hd;cases hd
      |some y=>
       rw[hj]at hd
       exact e (tab_dst hnd hj hol (by simpa using hd) hd')
     rw[he];exact h1
   ·by_cases e':j=k
    ·subst e'
     rw[hol]at hj;cases hj
     exact getD_set_true (hafter e he hb)
    ·rw[getD_set_ne false (Ne.symm e')]at hl
     exact getD_set_true (inv.closed j oj hj hl e he hb)
   ·by_cases e:k=s
    ·subst e
     have:k<listed.size:=by rw[inv.size];exact hlt
     rw[if_pos rfl];simp[this]
    ·rw[if_neg e,getD_set_ne false e];exact inv.world)
  unfold wpOp
  simp only[ho]
  split at hgo
  ·rename_i hw;rw[if_pos hw];exact .inl hgo
  ·rename_i hw;rw[if_neg hw];exact hgo
theorem wp_region_twoK{P:Program}{id:Nat}{Q:Exit→Act→World→Prop}{a0:Act}{w0:World}{l:List Oper}(s:Nat)(T:Nat→Value→Prop)(W1:World)(hm:P.follows .mixedOrders=true)(hs:(decide (s<l.length)&&tabB l a0.tmps.size)=true)
  (hstep:TwAllK P l T a0 w0.drew W1 s 0 l)
  (hend:∀(vals:Tmp→Value),(∀j d,(l[j]?).bind (·.dst)=some d→T j (vals d))→Q .normal (putL (l.map (·.dst)) vals a0) W1):(Code.region id l.toArray true).wp P Q a0 w0:=by
 simp only[Bool.and_eq_true,decide_eq_true_eq]at hs
 obtain⟨hsl,hB⟩:=hs
 refine wp_region_any hm ?_
 have hl0:∀i,(Array.replicate l.toArray.size false).getD i false=false:=fun i=>getD_replicate_false _ _
 refine tw_anyK (T:=T) hsl hB hstep (fun listed a w inv hup=>?_) l.toArray.size _ _ _ ?_ ⟨by simp,rfl,rfl,fun _ _=>rfl,(fun j d h _=>by rw[hl0]at h;cases h),(fun j oj _ h=>by rw[hl0]at h;cases h),by rw[hl0];rfl⟩
 ·have ha:a=putL (l.map (·.dst)) (fun d=>a.eval (.tmp d)) a0:=by
   have ht:a.tmps=(putL (l.map (·.dst)) (fun d=>a.eval (.tmp d)) a0).tmps:=by
    apply Array.ext_getElem?
    intro t
    by_cases ht:some t∈l.map (·.dst)
    ·obtain⟨o,ho,hd⟩:=List.mem_map.1 ht
     simp only[tabB,Bool.and_eq_true,decide_eq_true_eq]at hB
     have h1:=List.all_eq_true.1 hB.1.2 o ho
     simp only[hd,decide_eq_true_eq]at h1
     rw[putL_in _ _ _ t (.inl ht) h1]
     have h2:t<a.tmps.size:=by rw[inv.tmps];exact h1
     simp[Act.eval,h2]
    ·rw[putL_out _ _ _ t ht]
     refine inv.off t (fun j d _ hd e=>ht ?_)
     cases hj:l[j]? with
     |none=>rw[hj]at hd;cases hd
     |some y=>
      rw[hj]at hd
      exact List.mem_map.2 ⟨y,List.mem_of_getElem? hj,by rw[←e];simpa using hd⟩
   have hdf:a.defers=(putL (l.map (·.dst)) (fun d=>a.eval (.tmp d)) a0).defers:=by rw[putL_defers];exact inv.defers
   cases a with
   |mk t df=>
    generalize hp:putL (l.map (·.dst)) (fun d=>(Act.mk t df).eval (.tmp d)) a0=p at*
    cases p with
    |mk t2 df2=>simp only at ht hdf;rw[ht,hdf]
  have hw:=inv.world
  rw[if_pos (hup s hsl)]at hw
  rw[ha,hw]
  refine hend _ fun j d hd=>?_
  refine inv.told j d (hup j ?_) hd
  cases hj:l[j]? with
  |none=>rw[hj]at hd;cases hd
  |some _=>exact(List.getElem?_eq_some_iff.1 hj).1
 ·rw[List.filter_eq_self.2 (fun i _=>by rw[hl0];rfl)];simp
theorem TwAllK.nil{P:Program}{l:List Oper}{T:Nat→Value→Prop}{a0:Act}{W0 W1:World}{s k:Nat}:TwAllK P l T a0 W0 W1 s k []:=trivial
theorem TwAllK.cons{P:Program}{l:List Oper}{T:Nat→Value→Prop}{a0:Act}{W0 W1:World}{s k:Nat}{o:Oper}{r:List Oper}(h:TwStepK P l T a0 W0 W1 s k o)(hr:TwAllK P l T a0 W0 W1 s (k+1) r):TwAllK P l T a0 W0 W1 s k (o::r):=⟨h,hr⟩
end Go.Proofs.Ytcmpmighjglnpaa
namespace Go.Proofs.Ytcmpmighjglnpaa
open Go.RowKit
def ReadsB(k:Blk13)(kd:Nat)(last:Bool)(left:Int)(c1:Nat→Int)(s1:List Int)(c2:Nat→Int)(s2:List Int):Prop:=
 k.kind=kd∧k.last=last∧(k.left:Int)=left∧k.left≤65535∧k.n≤320∧k.m≤320∧(kd≠0→IsTree c1 s1 (extF k.n k.F)∧IsTree c2 s2 (extF k.m k.G))
def stpQ(g:Nat→Nat)(l:Nat)(a:Int)(r:Bool)(k:Blk13):Tok×Bool×Nat×Int:=
 if asked13 l a≠0 then(tokZ,false,0,asked13 l a)else if r=false then(tokZ,false,0,8)else nextR k g l a.toNat
theorem infoTokZ:(Try.prog.info? 68).map (fun i=>(i.zero,i.size))=some (some (.agg #[.int .u8 0,.int .i64 0,.int .i64 0]),3):=by kernel_rfl
theorem cell_tok4{fn:Func}{p u v x:Tmp}(h:fn.results=#[.cell p 68,.tmp u,.tmp v,.tmp x])(tmps:Array Value)(w:World)(g:Nat)(cs:Array Value)(hs:cs.size=3)(hp:tmps.getD p undef=.pointer (some ⟨g,0,none⟩))(ht:w.heap[g]?=some (.cells cs 68 (0,0))):
  (results fn tmps).run Try.prog w=.ok (.tuple #[.agg cs,tmps.getD u undef,tmps.getD v undef,tmps.getD x undef]) w:=by
 have hp':tmps[p]?.getD undef=.pointer (some ⟨g,0,none⟩):=by simpa using hp
 have hl:=run_loadVar_row (P:=Try.prog) w g 68 68 cs (0,0) _ ht Try.underlying68 rfl (by rw[hs];exact szTok)
 simp[results,h,hp',asAddr,hl]
theorem nxt_errD{n:Int}{y:Int×Nat×Int}(h:(nxtD n y).2.2.2≠0):nxtD n y=(tokZ,false,0,(nxtD n y).2.2.2):=by
 unfold nxtD at h⊢
 by_cases h1:y.2.2≠0
 ·rw[if_pos h1]
 ·rw[if_neg h1]at h;exact absurd rfl h
theorem nxt_errC{n:Int}{r:Nat×Nat×Int}{g:Nat→Nat}{L:Nat}(h:(nxtC n r g L).2.2.2≠0):nxtC n r g L=(tokZ,false,0,(nxtC n r g L).2.2.2):=by
 unfold nxtC at h⊢
 by_cases h1:r.2.2≠0
 ·rw[if_pos h1]
 ·rw[if_neg h1]at h⊢;exact nxt_errD h
theorem nxt_errB{k:Blk13}{x:Int×Nat×Int}{g:Nat→Nat}{L:Nat}(h:(nxtB k x g L).2.2.2≠0):nxtB k x g L=(tokZ,false,0,(nxtB k x g L).2.2.2):=by
 unfold nxtB at h⊢
 by_cases h1:x.2.2≠0
 ·rw[if_pos h1]
 ·rw[if_neg h1]at h⊢;exact nxt_errC h
theorem nxt_errA{k:Blk13}{r:Nat×Nat×Int}{g:Nat→Nat}{L:Nat}(h:(nxtA k r g L).2.2.2≠0):nxtA k r g L=(tokZ,false,0,(nxtA k r g L).2.2.2):=by
 unfold nxtA at h⊢
 by_cases h1:r.2.2≠0
 ·rw[if_pos h1]
 ·rw[if_neg h1]at h⊢
  by_cases h2:r.1<256
  ·rw[if_pos h2]at h;exact absurd rfl h
  ·rw[if_neg h2]at h⊢
   by_cases h3:r.1=256
   ·rw[if_pos h3]at h;exact absurd rfl h
   ·rw[if_neg h3]at h⊢;exact nxt_errB h
theorem nxt_err{k:Blk13}{g:Nat→Nat}{L a:Nat}(h:(nextR k g L a).2.2.2≠0):nextR k g L a=(tokZ,false,0,(nextR k g L a).2.2.2):=by
 unfold nextR at h⊢
 by_cases h0:k.kind=0
 ·rw[if_pos h0]at h⊢
  unfold nxtS at h⊢
  by_cases h1:k.left=0
  ·rw[if_pos h1]at h;exact absurd rfl h
  ·rw[if_neg h1]at h⊢
   by_cases h2:8*L<a+8
   ·rw[if_pos h2]
   ·rw[if_neg h2]at h;exact absurd rfl h
 ·rw[if_neg h0]at h⊢
  exact nxt_errA h
theorem riF_of{w:World}{v:Value}{s:List Int}{p:Nat}(h:RdS w p v s)(hp:p≤w.heap.size):RiF (At p) w v s:=by
 refine⟨h.more hp,fun A n c b o e h0 e2 hb=>?_⟩
 obtain⟨A',cap,e3,hr,_⟩:=h
 obtain⟨b',o',e4,hbb,_⟩:=hr.at h0
 rw[e3]at e;cases e
 rw[e4]at e2;cases e2
 have:b=p:=hb
 omega
theorem pstep13_any(w:World)(A:Option Addr)(l c:Nat)(g:Nat→Nat)(hg:RdB w w.heap.size A l g)(a:Int)(ha1: -9223372036854775808≤a)(ha2:a≤9223372036854775807)(hl:l≤1000000)
  (kd:Nat) (hkd:kd<256) (last:Bool) (left:Int) (c1 c2:Nat→Int) (v1 v2:Value) (s1 s2:List Int) (h1:RdS w w.heap.size v1 s1) (h2:RdS w w.heap.size v2 s2) (n1:s1.length≤1000000) (n2:s2.length≤1000000)
  (r:Bool) (hr:r=true↔MayI kd left c1 s1 c2 s2) (k:Blk13) (hk:r=true→ReadsB k kd last left c1 s1 c2 s2):
  Calls Try.prog 35 #[.agg (blkI kd last left c1 c2 v1 v2),.slice A l c,.int .i64 a] w fun e w'=>e=.returned (nxtV (stpQ g l a r k))∧Below w.heap.size w w':=by
 obtain⟨h,hh⟩:∃h,h=w.heap.size:=⟨_,rfl⟩
 obtain⟨X,hX⟩:∃X,X=blkI kd last left c1 c2 v1 v2:=⟨_,rfl⟩
 have hXS:X.size=37:=by rw[hX];exact blkI_size ..
 obtain⟨Z,hZ⟩:∃Z:Array Value,Z=#[.int .u8 0,.int .i64 0,.int .i64 0]:=⟨_,rfl⟩
 have hZS:Z.size=3:=by rw[hZ];rfl
 have hZO:Z.all (·.oneCell')=true:=by rw[hZ];exact oneTok _ _ _
 have hZB:Try.prog.built 68 []=some Z:=by rw[hZ];exact built_tok0
 obtain⟨W1,hW1⟩:∃W1,W1=(w.alloc (.cells X 28)).alloc (.cells Z 68):=⟨_,rfl⟩
 have hb1:Below h w W1:=by rw[hW1,hh];exact((Below.refl _ _).alloc (Nat.le_refl _) _).alloc (by simp) _
 have hsz1:W1.heap.size=h+2:=by rw[hW1,hh];simp
 have x1:BoxC W1 h X 28:=by rw[hW1,hh];exact(BoxC.new w _ _).old _
 have t1:BoxC W1 (h+1) Z 68:=by rw[hW1,hh];have:=BoxC.new (w.alloc (.cells X 28)) Z 68;rwa[World.size_alloc]at this
 obtain⟨q,hq⟩:∃q,q=asked13 l a:=⟨_,rfl⟩
 obtain⟨R,hR⟩:∃R,R=stpQ g l a r k:=⟨_,rfl⟩
 have hrr:=hR
 unfold stpQ at hrr
 rw[←hq]at hrr
 rw[←hR]
 have hask:=pwithin_any W1 A l c a ha1 ha2 hl
 rw[←hq]at hask
 have hchk:=pcheck13_any W1 kd last left c1 c2 v1 v2 s1 s2 ((h1.below (hh▸hb1) (Nat.le_refl _)).more (hh▸hb1.size)) ((h2.below (hh▸hb1) (Nat.le_refl _)).more (hh▸hb1.size)) n1 n2 r hr
 rw[←hX]at hchk⊢
 have hzt:∀u:World,(zeroValue 68).run Try.prog u=.ok (.agg Z) u:=by rw[hZ];exact(zero_of_info infoTokZ).1
 obtain⟨ZR,hZR⟩:∃Z,Z=rdrA none 0 0 (0,0):=⟨_,rfl⟩
 have hzr:∀u:World,(zeroValue 78).run Try.prog u=.ok (.agg ZR) u:=by rw[hZR];exact(zero_of_info infoRdr).1
 have HZRS:Hid (ZR.size=3):=Lib.hid (by rw[hZR];rfl)
 have HAS:=Lib.hid hask;have HCH:=Lib.hid hchk;have HG:=Lib.hid hg;have HX1:=Lib.hid x1;have HT1:=Lib.hid t1;have HB1:=Lib.hid hb1;have HH:=Lib.hid hh;have HW1:=Lib.hid hW1;have HS1:=Lib.hid hsz1;have HRR:=Lib.hid hrr;have HQ:=Lib.hid hq;have HZE:=Lib.hid hZ;have HXE:=Lib.hid hX
 have HXS:=Lib.hid hXS;have HZS:=Lib.hid hZS;have HZO:=Lib.hid hZO;have HZB:=Lib.hid hZB;have HV1:=Lib.hid h1;have HV2:=Lib.hid h2;have HK:=Lib.hid hk
 clear hask hchk hg x1 t1 hb1 hh hW1 hsz1 hrr hq hR hZ hZR hX hXS hZS hZO hZB h1 h2 hk hr
 by_cases q0:q=0
 ·have hl3:l≤131072:=by
   have:=HQ.out;rw[q0]at this;unfold asked13 at this
   split at this
   ·omega
   ·omega
  have ha:0≤a∧a≤8*(l:Int):=by
   have:=HQ.out;rw[q0]at this;unfold asked13 at this
   rw[if_neg (by omega)]at this
   split at this
   ·omega
   ·omega
  obtain⟨n,rfl⟩:=Int.eq_ofNat_of_zero_le ha.1
  have hn8:n≤8*l:=by omega
  subst q0
  rcases Bool.eq_false_or_eq_true r with hrt|hrf
  ·subst hrt
   have HRR2:Hid (R=nextR k g l n):=Lib.hid (by rw[HRR.out,if_neg (fun h=>h rfl),if_neg (by decide),Int.toNat_natCast])
   obtain⟨k1,k2,k3,k4,k5,k6,k7⟩:=HK.out rfl
   obtain⟨Y,hY⟩:∃Y,Y=rdrA A l c (n,0):=⟨_,rfl⟩
   have HYS:Hid (Y.size=3):=Lib.hid (by rw[hY];rfl)
   have HYO:Hid (Y.all (·.oneCell')=true):=Lib.hid (by rw[hY];simp[rdrA,Value.oneCell'])
   have HYB:Hid (Try.prog.built 78 [(0,.slice A l c),(1,.int .i64 (n:Int))]=some Y):=Lib.hid (by rw[hY];exact built_rdr13 A l c n)
   have HXK:Hid (X=blkT k.kind k.last k.left c1 c2 v1 v2):=Lib.hid (by rw[HXE.out,blkT_I,k1,k2,k3])
   have HKP:Hid (k.kind<256∧k.left≤65535∧k.n≤320∧k.m≤320∧(k.kind≠0→IsTree c1 s1 (extF k.n k.F)∧IsTree c2 s2 (extF k.m k.G))):=Lib.hid ⟨by rw[k1];exact hkd,k4,k5,k6,fun h=>k7 (k1▸h)⟩
   have HYE:=Lib.hid hY
   clear ha k1 k2 k3 k4 k5 k6 k7 hY HK HRR HXE
   go_enter Try.func35,Try.ntmps35
   go_wp2_with (first|(rw[←HW1.out,←HH.out])|fail)
   refine HAS.out.mono ?_
   rintro e w9 ⟨rfl,rfl⟩
   go_wp2_with (first
    |(refine wpList_load_row rfl _ _ rfl h rfl _ X (0,0) _ HX1.out Try.underlying28 rfl (szBlkT X HXS.out) ?_)
    |fail)
   refine HCH.out.mono ?_
   unfold chkI
   rw[if_pos rfl]
   rintro e w3 ⟨rfl,hb3⟩
   have hS3:=hb3.size
   have hX3:=HX1.out.below hb3 (by rw[HS1.out];omega)
   have hT3:=HT1.out.below hb3 (by rw[HS1.out];omega)
   obtain⟨p,hp⟩:∃p,p=w3.heap.size:=⟨_,rfl⟩
   have hpl:h+2≤p:=by rw[hp,←HS1.out];exact hS3
   obtain⟨W2,hW2⟩:∃W,W=mkV w3 ZR Y 78:=⟨_,rfl⟩
   have hb2:Below w3.heap.size w3 W2:=by rw[hW2];exact mkV_below _ _ _ _
   have y2:Rdr W2 p A l c (n,0):=by have:=mkV_row w3 ZR Y 78;rw[←hp,HYE.out]at this;rw[hW2,HYE.out];exact this
   have hsz2:W2.heap.size=p+1:=by rw[hW2,mkV_size,hp]
   have hB3:Below h w w3:=HB1.out.trans (hb3.mono (by rw[HS1.out];omega))
   have hB2:Below h w W2:=hB3.trans (hb2.mono (by omega))
   have hg2:RdF (At p) W2 A l g:=by
    refine⟨(HG.out.below (HH.out▸hB2) (Nat.le_refl _)).more (HH.out▸hB2.size),fun b o h0 e hb=>?_⟩
    obtain⟨b',o',e',hbb,_⟩:=HG.out.2 h0
    rw[e]at e';cases e'
    have:b=p:=hb
    have:=HH.out;omega
   have hv1:=riF_of (p:=p) ((HV1.out.below (HH.out▸hB2) (Nat.le_refl _)).more (show w.heap.size≤p by have:=HH.out;omega)) (by omega)
   have hv2:=riF_of (p:=p) ((HV2.out.below (HH.out▸hB2) (Nat.le_refl _)).more (show w.heap.size≤p by have:=HH.out;omega)) (by omega)
   obtain⟨kp1,kp2,kp3,kp4,kp5⟩:=HKP.out
   have hstp:=pstep_any W2 p A l c g (n,0) y2 (At p) rfl (fun j (e:j=p)=>by omega) hg2 (by omega) hn8 k kp1 kp2 kp3 kp4 c1 c2 v1 v2 HV1.out.one HV2.out.one (fun _ h0=>⟨⟨s1,hv1,(kp5 h0).1⟩,⟨s2,hv2,(kp5 h0).2⟩⟩)
   rw[←HXK.out]at hstp
   have HX2:=Lib.hid (hX3.below hb2 hX3.lt);have HT2:=Lib.hid (hT3.below hb2 hT3.lt)
   have HIS:=Lib.hid (stT_is (k:=k) (g:=g) (L:=l) (a:=n))
   obtain⟨⟨tk,en,sa,se⟩,hss⟩:∃s,s=stT k g l (n,0):=⟨_,rfl⟩
   rw[←hss]at hstp
   rw[←hss]at HIS
   have HST:=Lib.hid hstp;have HW2:=Lib.hid hW2;have HSZ2:=Lib.hid hsz2;have HP:=Lib.hid hp;have HBB:=Lib.hid hB2
   clear hb3 hX3 hT3 hp hb2 y2 hsz2 hB3 hB2 hg2 hv1 hv2 kp1 kp2 kp3 kp4 kp5 hstp hss hW2 hS3
   go_wp2_with (first
    |(refine wpList_buildTo rfl 78 #[(0,.tmp 26),(1,.tmp 27)] rfl (some 28) rfl Y ?_ ?_;focus(simpa[Act.eval]using HYB.out))
    |(refine wpList_store_rowTo rfl _ _ _ rfl rfl w3.heap.size Y rfl rfl 78 ZR (heap_alloc_new w3 _) (szRdr13 HYS.out) (by rw[HZRS.out,HYS.out]) HYO.out ?_;change wpList _ _ _ _ _ (mkV w3 ZR Y 78);rw[←HW2.out,←HP.out])
    |(refine wpList_load_row rfl _ _ rfl h rfl _ X (0,0) _ HX2.out Try.underlying28 rfl (szBlkT X HXS.out) ?_)
    |fail)
   refine HST.out.mono ?_
   rintro e w4 ⟨rfl,r4,f4⟩
   obtain⟨T,hT⟩:∃T,T=tkA3 tk:=⟨_,rfl⟩
   have HTS:Hid (T.size=3):=Lib.hid (by rw[hT];rfl)
   have HTO:Hid (T.all (·.oneCell')=true):=Lib.hid (by rw[hT];exact tkA3_one _)
   unfold stpV
   dsimp only
   rw[←hT]
   have hT4:=HT2.out.fr f4 (by show¬h+1=p;omega)
   obtain⟨W4,hW4⟩:∃W,W=w4.setRow (h+1) T:=⟨_,rfl⟩
   have x4:BoxC W4 (h+1) T 68:=by rw[hW4];exact hT4.row T
   have r5:Rdr W4 p A l c (sa,se):=by rw[hW4];exact BoxC.rowO r4 (by omega) T
   have f5:Fr (At (h+1)) w4 W4:=by rw[hW4];exact Fr.row w4 (h+1) T
   have hb4:Below h w W4:=HBB.out.trans ((f4.below (B:=h) (fun j (e:j=p)=>by omega) (by have:=HSZ2.out;omega)).trans (f5.below (B:=h) (fun j (e:j=h+1)=>by omega) (by have:=f4.size;have:=HSZ2.out;omega)))
   have k2:W4.cell? ⟨p,2,none⟩=some (.int .i64 se):=r5.e
   have HT4:=Lib.hid hT4;have HW4:=Lib.hid hW4;have HX4:=Lib.hid x4;have HR4:=Lib.hid r5;have HB4:=Lib.hid hb4;have HTE:=Lib.hid hT
   clear r4 f4 hT hT4 hW4 x4 r5 f5 hb4 HST
   by_cases he:se=0
   ·have hn0:(nextR k g l n).2.2.2=0:=by
     rcases Int.decEq (nextR k g l n).2.2.2 0 with h1|h1
     ·exfalso
      have:=HIS.out.2 h1
      exact h1 (this.symm.trans he)
     ·exact h1
    have hst:=HIS.out.1 hn0
    have hRe:R=(tk,en,sa,0):=by
     rw[HRR2.out]
     have e1:(nextR k g l n).1=tk:=congrArg (fun x=>x.1) hst.symm
     have e2:(nextR k g l n).2.1=en:=congrArg (fun x=>x.2.1) hst.symm
     have e3:(nextR k g l n).2.2.1=sa:=congrArg (fun x=>x.2.2.1) hst.symm
     rw[←e1,←e2,←e3,←hn0]
    have d0:(se==0)=true:=by rw[he];rfl
    have d1:(se !=0)=false:=by simp[bne,d0]
    have HRE:=Lib.hid hRe
    subst he
    clear hn0 hst hRe HIS
    go_wp2_with (first
     |(refine wpList_store_rowTo rfl _ _ _ rfl rfl (h+1) T rfl rfl 68 Z HT4.out (by rw[HTS.out];exact szTok) (by rw[HZS.out,HTS.out]) HTO.out ?_;rw[←HW4.out])
     |fail)
    have HX5:Hid (BoxC (W4.drew) (h+1) T 68):=Lib.hid HX4.out
    have HR5:Hid (Rdr (W4.drew) p A l c (sa,0)):=Lib.hid HR4.out
    have HR6:Hid (Rdr ((W4.drew).setRow (h+1) T) p A l c (sa,0)):=Lib.hid (BoxC.rowO HR5.out (by omega) T)
    have HX6:Hid (BoxC ((W4.drew).setRow (h+1) T) (h+1) T 68):=Lib.hid (HX5.out.row T)
    refine wp_region_twoK 4 (twT [fun v=>v=.agg T,fun v=>v=.bool en,fun v=>v=.pointer (some ⟨p,1,none⟩),fun v=>v=.int .i64 (sa:Int),fun v=>v=undef,fun v=>v=.bool en,fun v=>v=.int .i64 (sa:Int),fun v=>v=.int .i64 0]) ((W4.drew).setRow (h+1) T) (by kernel_rfl) (by kernel_rfl) ?_ ?_
    case refine_1=>
     refine TwAllK.cons (fun aa wv hw ha hS Kk Qq hK=>tw_val (k:=0) (s:=4) (by decide) (tab_free rfl) (.agg T) (by have e:=(show aa.eval (.tmp 6)=.pointer (some ⟨h+1,0,none⟩)from((ha 6 (by kernel_rfl)).trans rfl));have hx:BoxC wv (h+1) T 68:=by {rcases hw with hw|⟨hw,_,_⟩<;>first|(rw[hw];exact HX5.out)|(rw[hw];exact HX6.out)};have hl:=run_loadVar_row (P:=Try.prog) wv (h+1) 68 68 T (0,0) _ hx Try.underlying68 rfl (by rw[HTS.out];exact szTok);unfold execOp;simp only[e,Instr.loadAt,Instr.sureAddr,Sem.run_bind,Sem.run_pure,Result.andThen_ok,hl]) hK rfl) ?_
     refine TwAllK.cons (fun aa wv hw ha hS Kk Qq hK=>tw_val (k:=1) (s:=4) (by decide) (tab_free rfl) (.bool en) (by have e:=(show aa.eval (.tmp 7)=.bool en from((ha 7 (by kernel_rfl)).trans rfl));unfold execOp;simp only[e];rfl) hK rfl) ?_
     refine TwAllK.cons (fun aa wv hw ha hS Kk Qq hK=>tw_val (k:=2) (s:=4) (by decide) (tab_free rfl) (.pointer (some ⟨p,1,none⟩)) (by have e:=(show aa.eval (.tmp 12)=.pointer (some ⟨p,0,none⟩)from((ha 12 (by kernel_rfl)).trans rfl));unfold execOp;simp only[e];go_simp) hK rfl) ?_
     refine TwAllK.cons (fun aa wv hw ha hS Kk Qq hK=>tw_val (k:=3) (s:=4) (by decide) (tab_free rfl) (.int .i64 (sa:Int)) (by have e:=(show aa.eval (.tmp 42)=.pointer (some ⟨p,1,none⟩)from hS 2 42 (by kernel_rfl) rfl);have hc:wv.cell? ⟨p,1,none⟩=some (.int .i64 (sa:Int)):=by {rcases hw with hw|⟨hw,_,_⟩<;>first|(rw[hw];exact HR5.out.a)|(rw[hw];exact HR6.out.a)};unfold execOp;simp only[e];go_simp) hK rfl) ?_
     refine TwAllK.cons (fun aa wv hw ha hS Kk Qq hK=>tw_store (s:=4) (tab_free rfl) rfl (by have e1:=(show aa.eval (.tmp 6)=.pointer (some ⟨h+1,0,none⟩)from((ha 6 (by kernel_rfl)).trans rfl));have e2:=(show aa.eval (.tmp 40)=.agg T from hS 0 40 (by kernel_rfl) rfl);have hww:wv=W4.drew:=by {rcases hw with hw|⟨_,hw,_⟩<;>first|exact hw|exact absurd rfl hw};subst hww;have hst:=run_storeVar_row (P:=Try.prog) (W4.drew) (h+1) 68 68 T T HX5.out (by rw[HTS.out];exact szTok) (HTS.out.trans HTS.out.symm) HTO.out;unfold execOp;simp only[e1,e2,Instr.storeAt,Instr.sureAddr,Sem.run_bind,Sem.run_pure,Result.andThen_ok,hst]) hK rfl) ?_
     refine TwAllK.cons (fun aa wv hw ha hS Kk Qq hK=>tw_val (k:=5) (s:=4) (by decide) (tab_free rfl) (.bool en) (by have e:=(show aa.eval (.tmp 41)=.bool en from hS 1 41 (by kernel_rfl) rfl);unfold execOp;simp only[e];rfl) hK rfl) ?_
     refine TwAllK.cons (fun aa wv hw ha hS Kk Qq hK=>tw_val (k:=6) (s:=4) (by decide) (tab_free rfl) (.int .i64 (sa:Int)) (by have e:=(show aa.eval (.tmp 43)=.int .i64 (sa:Int)from hS 3 43 (by kernel_rfl) rfl);unfold execOp;simp only[e];rfl) hK rfl) ?_
     refine TwAllK.cons (fun aa wv hw ha hS Kk Qq hK=>tw_val (k:=7) (s:=4) (by decide) (tab_free rfl) (.int .i64 0) (by unfold execOp;rfl) hK rfl) ?_
     exact TwAllK.nil
    intro vals hv
    have e1:vals 7=.bool en:=hv 5 7 rfl
    have e2:vals 8=.int .i64 (sa:Int):=hv 6 8 rfl
    have e3:vals 9=.int .i64 0:=hv 7 9 rfl
    clear hv
    simp only[List.map_cons,List.map_nil,putL,Act.put,List.setIfInBounds_toArray,List.set_cons_zero,List.set_cons_succ,e1,e2,e3]
    clear e1 e2 e3
    go_wp2
    refine bodyPost_ret (v:=.tuple #[.agg T,.bool en,.int .i64 (sa:Int),.int .i64 0]) ((cell_tok4 rfl _ _ (h+1) T HTS.out rfl HX6.out).trans rfl) rfl ⟨by rw[HRE.out,HTE.out];rfl,?_⟩
    rw[←HH.out];exact below_rowC (Below.drew HB4.out) (by omega) _
   ·have hn0:(nextR k g l n).2.2.2=se:=by
     rcases Int.decEq (nextR k g l n).2.2.2 0 with h1|h1
     ·exact(HIS.out.2 h1).symm
     ·exfalso
      have:=congrArg (fun x=>x.2.2.2) (HIS.out.1 h1)
      exact he this
    have hRe:R=(tokZ,false,0,se):=by rw[HRR2.out,nxt_err (by rw[hn0];exact he),hn0]
    have d0:(se==0)=false:=beq_eq_false_iff_ne.2 he
    have d1:(se !=0)=true:=by simp[bne,d0]
    have HRE:=Lib.hid hRe
    clear hn0 hRe HIS he
    go_wp2_with (first
     |(refine wpList_store_rowTo rfl _ _ _ rfl rfl (h+1) T rfl rfl 68 Z HT4.out (by rw[HTS.out];exact szTok) (by rw[HZS.out,HTS.out]) HTO.out ?_;rw[←HW4.out])
     |fail)
    have HX5:Hid (BoxC (W4.drew) (h+1) T 68):=Lib.hid HX4.out
    have HR5:Hid (Rdr (W4.drew) p A l c (sa,se)):=Lib.hid HR4.out
    have HR6:Hid (Rdr ((W4.drew).setRow (h+1) Z) p A l c (sa,se)):=Lib.hid (BoxC.rowO HR5.out (by omega) Z)
    have HX6:Hid (BoxC ((W4.drew).setRow (h+1) Z) (h+1) Z 68):=Lib.hid (HX5.out.row Z)
    refine wp_region_two 3 (twT [fun v=>v=.agg Z,fun v=>v=.pointer (some ⟨p,2,none⟩),fun v=>v=.int .i64 se,fun v=>v=undef,fun v=>v=.bool false,fun v=>v=.int .i64 0,fun v=>v=.int .i64 se]) ((W4.drew).setRow (h+1) Z) (by kernel_rfl) (by kernel_rfl) ?_ ?_
    case refine_1=>
     refine TwAll.cons (fun aa wv hw ha hS Kk Qq hK=>tw_val (k:=0) (s:=3) (by decide) (tab_free rfl) (.agg Z) (by have hbz:=run_build (P:=Try.prog) wv 68 (#[]:Array (Nat×Value)) Z HZB.out;unfold execOp;simp only[List.map_toArray,List.map_nil,Sem.run_bind,hbz,Result.andThen_ok];rfl) hK rfl) ?_
     refine TwAll.cons (fun aa wv hw ha hS Kk Qq hK=>tw_val (k:=1) (s:=3) (by decide) (tab_free rfl) (.pointer (some ⟨p,2,none⟩)) (by have e:=(show aa.eval (.tmp 12)=.pointer (some ⟨p,0,none⟩)from((ha 12 (by kernel_rfl)).trans rfl));unfold execOp;simp only[e];go_simp) hK rfl) ?_
     refine TwAll.cons (fun aa wv hw ha hS Kk Qq hK=>tw_val (k:=2) (s:=3) (by decide) (tab_free rfl) (.int .i64 se) (by have e:=(show aa.eval (.tmp 38)=.pointer (some ⟨p,2,none⟩)from hS 1 38 (by kernel_rfl) rfl);have hc:wv.cell? ⟨p,2,none⟩=some (.int .i64 se):=by {rcases hw with hw|⟨hw,_,_⟩<;>first|(rw[hw];exact HR5.out.e)|(rw[hw];exact HR6.out.e)};unfold execOp;simp only[e];go_simp) hK rfl) ?_
     refine TwAll.cons (fun aa wv hw ha hS Kk Qq hK=>tw_store (s:=3) (tab_free rfl) rfl (by have e1:=(show aa.eval (.tmp 6)=.pointer (some ⟨h+1,0,none⟩)from((ha 6 (by kernel_rfl)).trans rfl));have e2:=(show aa.eval (.tmp 37)=.agg Z from hS 0 37 (by kernel_rfl) rfl);have hww:wv=W4.drew:=by {rcases hw with hw|⟨_,hw,_⟩<;>first|exact hw|exact absurd rfl hw};subst hww;have hst:=run_storeVar_row (P:=Try.prog) (W4.drew) (h+1) 68 68 T Z HX5.out (by rw[HZS.out];exact szTok) (HTS.out.trans HZS.out.symm) HZO.out;unfold execOp;simp only[e1,e2,Instr.storeAt,Instr.sureAddr,Sem.run_bind,Sem.run_pure,Result.andThen_ok,hst]) hK rfl) ?_
     refine TwAll.cons (fun aa wv hw ha hS Kk Qq hK=>tw_val (k:=4) (s:=3) (by decide) (tab_free rfl) (.bool false) (by unfold execOp;rfl) hK rfl) ?_
     refine TwAll.cons (fun aa wv hw ha hS Kk Qq hK=>tw_val (k:=5) (s:=3) (by decide) (tab_free rfl) (.int .i64 0) (by unfold execOp;rfl) hK rfl) ?_
     refine TwAll.cons (fun aa wv hw ha hS Kk Qq hK=>tw_val (k:=6) (s:=3) (by decide) (tab_free rfl) (.int .i64 se) (by have e:=(show aa.eval (.tmp 39)=.int .i64 se from hS 2 39 (by kernel_rfl) rfl);unfold execOp;simp only[e];rfl) hK rfl) ?_
     exact TwAll.nil
    intro vals hv
    have e1:vals 7=.bool false:=hv 4 7 rfl
    have e2:vals 8=.int .i64 0:=hv 5 8 rfl
    have e3:vals 9=.int .i64 se:=hv 6 9 rfl
    clear hv
    simp only[List.map_cons,List.map_nil,putL,Act.put,List.setIfInBounds_toArray,List.set_cons_zero,List.set_cons_succ,e1,e2,e3]
    clear e1 e2 e3
    go_wp2
    refine bodyPost_ret (v:=.tuple #[.agg Z,.bool false,.int .i64 0,.int .i64 se]) ((cell_tok4 rfl _ _ (h+1) Z HZS.out rfl HX6.out).trans rfl) rfl ⟨by rw[HRE.out,HZE.out];rfl,?_⟩
    rw[←HH.out];exact below_rowC (Below.drew HB4.out) (by omega) _
  ·subst hrf
   have HRE:Hid (R=(tokZ,false,0,8)):=Lib.hid (by rw[HRR.out,if_neg (fun h=>h rfl),if_pos rfl])
   clear ha HK HRR HXE
   go_enter Try.func35,Try.ntmps35
   go_wp2_with (first|(rw[←HW1.out,←HH.out])|fail)
   refine HAS.out.mono ?_
   rintro e w9 ⟨rfl,rfl⟩
   go_wp2_with (first
    |(refine wpList_load_row rfl _ _ rfl h rfl _ X (0,0) _ HX1.out Try.underlying28 rfl (szBlkT X HXS.out) ?_)
    |fail)
   refine HCH.out.mono ?_
   unfold chkI
   rw[if_neg (by decide)]
   rintro e w3 ⟨rfl,hb3⟩
   have HT3:=Lib.hid (HT1.out.below hb3 (by rw[HS1.out];omega))
   have HB3:=Lib.hid (HB1.out.trans (hb3.mono (by rw[HS1.out];omega)))
   have d8:((8:Int) !=0)=true:=rfl
   clear hb3
   go_wp2_with (first
    |(refine wpList_buildTo rfl 68 #[] rfl (some 24) rfl Z ?_ ?_;focus(simpa[Act.eval]using HZB.out))
    |(refine wpList_store_rowTo rfl _ _ _ rfl rfl (h+1) Z rfl rfl 68 Z HT3.out (by rw[HZS.out];exact szTok) rfl HZO.out ?_)
    |fail)
   refine bodyPost_ret ((cell_tok4 rfl _ _ (h+1) _ HZS.out rfl (setRow_heap _ _ _ _ _ _ HT3.out)).trans rfl) rfl ⟨by rw[HRE.out,HZE.out];rfl,?_⟩
   rw[←HH.out];exact below_rowC HB3.out (by omega) _
 have d0:(q==0)=false:=beq_eq_false_iff_ne.2 q0
 have d1:(q !=0)=true:=by simp[bne,d0]
 have HRE:Hid (R=(tokZ,false,0,q)):=Lib.hid (by rw[HRR.out,if_pos q0])
 clear HK HRR HXE
 go_enter Try.func35,Try.ntmps35
 go_wp2_with (first|(rw[←HW1.out,←HH.out])|fail)
 refine HAS.out.mono ?_
 rintro e w9 ⟨rfl,rfl⟩
 go_wp2_with (first
  |(refine wpList_buildTo rfl 68 #[] rfl (some 18) rfl Z ?_ ?_;focus(simpa[Act.eval]using HZB.out))
  |(refine wpList_store_rowTo rfl _ _ _ rfl rfl (h+1) Z rfl rfl 68 Z HT1.out (by rw[HZS.out];exact szTok) rfl HZO.out ?_)
  |fail)
 refine bodyPost_ret ((cell_tok4 rfl _ _ (h+1) _ HZS.out rfl (setRow_heap _ _ _ _ _ _ HT1.out)).trans rfl) rfl ⟨by rw[HRE.out,HZE.out];rfl,?_⟩
 rw[←HH.out];exact below_rowC HB1.out (by omega) _
end Go.Proofs.Ytcmpmighjglnpaa
namespace Go.Proofs.Ytcmpmighjglnpaa
theorem ahead_cut(g:Nat→Nat){m L:Nat}(h:m≤L):Ahead g m g L:=⟨h,fun _ _=>rfl⟩
theorem next_piece{k:Blk13}{g:Nat→Nat}{L a:Nat}(hk:BlkIn k)(ha:a≤8*L):nextR k g L a=upN (8*(a/8)) (nextR k (dropG g (a/8)) (min 600 (L-a/8)) (a%8)):=by
 have e:a=8*(a/8)+a%8:=by omega
 have h1:nextR k g L a=nextR k g L (8*(a/8)+a%8):=by rw[←e]
 rw[h1,next_drop (s:=a/8) (by omega)]
 by_cases h2:L-a/8≤600
 ·rw[Nat.min_eq_right h2]
 ·rw[Nat.min_eq_left (by omega)]
  rw[(ahead_cut (dropG g (a/8)) (m:=600) (L:=L-a/8) (by omega)).next fun h=>?_]
  have:=next_room hk h
  omega
theorem beg_piece{g:Nat→Nat}{L a:Nat}(ha:a≤8*L):begR g L a=upR (8*(a/8)) (begR (dropG g (a/8)) (min 600 (L-a/8)) (a%8)):=by
 have e:a=8*(a/8)+a%8:=by omega
 have h1:begR g L a=begR g L (8*(a/8)+a%8):=by rw[←e]
 rw[h1,beg_drop (s:=a/8) (by omega)]
 by_cases h2:L-a/8≤600
 ·rw[Nat.min_eq_right h2]
 ·rw[Nat.min_eq_left (by omega)]
  rw[(ahead_cut (dropG g (a/8)) (m:=600) (L:=L-a/8) (by omega)).beg fun h=>?_]
  have:=beg_room h
  omega
theorem piece_asked{L a:Nat}(ha:a≤8*L):asked13 (min 600 (L-a/8)) ((a%8:Nat):Int)=0:=by
 unfold asked13
 rw[if_neg (by omega),if_neg (by omega)]
theorem head_reads14{g:Nat→Nat}{L a:Nat}(ha:a≤8*L)(h:(begR g L a).2.2=0){k:Blk13}(hk:(begR g L a).1=k):
  MayI k.kind (k.left:Int) (tcO k.kind k.F k.n) (syO k.kind k.F k.n) (tcO k.kind k.G k.m) (syO k.kind k.G k.m)∧
  ReadsB k k.kind k.last (k.left:Int) (tcO k.kind k.F k.n) (syO k.kind k.F k.n) (tcO k.kind k.G k.m) (syO k.kind k.G k.m)∧(syO k.kind k.F k.n).length≤320∧(syO k.kind k.G k.m).length≤320:=by
 obtain⟨e1,e2,e3,e4,e5,e6,e7,e8⟩:=(head_is (g:=g) (L:=L) ha).1 h
 obtain⟨s1,s2⟩:=beg_small ha h
 rw[hk]at e5 e6 e8 s1 s2
 by_cases k0:k.kind=0
 ·have t1:∀F n,tcO k.kind F n=fun _=>0:=fun F n=>by unfold tcO;rw[if_pos k0]
  have t2:∀F n,syO k.kind F n=[]:=fun F n=>by unfold syO;rw[if_pos k0]
  rw[t1,t1,t2,t2]
  refine⟨.inl ⟨k0,by omega,by omega,by decide+kernel,by decide+kernel⟩,⟨rfl,rfl,rfl,e6,s1,s2,fun h=>absurd k0 h⟩,by decide,by decide⟩
 ·obtain⟨c0,_,_,_,_,c5,c6⟩:=e8 k0
  have q1:tcO k.kind k.F k.n=grC k.F k.n 15:=by unfold tcO;rw[if_neg k0];funext m;unfold grC;rw[if_pos c5]
  have q2:tcO k.kind k.G k.m=grC k.G k.m 15:=by unfold tcO;rw[if_neg k0];funext m;unfold grC;rw[if_pos c6]
  have q3:syO k.kind k.F k.n=grS k.F k.n 15:=by unfold syO grS;rw[if_neg k0,if_pos c5]
  have q4:syO k.kind k.G k.m=grS k.G k.m 15:=by unfold syO grS;rw[if_neg k0,if_pos c6]
  have g1:=grown_tree c5
  have g2:=grown_tree c6
  rw[q1,q2,q3,q4,c0]
  refine⟨.inr ⟨by omega,rfl,⟨_,g1⟩,⟨_,g2⟩⟩,⟨rfl,rfl,by rw[c0],by omega,s1,s2,fun _=>⟨g1,g2⟩⟩,by have:=(isTree_length g1).2;omega,by have:=(isTree_length g2).2;omega⟩
end Go.Proofs.Ytcmpmighjglnpaa
namespace Go.Proofs.Ytcmpmighjglnpaa
structure GoodK (k:Blk13):Prop where
 kind:k.kind≤2
 left:k.left≤65535
 n:k.n≤320
 m:k.m≤320
 code:k.kind≠0→k.left=0∧checkE k.F k.n 15=0∧checkE k.G k.m 15=0
theorem GoodK.into{k:Blk13}(h:GoodK k):BlkIn k:=⟨h.kind,h.left,fun h0=>CodeOk.of (h.code h0).2.1,fun h0=>CodeOk.of (h.code h0).2.2⟩
theorem GoodK.less{k:Blk13}(h:GoodK k):GoodK (lessK k):=
 ⟨h.kind,by show k.left-1≤65535;have:=h.left;omega,h.n,h.m,fun h0=>⟨by show k.left-1=0;have:=(h.code h0).1;omega,(h.code h0).2⟩⟩
theorem beg_goodK{g:Nat→Nat}{L a:Nat}(ha:a≤8*L)(h:(begR g L a).2.2=0):GoodK (begR g L a).1:=by
 obtain⟨_,_,_,_,h5,h6,_,h8⟩:=(head_is (g:=g) (L:=L) ha).1 h
 obtain⟨b1,b2⟩:=beg_small ha h
 exact⟨h5,h6,b1,b2,fun h0=>by obtain⟨c0,_,_,_,_,c5,c6⟩:=h8 h0;exact⟨c0,c5,c6⟩⟩
def addO(o:List Nat)(r:SwR):SwR:=if r.err=0 then{r with out:=o++r.out}else r
theorem addO_ok{o:List Nat}{st:Option Blk13}{ov:Bool}{win:List Nat}{made:Nat}{out:List Nat}{a:Nat}:addO o ⟨0,st,ov,win,made,out,a⟩=⟨0,st,ov,win,made,o++out,a⟩:=if_pos rfl
theorem addO_err{o:List Nat}{e:Int}(h:e≠0):addO o (swE e)=swE e:=if_neg h
theorem fed_out{g:Nat→Nat}{L most:Nat}(o:List Nat):∀f st win made out a,fedR g L most f st win made (o++out) a=addO o (fedR g L most f st win made out a)
 |0,st,win,made,out,a=>by unfold fedR;rw[addO_ok]
 |f+1,none,win,made,out,a=>by
  rw[fed_n,fed_n]
  by_cases h0:(begR g L a).2.2=10
  ·rw[if_pos h0,if_pos h0,addO_ok]
  ·rw[if_neg h0,if_neg h0]
   by_cases h1:(begR g L a).2.2≠0
   ·rw[if_pos h1,if_pos h1,addO_err h1]
   ·rw[if_neg h1,if_neg h1];exact fed_out o f _ _ _ _ _
 |f+1,some k,win,made,out,a=>by
  rw[fed_s,fed_s]
  by_cases h0:(nextR k g L a).2.2.2=10
  ·rw[if_pos h0,if_pos h0,addO_ok]
  ·rw[if_neg h0,if_neg h0]
   by_cases h1:(nextR k g L a).2.2.2≠0
   ·rw[if_pos h1,if_pos h1,addO_err h1]
   ·rw[if_neg h1,if_neg h1]
    by_cases h2:(nextR k g L a).2.1=true
    ·rw[if_pos h2,if_pos h2]
     by_cases h3:k.last=true
     ·rw[if_pos h3,if_pos h3,addO_ok]
     ·rw[if_neg h3,if_neg h3];exact fed_out o f _ _ _ _ _
    ·rw[if_neg h2,if_neg h2]
     split
     ·rw[addO_err (by decide)]
     ·split
      ·rw[addO_err (by decide)]
      ·rw[List.append_assoc];exact fed_out o f _ _ _ _ _
theorem fed_outA{g:Nat→Nat}{L most:Nat}(o:List Nat)(st:Option Blk13)(win:List Nat)(made a:Nat):fedA g L most st win made o a=addO o (fedA g L most st win made [] a):=by
 have h:=fed_out (g:=g) (L:=L) (most:=most) o (muT L a st+1) st win made [] a
 rw[List.append_nil]at h
 exact h
structure Kept (g:Nat→Nat) (L most:Nat) (win:List Nat) (made:Nat) (out:List Nat) (a:Nat) (q:SwR):Prop where
 told:∃o,q.out=out++o∧q.made=made+o.length∧q.win=lastN 32768 (win++o)∧BytesP o
 room:q.made≤most
 le:a≤q.at_
 inn:q.at_≤8*L
 over:q.over=true→q.st=none
 head:q.over=false→q.st=none→(begR g L q.at_).2.2=10
 step:∀k,q.st=some k→GoodK k∧(nextR k g L q.at_).2.2.2=10
theorem tok_bytes{win:List Nat}{t:Tok}(hw:BytesP win)(hx:t.x<256):BytesP (tokB win t):=by
 intro x h
 unfold tokB at h
 split at h
 ·simp at h;omega
 ·unfold copL at h
  obtain⟨i,_,rfl⟩:=List.mem_map.1 h
  exact lst_lt hw _
theorem Kept.more{g:Nat→Nat}{L most:Nat}{win b:List Nat}{made:Nat}{out:List Nat}{a p:Nat}{q:SwR}(hb:BytesP b)(hp:a≤p)(h:Kept g L most (winI win b) (made+b.length) (out++b) p q):Kept g L most win made out a q:=by
 obtain⟨⟨o,h1,h2,h3,h4⟩,h5,h6,h7,h8,h9,h10⟩:=h
 refine⟨⟨b++o,by rw[h1,List.append_assoc],by rw[h2,List.length_append];omega,?_,fun x hx=>(List.mem_append.1 hx).elim (hb x) (h4 x)⟩,h5,by omega,h7,h8,h9,h10⟩
 rw[h3];unfold winI;rw[lastN_two,List.append_assoc]
theorem Kept.far{g:Nat→Nat}{L most:Nat}{win:List Nat}{made:Nat}{out:List Nat}{a p:Nat}{q:SwR}(hp:a≤p)(h:Kept g L most win made out p q):Kept g L most win made out a q:=
 ⟨h.told,h.room,Nat.le_trans hp h.le,h.inn,h.over,h.head,h.step⟩
theorem Kept.none{g:Nat→Nat}{L most:Nat}{win:List Nat}{made:Nat}{out:List Nat}{a:Nat}{st:Option Blk13}{ov:Bool}{p:Nat}(hw:win.length≤32768)(hm:made≤most)(hp:a≤p)(hl:p≤8*L)(h1:ov=true→st=.none)(h2:ov=false→st=.none→(begR g L p).2.2=10)(h3:∀k,st=some k→GoodK k∧(nextR k g L p).2.2.2=10):Kept g L most win made out a ⟨0,st,ov,win,made,out,p⟩:=
 ⟨⟨[],by rw[List.append_nil],rfl,by rw[List.append_nil];unfold lastN;rw[show win.length-32768=0 by omega,List.drop_zero],fun x hx=>by cases hx⟩,hm,hp,hl,h1,h2,h3⟩
theorem fed_keeps{g:Nat→Nat}{L most:Nat}:∀f st win made out a,a≤8*L→muT L a st<f→win.length≤32768→BytesP win→made≤most→(∀k,st=some k→GoodK k)→
  (fedR g L most f st win made out a).err=0→Kept g L most win made out a (fedR g L most f st win made out a)
 |0,_,_,_,_,_,_,hf,_,_,_,_,_=>absurd hf (by omega)
 |f+1,none,win,made,out,a,ha,hf,hw,hb,hm,hk,he=>by
  rw[fed_n]at he⊢
  by_cases h0:(begR g L a).2.2=10
  ·rw[if_pos h0]
   exact Kept.none hw hm (Nat.le_refl _) ha (fun _=>rfl) (fun _ _=>h0) (fun k h=>by cases h)
  ·rw[if_neg h0]at he⊢
   by_cases h1:(begR g L a).2.2≠0
   ·rw[if_pos h1]at he;exact absurd he h1
   ·rw[if_neg h1]at he⊢
    obtain⟨b1,b2⟩:=beg_fwd (g:=g) (L:=L) (a:=a) (by omega)
    refine Kept.far (by omega) (fed_keeps f _ _ _ _ _ b2 (by simp only[muT]at hf⊢;omega) hw hb hm (fun k h=>?_) he)
    injection h with h;rw[←h];exact beg_goodK ha (by omega)
 |f+1,some k,win,made,out,a,ha,hf,hw,hb,hm,hk,he=>by
  rw[fed_s]at he⊢
  by_cases h0:(nextR k g L a).2.2.2=10
  ·rw[if_pos h0]
   exact Kept.none hw hm (Nat.le_refl _) ha (fun h=>by cases h) (fun _ h=>by cases h) (fun k' h=>by injection h with h;rw[←h];exact⟨hk k rfl,h0⟩)
  ·rw[if_neg h0]at he⊢
   by_cases h1:(nextR k g L a).2.2.2≠0
   ·rw[if_pos h1]at he;exact absurd he h1
   ·rw[if_neg h1]at he⊢
    obtain⟨b1,b2,b3⟩:=next_fwd (k:=k) (g:=g) ha (by omega)
    have hmy:=next_may (k:=k) (g:=g) (L:=L) (a:=a) (by omega)
    simp only[muT]at hf
    by_cases h2:(nextR k g L a).2.1=true
    ·rw[if_pos h2]at he⊢
     by_cases h3:k.last=true
     ·rw[if_pos h3]
      exact Kept.none hw hm b1 b2 (fun _=>rfl) (fun h=>by cases h) (fun k h=>by cases h)
     ·rw[if_neg h3]at he⊢
      exact Kept.far b1 (fed_keeps f _ _ _ _ _ b2 (by simp only[muT];omega) hw hb hm (fun k h=>by cases h) he)
    ·rw[if_neg h2]at he⊢
     have b4:=b3 (by simpa using h2)
     obtain⟨m1,m2⟩:=hmy (by simpa using h2)
     by_cases h3:(win.length:Int)<(nextR k g L a).1.d
     ·rw[if_pos h3]at he;exact absurd he (show¬(60:Int)=0 by decide)
     ·rw[if_neg h3]at he⊢
      by_cases h4:most<made+lenT (nextR k g L a).1
      ·rw[if_pos h4]at he;exact absurd he (show¬(140:Int)=0 by decide)
      ·rw[if_neg h4]at he⊢
       have ht:=tok_bytes hb m2
       refine Kept.more ht b1 ?_
       rw[len_tok]
       refine fed_keeps f _ _ _ _ _ b2 (by simp only[muT];omega) ?_ ?_ (by omega) (fun k' h=>?_) he
       ·unfold winI;rw[lastN_len];omega
       ·unfold winI;exact lastN_mem fun x hx=>(List.mem_append.1 hx).elim (hb x) (ht x)
       ·injection h with h;rw[←h];exact(hk k rfl).less
theorem Kept.few{g:Nat→Nat}{L most:Nat}{win:List Nat}{made:Nat}{out:List Nat}{a:Nat}{q:SwR}(h:Kept g L most win made out a q)(ho:q.over=false):L-q.at_/8≤600:=by
 have h1:8*L<q.at_+4600:=by
  cases hs:q.st with
  |none=>exact beg_room (h.head ho hs)
  |some k=>have:=next_room (h.step k hs).1.into (h.step k hs).2;omega
 omega
end Go.Proofs.Ytcmpmighjglnpaa
namespace Go.Proofs.Ytcmpmighjglnpaa
open Go.RowKit
structure UnV where
 M:Int
 D:Int
 I:Value
 a:Int
 kd:Nat
 last:Bool
 left:Int
 c1:Nat→Int
 c2:Nat→Int
 v1:Value
 v2:Value
 op:Bool
 S:Int
 W:Value
 ov:Bool
 b:Value
 bit:Nat
 t:Value
 wait:Nat
def UnV.blk(u:UnV):List Value:=blkL u.kd u.last u.left u.c1 u.c2 u.v1 u.v2
def UnV.sw(u:UnV):SwV:=⟨u.M,u.D,u.I,u.a,u.blk,u.op,u.S,u.W,u.ov⟩
def UnV.tl(u:UnV):List Value:=[u.b,.int .i64 (u.bit:Int),u.t,.int .i64 (u.wait:Int)]
def unL(u:UnV):List Value:=swL u.sw++u.tl
def unA(u:UnV):Array Value:=(unL u).toArray
theorem swL_len{x:SwV}(h:x.B.length=37):(swL x).length=45:=by simp[swL,swP,swQ,h]
theorem unA_size(u:UnV):(unA u).size=49:=by
 show(swL u.sw++u.tl).length=49
 rw[List.length_append,swL_len (blkL_len ..)];rfl
def unZ:UnV:=⟨0,0,.slice none 0 0,0,0,false,0,fun _=>0,fun _=>0,.slice none 0 0,.slice none 0 0,false,0,.slice none 0 0,false,.slice none 0 0,0,.slice none 0 0,0⟩
abbrev UnB(w:World)(p:Nat)(u:UnV):Prop:=BoxC w p (unA u) 51
section
variable {w:World} {p:Nat} {u:UnV}
theorem UnB.cM(h:UnB w p u):w.cell? ⟨p,0,none⟩=some (.int .i64 u.M):=(BoxC.cell h).trans rfl
theorem UnB.cD(h:UnB w p u):w.cell? ⟨p,1,none⟩=some (.int .i64 u.D):=(BoxC.cell h).trans rfl
theorem UnB.cI(h:UnB w p u):w.cell? ⟨p,2,none⟩=some u.I:=(BoxC.cell h).trans rfl
theorem UnB.ca(h:UnB w p u):w.cell? ⟨p,3,none⟩=some (.int .i64 u.a):=(BoxC.cell h).trans rfl
theorem UnB.ck(h:UnB w p u):w.cell? ⟨p,4,none⟩=some (.int .u8 (u.kd:Int)):=(BoxC.cell h).trans rfl
theorem UnB.cl(h:UnB w p u):w.cell? ⟨p,5,none⟩=some (.bool u.last):=(BoxC.cell h).trans rfl
theorem UnB.ce(h:UnB w p u):w.cell? ⟨p,6,none⟩=some (.int .i64 u.left):=(BoxC.cell h).trans rfl
theorem UnB.cop(h:UnB w p u):w.cell? ⟨p,41,none⟩=some (.bool u.op):=(BoxC.cell h).trans rfl
theorem UnB.cS(h:UnB w p u):w.cell? ⟨p,42,none⟩=some (.int .i64 u.S):=(BoxC.cell h).trans rfl
theorem UnB.cW(h:UnB w p u):w.cell? ⟨p,43,none⟩=some u.W:=(BoxC.cell h).trans rfl
theorem UnB.cov(h:UnB w p u):w.cell? ⟨p,44,none⟩=some (.bool u.ov):=(BoxC.cell h).trans rfl
theorem UnB.cb(h:UnB w p u):w.cell? ⟨p,45,none⟩=some u.b:=(BoxC.cell h).trans rfl
theorem UnB.cbit(h:UnB w p u):w.cell? ⟨p,46,none⟩=some (.int .i64 (u.bit:Int)):=(BoxC.cell h).trans rfl
theorem UnB.ct(h:UnB w p u):w.cell? ⟨p,47,none⟩=some u.t:=(BoxC.cell h).trans rfl
theorem UnB.cwait(h:UnB w p u):w.cell? ⟨p,48,none⟩=some (.int .i64 (u.wait:Int)):=(BoxC.cell h).trans rfl
theorem UnB.free(h:UnB w p u)(i:Nat):w.frozen? ⟨p,i,none⟩=false:=BoxC.free h
theorem un_range(h:UnB w p u)(pre mid post:List Value)(e:unL u=pre++mid++post):w.rangeAt p pre.length mid:=by
 refine range_mid (t:=51) (pre:=pre) (post:=post) ?_
 rw[←e];exact h
theorem UnB.rB(h:UnB w p u):w.rangeAt p 4 u.blk:=un_range h (swP u.sw) u.blk (swQ u.sw++u.tl) (by unfold unL swL;simp[UnV.sw])
theorem UnB.rW(h:UnB w p u):w.rangeAt p 42 [.int .i64 u.S,u.W]:=by
 have:=un_range h (swP u.sw++u.blk++[Value.bool u.op]) [.int .i64 u.S,u.W] (Value.bool u.ov::u.tl) (by unfold unL swL;simp[UnV.sw,swQ])
 have e:(swP u.sw++u.blk++[Value.bool u.op]).length=42:=by simp[swP,UnV.blk,blkL_len]
 rwa[e]at this
theorem UnB.rS(h:UnB w p u):w.rangeAt p 0 (swL u.sw):=un_range h [] (swL u.sw) u.tl (by unfold unL;simp)
theorem UnB.sD(h:UnB w p u)(x:Int):UnB (w.setCell ⟨p,1,none⟩ (.int .i64 x)) p {u with D:=x}:=(BoxC.set h 1 _)
theorem UnB.sI(h:UnB w p u)(x:Value):UnB (w.setCell ⟨p,2,none⟩ x) p {u with I:=x}:=(BoxC.set h 2 _)
theorem UnB.sa(h:UnB w p u)(x:Int):UnB (w.setCell ⟨p,3,none⟩ (.int .i64 x)) p {u with a:=x}:=(BoxC.set h 3 _)
theorem UnB.se(h:UnB w p u)(x:Int):UnB (w.setCell ⟨p,6,none⟩ (.int .i64 x)) p {u with left:=x}:=(BoxC.set h 6 _)
theorem UnB.sop(h:UnB w p u)(x:Bool):UnB (w.setCell ⟨p,41,none⟩ (.bool x)) p {u with op:=x}:=(BoxC.set h 41 _)
theorem UnB.sov(h:UnB w p u)(x:Bool):UnB (w.setCell ⟨p,44,none⟩ (.bool x)) p {u with ov:=x}:=(BoxC.set h 44 _)
theorem UnB.sbit(h:UnB w p u)(x:Nat):UnB (w.setCell ⟨p,46,none⟩ (.int .i64 (x:Int))) p {u with bit:=x}:=(BoxC.set h 46 _)
theorem UnB.st(h:UnB w p u)(x:Value):UnB (w.setCell ⟨p,47,none⟩ x) p {u with t:=x}:=(BoxC.set h 47 _)
theorem UnB.swait(h:UnB w p u)(x:Nat):UnB (w.setCell ⟨p,48,none⟩ (.int .i64 (x:Int))) p {u with wait:=x}:=(BoxC.set h 48 _)
theorem un_setB(u:UnV)(kd:Nat)(last:Bool)(left:Int)(c1 c2:Nat→Int)(v1 v2:Value):setL 4 (blkL kd last left c1 c2 v1 v2) (unA u)=unA {u with kd:=kd,last:=last,left:=left,c1:=c1,c2:=c2,v1:=v1,v2:=v2}:=by
 have h:=setL_mid (blkL kd last left c1 c2 v1 v2) u.blk (swP u.sw) (swQ u.sw++u.tl) (by rw[blkL_len,UnV.blk,blkL_len])
 have e:(swP u.sw++u.blk++(swQ u.sw++u.tl)).toArray=unA u:=by unfold unA unL swL;simp[UnV.sw]
 rw[e]at h
 refine h.trans ?_
 unfold unA unL swL;simp[UnV.sw,UnV.blk,UnV.tl,swP,swQ]
theorem un_setW(u:UnV)(S:Int)(W:Value):setL 42 [.int .i64 S,W] (unA u)=unA {u with S:=S,W:=W}:=by
 have h:=setL_mid [.int .i64 S,W] [.int .i64 u.S,u.W] (swP u.sw++u.blk++[Value.bool u.op]) (Value.bool u.ov::u.tl) rfl
 have e:(swP u.sw++u.blk++[Value.bool u.op]++[Value.int .i64 u.S,u.W]++(Value.bool u.ov::u.tl)).toArray=unA u:=by unfold unA unL swL;simp[UnV.sw,swQ]
 rw[e,show(swP u.sw++u.blk++[Value.bool u.op]).length=42 by simp[swP,UnV.blk,blkL_len]]at h
 refine h.trans ?_
 unfold unA unL swL;simp[UnV.sw,UnV.tl,UnV.blk,swP,swQ]
end
theorem Fr.setCells{S:Nat→Prop}(w:World)(p o:Nat)(vs:List Value)(hp:S p):Fr S w (w.setCells p o vs):=by
 have h:=below_setCells (B:=p) (a:=w) (Nat.le_refl p) vs o w (Below.refl _ _)
 exact⟨h.os,h.tape,h.output,h.size,fun k _ hk=>setCells_other (fun e=>hk (by rw[e];exact hp)) vs o w⟩
theorem UnB.sB{w:World}{p:Nat}{u:UnV}(h:UnB w p u)(kd:Nat)(last:Bool)(left:Int)(c1 c2:Nat→Int)(v1 v2:Value):UnB (w.setCells p 4 (blkL kd last left c1 c2 v1 v2)) p {u with kd:=kd,last:=last,left:=left,c1:=c1,c2:=c2,v1:=v1,v2:=v2}:=by
 have a:=BoxC.setCells (blkL kd last left c1 c2 v1 v2) 4 w _ h
 rw[un_setB]at a;exact a
theorem UnB.sW{w:World}{p:Nat}{u:UnV}(h:UnB w p u)(S:Int)(W:Value):UnB (w.setCells p 42 [.int .i64 S,W]) p {u with S:=S,W:=W}:=by
 have a:=BoxC.setCells [.int .i64 S,W] 42 w _ h
 rw[un_setW]at a;exact a
theorem UnB.th{w:World}{p:Nat}{u:UnV}(h:UnB w p u)(o n:Nat)(hn:o+n≤49):w.there p o n:=there_box h o n (by rw[unA_size];exact hn)
def TS(p:Nat)(t:Value):Nat→Prop:=fun j=>j=p∨t.ownBlock=some j
def ByF(S:Nat→Prop)(w:World)(A:Option Addr)(n c:Nat)(f:Nat→Nat):Prop:=RdF S w A n f∧(A=none→c=0)∧n≤c∧c≤maxLen
theorem ByF.r{S:Nat→Prop}{w:World}{A:Option Addr}{n c:Nat}{f:Nat→Nat}(h:ByF S w A n c f):ByR w w.heap.size A n c f:=⟨h.1.1,h.2⟩
theorem ByF.go{S T:Nat→Prop}{w w':World}{A:Option Addr}{n c:Nat}{f:Nat→Nat}(h:ByF S w A n c f)(k:Fr S w w')(hT:∀j,T j→S j∨w.heap.size≤j):ByF T w' A n c f:=by
 refine⟨⟨(h.1.fr k).1,fun b o h0 e ht=>?_⟩,h.2⟩
 rcases hT b ht with hs|hn
 ·exact h.1.2 b o h0 e hs
 ·obtain⟨b',o',e',hlt,_⟩:=h.1.1.2 h0
  rw[e]at e';injection e' with e';injection e' with e1 _ _;omega
theorem ByF.new{S:Nat→Prop}{w:World}{A:Option Addr}{n c B:Nat}{f:Nat→Nat}(h:ByR w w.heap.size A n c f)(hn:NewBs B A)(hS:∀j,S j→j<B):ByF S w A n c f:=
 ⟨⟨h.1,fun b o _ e hs=>by have:=hn b (by rw[e];rfl);have:=hS b hs;omega⟩,h.2⟩
theorem ByF.old{S:Nat→Prop}{w:World}{A:Option Addr}{n c B:Nat}{f:Nat→Nat}(h:ByR w B A n c f)(hB:B≤w.heap.size)(hS:∀j,S j→B≤j):ByF S w A n c f:=
 ⟨⟨h.1.more hB,fun b o h0 e hs=>by
  obtain⟨b',o',e',hlt,_⟩:=h.1.2 h0
  rw[e]at e';injection e' with e';injection e' with e1 _ _;have:=hS b hs;omega⟩,h.2⟩
def BlkT(w:World)(h0:Nat)(u:UnV):Option Blk13→Prop
 |none=>u.op=false∧u.kd=0∧u.last=false∧u.left=0∧u.c1=(fun _=>0)∧u.c2=(fun _=>0)∧OwnS w h0 u.v1 []∧OwnS w h0 u.v2 []
 |some k=>u.op=true∧GoodK k∧∃s1 s2,MayI u.kd u.left u.c1 s1 u.c2 s2∧ReadsB k u.kd u.last u.left u.c1 s1 u.c2 s2∧OwnS w h0 u.v1 s1∧OwnS w h0 u.v2 s2∧s1.length≤1000000∧s2.length≤1000000
structure UnR (w:World) (h0 p:Nat) (u:UnV) (k:Option Blk13) (g:Nat→Nat) (L:Nat) (pw out:List Nat):Prop where
 box:UnB w p u
 lo:h0≤p
 told:∃At ct,u.t=.slice At out.length ct∧w.ownsRow h0 5 1 u.t out.length (bytesL out.length (lst out))
 b:∃Ab cb,u.b=.slice Ab L cb∧ByF (TS p u.t) w Ab L cb g
 win:∃Aw cw,u.W=.slice Aw pw.length cw∧ByF (TS p u.t) w Aw pw.length cw (lst pw)
 S:u.S=32768
 blk:BlkT w h0 u k
 bout:BytesP out
 bpw:BytesP pw
 lout:out.length≤1000000
 lpw:pw.length≤32768
 lL:L≤1000000
 bit:u.bit≤8*L
 wait:u.wait≤out.length
 bel:h0≤w.heap.size
theorem OwnS.on{w w':World}{B:Nat}{v:Value}{s:List Int}(h:OwnS w B v s)(hb:Below w.heap.size w w'):OwnS w' B v s:=own_keep h hb
theorem BlkT.on{w w':World}{h0:Nat}{u:UnV}{k:Option Blk13}(h:BlkT w h0 u k)(hb:Below w.heap.size w w'):BlkT w' h0 u k:=by
 cases k with
 |none=>obtain⟨h1,h2,h3,h4,h5,h6,h7,h8⟩:=h;exact⟨h1,h2,h3,h4,h5,h6,h7.on hb,h8.on hb⟩
 |some k=>obtain⟨h1,h2,s1,s2,h3,h4,h5,h6,h7⟩:=h;exact⟨h1,h2,s1,s2,h3,h4,h5.on hb,h6.on hb,h7⟩
theorem OwnS.frA{S:Nat→Prop}{w w':World}{B:Nat}{v:Value}{s:List Int}(h:OwnS w B v s)(hb:Fr S w w')(hS:∀j,S j→v.ownBlock≠some j):OwnS w' B v s:=by
 obtain⟨h1,h2⟩:=h
 refine⟨h1,?_⟩
 rcases h2 with h2|⟨g,cap,cur,hv,hg,hh,r⟩
 ·exact .inl h2
 ·refine .inr ⟨g,cap,cur,hv,hg,(hb.block g (Array.getElem?_eq_some_iff.1 hh).1 fun hs=>hS g hs ?_).trans hh,r⟩
  subst hv;rfl
theorem ints_away{w:World}{B n p:Nat}{v t:Value}{s:List Int}{xs:List Value}{u:UnV}(h:OwnS w B v s)(hb:UnB w p u)(ht:w.ownsRow B 5 1 t n xs):∀j,TS p t j→v.ownBlock≠some j:=by
 rintro j (rfl|hj) hv
 ·exact own_type h hb (by kernel_rfl) hv
 ·rcases ht.2 with⟨rfl,_⟩|⟨g,cap,cur,rfl,hg,hh,_⟩
  ·simp[Value.ownBlock]at hj
  ·simp[Value.ownBlock]at hj
   subst hj
   exact own_type h hh (by kernel_rfl) hv
theorem BlkT.fr{w w':World}{h0 p n:Nat}{u u':UnV}{t:Value}{xs:List Value}{k:Option Blk13}(h:BlkT w h0 u k)(hb:UnB w p u')(ht:w.ownsRow h0 5 1 t n xs)(f:Fr (TS p t) w w'):BlkT w' h0 u k:=by
 cases k with
 |none=>obtain⟨h1,h2,h3,h4,h5,h6,h7,h8⟩:=h;exact⟨h1,h2,h3,h4,h5,h6,h7.frA f (ints_away h7 hb ht),h8.frA f (ints_away h8 hb ht)⟩
 |some k=>obtain⟨h1,h2,s1,s2,h3,h4,h5,h6,h7⟩:=h;exact⟨h1,h2,s1,s2,h3,h4,h5.frA f (ints_away h5 hb ht),h6.frA f (ints_away h6 hb ht),h7⟩
theorem told_ge{w:World}{h0 n:Nat}{t:Value}{xs:List Value}(h:w.ownsRow h0 5 1 t n xs){j:Nat}(hj:t.ownBlock=some j):h0≤j∧j<w.heap.size:=by
 rcases h.2 with⟨rfl,_⟩|⟨g,cap,cur,rfl,hg,hh,_⟩
 ·simp[Value.ownBlock]at hj
 ·simp[Value.ownBlock]at hj
  subst hj
  exact⟨hg,(Array.getElem?_eq_some_iff.1 hh).1⟩
section
variable {w w':World} {h0 p L:Nat} {u:UnV} {k:Option Blk13} {g:Nat→Nat} {pw out:List Nat}
theorem UnR.lt(h:UnR w h0 p u k g L pw out):∀j,TS p u.t j→j<w.heap.size:=by
 rintro j (rfl|hj)
 ·exact BoxC.lt h.box
 ·obtain⟨_,_,_,ho⟩:=h.told;exact(told_ge ho hj).2
theorem UnR.on(h:UnR w h0 p u k g L pw out)(hb:Below w.heap.size w w'):UnR w' h0 p u k g L pw out:=by
 have hf:Fr (TS p u.t) w w':=Fr.of hb
 obtain⟨At,ct,e,ho⟩:=h.told
 obtain⟨Ab,cb,e2,hB⟩:=h.b
 obtain⟨Aw,cw,e3,hW⟩:=h.win
 exact⟨BoxC.below h.box hb (BoxC.lt h.box),h.lo,⟨At,ct,e,own_keep ho hb⟩,⟨Ab,cb,e2,hB.go hf fun _ h=>.inl h⟩,⟨Aw,cw,e3,hW.go hf fun _ h=>.inl h⟩,h.S,h.blk.on hb,h.bout,h.bpw,h.lout,h.lpw,h.lL,h.bit,h.wait,Nat.le_trans h.bel hb.size⟩
theorem UnR.cells(h:UnR w h0 p u k g L pw out)(hf:Fr (At p) w w'){u':UnV}(hbox:UnB w' p u')(et:u'.t=u.t)(eb:u'.b=u.b)(eW:u'.W=u.W)(eS:u'.S=u.S){k':Option Blk13}(hk:BlkT w' h0 u' k')(hbit:u'.bit≤8*L)(hw:u'.wait≤out.length):UnR w' h0 p u' k' g L pw out:=by
 have hf2:Fr (TS p u.t) w w':=hf.mono fun j hj=>.inl hj
 obtain⟨At',ct,e,ho⟩:=h.told
 obtain⟨Ab,cb,e2,hB⟩:=h.b
 obtain⟨Aw,cw,e3,hW⟩:=h.win
 refine⟨hbox,h.lo,⟨At',ct,et.trans e,?_⟩,⟨Ab,cb,eb.trans e2,?_⟩,⟨Aw,cw,eW.trans e3,?_⟩,eS.trans h.S,hk,h.bout,h.bpw,h.lout,h.lpw,h.lL,hbit,hw,Nat.le_trans h.bel hf.size⟩
 ·rw[et]
  obtain⟨h1,h2⟩:=ho
  refine⟨h1,?_⟩
  rcases h2 with h2|⟨x,cap,cur,hv,hg,hh,r⟩
  ·exact .inl h2
  ·refine .inr ⟨x,cap,cur,hv,hg,(hf.block x (Array.getElem?_eq_some_iff.1 hh).1 fun hs=>?_).trans hh,r⟩
   have hs':x=p:=hs
   subst hs'
   have hb2:w.heap[x]?=some (.cells (unA u) 51 (0,0)):=h.box
   rw[hb2]at hh
   injection hh with hh
   injection hh with _ h4 _
   exact absurd h4 (by decide)
 ·rw[et];exact hB.go hf2 fun _ h=>.inl h
 ·rw[et];exact hW.go hf2 fun _ h=>.inl h
theorem BlkT.cells{k:Option Blk13}{w w':World}{h0 n:Nat}{u u':UnV}{t:Value}{xs:List Value}(h:BlkT w h0 u k)(hb:UnB w p u')(_ht:w.ownsRow h0 5 1 t n xs)(f:Fr (At p) w w'):BlkT w' h0 u k:=by
 cases k with
 |none=>
  obtain⟨h1,h2,h3,h4,h5,h6,h7,h8⟩:=h
  exact⟨h1,h2,h3,h4,h5,h6,h7.frA f (fun j hj=>by have hj':j=p:=hj;subst hj';exact own_type h7 hb (by kernel_rfl)),h8.frA f (fun j hj=>by have hj':j=p:=hj;subst hj';exact own_type h8 hb (by kernel_rfl))⟩
 |some k=>
  obtain⟨h1,h2,s1,s2,h3,h4,h5,h6,h7⟩:=h
  exact⟨h1,h2,s1,s2,h3,h4,h5.frA f (fun j hj=>by have hj':j=p:=hj;subst hj';exact own_type h5 hb (by kernel_rfl)),h6.frA f (fun j hj=>by have hj':j=p:=hj;subst hj';exact own_type h6 hb (by kernel_rfl)),h7⟩
theorem UnR.own(h:UnR w h0 p u k g L pw out):w.ownsRow h0 5 1 u.t out.length (bytesL out.length (lst out)):=by obtain⟨_,_,_,ho⟩:=h.told;exact ho
theorem UnR.setD(h:UnR w h0 p u k g L pw out)(x:Int):UnR (w.setCell ⟨p,1,none⟩ (.int .i64 x)) h0 p {u with D:=x} k g L pw out:=
 h.cells (Fr.cell _ _ _ _) (h.box.sD x) rfl rfl rfl rfl (h.blk.cells (h.box) h.own (Fr.cell _ _ _ _)) h.bit h.wait
theorem UnR.setWait(h:UnR w h0 p u k g L pw out)(x:Nat)(hx:x≤out.length):UnR (w.setCell ⟨p,48,none⟩ (.int .i64 (x:Int))) h0 p {u with wait:=x} k g L pw out:=
 h.cells (Fr.cell _ _ _ _) (h.box.swait x) rfl rfl rfl rfl (h.blk.cells (h.box) h.own (Fr.cell _ _ _ _)) h.bit hx
theorem UnR.setBit(h:UnR w h0 p u k g L pw out)(x:Nat)(hx:x≤8*L):UnR (w.setCell ⟨p,46,none⟩ (.int .i64 (x:Int))) h0 p {u with bit:=x} k g L pw out:=
 h.cells (Fr.cell _ _ _ _) (h.box.sbit x) rfl rfl rfl rfl (h.blk.cells (h.box) h.own (Fr.cell _ _ _ _)) hx h.wait
theorem UnR.any(h:UnR w h0 p u k g L pw out){w2:World}{u':UnV}{pw' out':List Nat}(hf:Fr (TS p u.t) w w2)(hbox:UnB w2 p u')(et:∃At ct,u'.t=.slice At out'.length ct)(ho:w2.ownsRow h0 5 1 u'.t out'.length (bytesL out'.length (lst out')))
  (hnew:∀j,u'.t.ownBlock=some j→u.t.ownBlock=some j∨w.heap.size≤j) (eb:u'.b=u.b) (hwin:∃Aw cw,u'.W=.slice Aw pw'.length cw∧ByF (TS p u'.t) w2 Aw pw'.length cw (lst pw')) (eS:u'.S=32768) (hk:BlkT w2 h0 u' k)
  (hbo:BytesP out') (hbp:BytesP pw') (hl:out'.length≤1000000) (hlp:pw'.length≤32768) (hbit:u'.bit≤8*L) (hw:u'.wait≤out'.length):UnR w2 h0 p u' k g L pw' out':=by
 obtain⟨Ab,cb,e2,hB⟩:=h.b
 obtain⟨At',ct',et⟩:=et
 exact⟨hbox,h.lo,⟨At',ct',et,ho⟩,⟨Ab,cb,eb.trans e2,hB.go hf fun j hj=>by
  rcases hj with hj|hj
  ·exact .inl (.inl hj)
  ·rcases hnew j hj with h1|h1
   ·exact .inl (.inr h1)
   ·exact .inr h1⟩,hwin,eS,hk,hbo,hbp,hl,hlp,h.lL,hbit,hw,Nat.le_trans h.bel hf.size⟩
theorem UnR.winGo(h:UnR w h0 p u k g L pw out){w2:World}{t':Value}(hf:Fr (TS p u.t) w w2)(hnew:∀j,t'.ownBlock=some j→u.t.ownBlock=some j∨w.heap.size≤j):∃Aw cw,u.W=.slice Aw pw.length cw∧ByF (TS p t') w2 Aw pw.length cw (lst pw):=by
 obtain⟨Aw,cw,e2,hB⟩:=h.win
 exact⟨Aw,cw,e2,hB.go hf fun j hj=>by
  rcases hj with hj|hj
  ·exact .inl (.inl hj)
  ·rcases hnew j hj with h1|h1
   ·exact .inl (.inr h1)
   ·exact .inr h1⟩
theorem UnR.more(h:UnR w h0 p u k g L pw out){At:Option Addr}{ct:Nat}(e:u.t=.slice At out.length ct){w1:World}{A':Option Addr}{c':Nat}{out':List Nat}(ho:w1.ownsRow h0 5 1 (.slice A' out'.length c') out'.length (bytesL out'.length (lst out')))
  (hb:Below h0 w w1) (hst:∀j,j<w.heap.size→(Value.slice At out.length ct).ownBlock≠some j→w1.heap[j]?=w.heap[j]?) (hnew:∀j,(Value.slice A' out'.length c').ownBlock=some j→(Value.slice At out.length ct).ownBlock=some j∨w.heap.size≤j)
  (hbo:BytesP out') (hl:out'.length≤1000000) (hw:u.wait≤out'.length):UnR (w1.setCell ⟨p,47,none⟩ (.slice A' out'.length c')) h0 p {u with t:=.slice A' out'.length c'} k g L pw out'∧UnB w1 p u:=by
 rw[←e]at hst hnew
 have hp:u.t.ownBlock≠some p:=own_type h.own h.box (by kernel_rfl)
 have b1:UnB w1 p u:=(hst p (BoxC.lt h.box) hp).trans h.box
 have f1:Fr (TS p u.t) w w1:=⟨hb.os,hb.tape,hb.output,hb.size,fun j hj hS=>hst j hj fun e=>hS (.inr e)⟩
 have f2:Fr (TS p u.t) w (w1.setCell ⟨p,47,none⟩ (.slice A' out'.length c')):=f1.trans ((Fr.cell w1 p 47 _).mono fun j hj=>.inl hj)
 have b2:=b1.st (.slice A' out'.length c')
 have hp':(Value.slice A' out'.length c').ownBlock≠some p:=own_type ho b1 (by kernel_rfl)
 refine⟨h.any f2 b2 ⟨_,_,rfl⟩ (own_blk ho fun j hj=>Below.heap_setCell _ _ _ j fun e'=>hp' ?_) hnew rfl (h.winGo f2 hnew) h.S ?_ hbo h.bpw hl h.lpw h.bit hw,b1⟩
 ·have e2:j=p:=e'
  rw[←e2];exact hj
 ·exact(h.blk.fr (h.box) h.own f2:BlkT _ h0 u k)
end
end Go.Proofs.Ytcmpmighjglnpaa
