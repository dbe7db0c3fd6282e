/-
  Words and walks.
-/
import Derived.Deep.MidRow
import Derived.Deep.DeepCutAuto
import Derived.Great.BuildSlice
import Derived.Deep.WholeRow
import Derived.Lib.SmallJoins
import Derived.Test.YtcmpmighjglnpaaGreattaaa
import Derived.Test.YtcmpmighjglnpaaGreattaab
import Derived.Test.YtcmpmighjglnpaaGreattaad
import Derived.Test.YtcmpmighjglnpaaGreattaah
import Derived.Test.YtcmpmighjglnpaaGreattaal
import Derived.Test.YtcmpmighjglnpaaGreattaao
import Derived.Test.YtcmpmighjglnpaaGreattaat
import Derived.Test.YtcmpmighjglnpaaGreattaay
import Derived.Test.YtcmpmighjglnpaaGreattaba
set_option maxRecDepth 100000
set_option maxHeartbeats 16000000
namespace Go.Proofs.YtcmpmighjglnpaaGreat
open Go.RowKit
structure ThInv (l:List Oper) (T:Nat→Value→Prop) (a0:Act) (W0 W1 W2:World) (s1 s2:Nat) (listed:Array Bool) (a:Act) (w:World):Prop where
 size:listed.size=l.length
 tmps:a.tmps.size=a0.tmps.size
 defers:a.defers=a0.defers
 off:∀t,(∀j d,listed.getD j false=true→(l[j]?).bind (·.dst)=some d→d≠t)→a.tmps[t]?=a0.tmps[t]?
 told:∀j d,listed.getD j false=true→(l[j]?).bind (·.dst)=some d→T j (a.eval (.tmp d))
 closed:∀j oj,l[j]?=some oj→listed.getD j false=true→∀e∈oj.after,Region.binds .any e=true→listed.getD e.on false=true
 world:w=if listed.getD s2 false=true then W2 else if listed.getD s1 false=true then W1 else W0
def ThStep(P:Program)(l:List Oper)(T:Nat→Value→Prop)(a0:Act)(W0 W1 W2:World)(s1 s2 k:Nat)(o:Oper):Prop:=
 ∀(a:Act) (w:World),((w=W0∧k≠s2)∨(w=W1∧k≠s1∧Region.waitsFor .any l.toArray s1 k=false)∨(w=W2∧k≠s1∧k≠s2∧Region.waitsFor .any l.toArray s1 k=false∧Region.waitsFor .any l.toArray s2 k=false))→(∀t,offK l k t=true→a.eval (.tmp t)=a0.eval (.tmp t))→(∀j d,Region.waitsFor .any l.toArray k j=true→(l[j]?).bind (·.dst)=some d→T j (a.eval (.tmp d)))→
  ∀(K:Act→World→Prop) (Q:Exit→Act→World→Prop),(∀v,T k v→K (a.put o.dst v) (if k=s1 then W1 else if k=s2 then W2 else w))→if Region.wanted o (yielded l.toArray a.tmps)=true then Oper.wp P o a w K Q else K (a.put o.dst undef) w
def ThAll(P:Program)(l:List Oper)(T:Nat→Value→Prop)(a0:Act)(W0 W1 W2:World)(s1 s2:Nat):Nat→List Oper→Prop
 |_,[]=>True
 |k,o::r=>ThStep P l T a0 W0 W1 W2 s1 s2 k o∧ThAll P l T a0 W0 W1 W2 s1 s2 (k+1) r
theorem ThAll.get{P:Program}{l:List Oper}{T:Nat→Value→Prop}{a0:Act}{W0 W1 W2:World}{s1 s2:Nat}:∀{r:List Oper} {k:Nat},ThAll P l T a0 W0 W1 W2 s1 s2 k r→∀{j:Nat} {o:Oper},r[j]?=some o→ThStep P l T a0 W0 W1 W2 s1 s2 (k+j) o
 |[],_,_,_,_,h=>by cases h
 |_::_,k,hA,0,_,h=>by cases h;exact hA.1
 |_::r,k,hA,j+1,o,h=>by
  have:=ThAll.get (r:=r) hA.2 (j:=j) (by simpa using h)
  rw[show k+1+j=k+(j+1) by omega]at this
  exact this
theorem th_any{P:Program}{Q:Exit→Act→World→Prop}{a0:Act}{W0 W1 W2:World}{l:List Oper}{T:Nat→Value→Prop}{s1 s2:Nat}(hws:Region.waitsFor .any l.toArray s2 s1=true)(hne:s1≠s2)(hB:tabB l a0.tmps.size=true)(hstep:ThAll P l T a0 W0 W1 W2 s1 s2 0 l)
  (hend:∀listed a w,ThInv l T a0 W0 W1 W2 s1 s2 listed a w→(∀i,i<l.length→listed.getD i false=true)→Q .normal a w):
  ∀(f:Nat) (listed:Array Bool) (a:Act) (w:World),((List.range l.length).filter fun i=> !listed.getD i false).length=f→ThInv l T a0 W0 W1 W2 s1 s2 listed a w→wpAny P .any l.toArray Q f listed a w:=by
 have hB':=hB
 simp only[tabB,Bool.and_eq_true,decide_eq_true_eq]at hB'
 obtain⟨⟨hnd,hin⟩,hlow⟩:=hB'
 have hall:∀(listed:Array Bool),listed.size=l.length→Region.ready .any l.toArray listed=[]→∀i,i<l.length→listed.getD i false=true:=fun listed hsz hr i=>by
  induction i using Nat.strongRecOn with
  |_ i ih=>
   intro hi
   cases hu:listed.getD i false with
   |true=>rfl
   |false=>
    exfalso
    have h1:=List.all_eq_true.1 hlow i (List.mem_range.2 hi)
    have hoi:l[i]?=some l[i]:=List.getElem?_eq_getElem hi
    simp only[hoi]at h1
    have:i∈Region.ready .any l.toArray listed:=mem_ready.2 ⟨getD_in (by omega) hu,l[i],by simp[hi],fun e he hb=>by
     have h2:=Array.all_eq_true_iff_forall_mem.1 h1 e he
     simp only[hb,Bool.not_true,Bool.false_or,decide_eq_true_eq]at h2
     exact ih e.on h2 (by omega)⟩
    rw[hr]at this;cases this
 intro f
 induction f with
 |zero=>
  intro listed a w hf inv
  have hup:∀i,i<l.length→listed.getD i false=true:=fun i hi=>by
   have h0:=List.length_eq_zero_iff.1 hf
   have h1:=List.filter_eq_nil_iff.1 h0 i (List.mem_range.2 hi)
   simpa using h1
  refine⟨?_,hend listed a w inv hup⟩
  apply List.eq_nil_iff_forall_not_mem.2
  intro i hi
  obtain⟨h0,o,ho,_⟩:=mem_ready.1 hi
  have hlt:i<l.length:=by have:=(Array.getElem?_eq_some_iff.1 ho).1;simpa using this
  have h1:=hup i hlt
  rw[getD_both h0]at h1;cases h1
 |succ f ih=>
  intro listed a w hf inv
  refine⟨fun h0=>hend listed a w inv (hall listed inv.size h0),fun k hk=>?_⟩
  obtain⟨h0,o,ho,hafter⟩:=mem_ready.1 hk
  have hol:l[k]?=some o:=by simpa using ho
  have hlt:k<l.length:=(List.getElem?_eq_some_iff.1 hol).1
  have hst:ThStep P l T a0 W0 W1 W2 s1 s2 k o:=by have:=hstep.get hol;rwa[Nat.zero_add]at this
  have heval:∀t,offK l k t=true→a.eval (.tmp t)=a0.eval (.tmp t):=fun t ht=>by
   show a.tmps.getD t undef=a0.tmps.getD t undef
   rw[Array.getD_eq_getD_getElem?,Array.getD_eq_getD_getElem?,inv.off t (fun j d hl hd e=>?_)]
   rcases offK_is ht hd e with e1|hw
   ·subst e1;rw[getD_both h0]at hl;cases hl
   ·obtain⟨oj,hoj,e,he,hb,hon⟩:=Region.waitsFor_spec hw
    have:=inv.closed j oj (by simpa using hoj) hl e he hb
    rw[hon,getD_both h0]at this;cases this
  have hfacts:∀j d,Region.waitsFor .any l.toArray k j=true→(l[j]?).bind (·.dst)=some d→T j (a.eval (.tmp d)):=fun j d hw hd=>by
   obtain⟨ok,hok,e,he,hb,hon⟩:=Region.waitsFor_spec hw
   rw[ho]at hok;cases hok
   exact inv.told j d (by have:=hafter e he hb;rwa[hon]at this) hd
  have hdlt:∀d,o.dst=some d→d<a.tmps.size:=fun d hd=>by
   have h1:=List.all_eq_true.1 hin o (List.mem_of_getElem? hol)
   simp only[hd,decide_eq_true_eq]at h1
   rw[inv.tmps];exact h1
  have hcl:∀s,listed.getD s false=true→Region.waitsFor .any l.toArray s k=false:=fun s hls=>by
   cases hw:Region.waitsFor .any l.toArray s k with
   |false=>rfl
   |true=>
    exfalso
    obtain⟨os,hos,e,he,hb,hon⟩:=Region.waitsFor_spec hw
    have:=inv.closed s os (by simpa using hos) hls e he hb
    rw[hon,getD_both h0]at this;cases this
  have hke:∀s,listed.getD s false=true→k≠s:=fun s hls e=>by subst e;rw[getD_both h0]at hls;cases hls
  have h21:listed.getD s2 false=true→listed.getD s1 false=true:=fun hls=>by
   obtain⟨os,hos,e,he,hb,hon⟩:=Region.waitsFor_spec hws
   have:=inv.closed s2 os (by simpa using hos) hls e he hb
   rwa[hon]at this
  have hk2:k=s2→listed.getD s1 false=true:=fun e=>by
   obtain⟨os,hos,e',he,hb,hon⟩:=Region.waitsFor_spec hws
   rw[←e,ho]at hos;cases hos
   have:=hafter e' he hb
   rwa[hon]at this
  have hw01:(w=W0∧k≠s2)∨(w=W1∧k≠s1∧Region.waitsFor .any l.toArray s1 k=false)∨(w=W2∧k≠s1∧k≠s2∧Region.waitsFor .any l.toArray s1 k=false∧Region.waitsFor .any l.toArray s2 k=false):=by
   have hw:=inv.world
   cases hl2:listed.getD s2 false with
   |true=>
    rw[hl2,if_pos rfl]at hw
    exact .inr (.inr ⟨hw,hke s1 (h21 hl2),hke s2 hl2,hcl s1 (h21 hl2),hcl s2 hl2⟩)
   |false=>
    rw[hl2,if_neg (by decide)]at hw
    cases hl1:listed.getD s1 false with
    |true=>rw[hl1,if_pos rfl]at hw;exact .inr (.inl ⟨hw,hke s1 hl1,hcl s1 hl1⟩)
    |false=>rw[hl1,if_neg (by decide)]at hw;exact .inl ⟨hw,fun e=>by rw[hk2 e]at hl1;cases hl1⟩
  have hgo:=hst a w hw01 heval hfacts (wpAny P .any l.toArray Q f (listed.setIfInBounds k true)) Q (fun v hv=>by
   refine ih _ _ _ ?_ ⟨by simp[inv.size],?_,?_,fun t ht=>?_,fun j d hl hd=>?_,fun j oj hj hl e he hb=>?_,?_⟩
   ·have hfe:((List.range l.length).filter fun i=> !(listed.setIfInBounds k true).getD i false)=((List.range l.length).filter fun i=> !listed.getD i false).erase k:=by
     rw[List.Nodup.erase_eq_filter (List.nodup_range.filter _),List.filter_filter]
     apply List.filter_congr
     intro x hx
     by_cases e:x=k
     ·subst e
      have:x<listed.size:=by rw[inv.size];exact hlt
      simp[this]
     ·rw[getD_set_ne false (Ne.symm e)];simp[e]
    rw[hfe,List.length_erase_of_mem (List.mem_filter.2 ⟨List.mem_range.2 hlt,by rw[getD_both h0];rfl⟩),hf];rfl
   ·unfold Act.put;cases o.dst<;>simp[inv.tmps]
   ·unfold Act.put;cases o.dst<;>exact inv.defers
   ·rw[←inv.off t (fun j d hl hd=>ht j d (getD_set_true hl) hd)]
    unfold Act.put
    cases hd:o.dst with
    |none=>rfl
    |some d=>
     have e:d≠t:=ht k d (by have:k<listed.size:=(by rw[inv.size];exact hlt);simp[this]) (by rw[hol];simpa using hd)
     simp[Array.getElem?_setIfInBounds_ne e]
   ·by_cases e:j=k
    ·subst e
     rw[hol]at hd
     have hd':o.dst=some d:=by simpa using hd
     have hlt2:=hdlt d hd'
     have he:(a.put o.dst v).eval (.tmp d)=v:=by rw[hd'];simp[Act.put,Act.eval,hlt2]
     rw[he];exact hv
    ·rw[getD_set_ne false (Ne.symm e)]at hl
     have h1:=inv.told j d hl hd
     have he:(a.put o.dst v).eval (.tmp d)=a.eval (.tmp d):=Act.eval_put fun d' hd' hx=>by
      cases hx
      cases hj:l[j]? with
      |none=>rw[hj]at hd;cases hd
      |some y=>
       rw[hj]at hd
       exact e (tab_dst hnd hj hol (by simpa using hd) hd')
     rw[he];exact h1
   ·by_cases e':j=k
    ·subst e'
     rw[hol]at hj;cases hj
     exact getD_set_true (hafter e he hb)
    ·rw[getD_set_ne false (Ne.symm e')]at hl
     exact getD_set_true (inv.closed j oj hj hl e he hb)
   ·by_cases e1:k=s1
    ·subst e1
     have hk:k<listed.size:=by rw[inv.size];exact hlt
     have h2:(listed.setIfInBounds k true).getD s2 false=false:=by
      rw[getD_set_ne false hne]
      cases hl2:listed.getD s2 false with
      |false=>rfl
      |true=>have:=h21 hl2;rw[getD_both h0]at this;cases this
     rw[if_pos rfl,h2,if_neg (by decide)];simp[hk]
    ·rw[if_neg e1]
     by_cases e2:k=s2
     ·subst e2
      have hk:k<listed.size:=by rw[inv.size];exact hlt
      rw[if_pos rfl];simp[hk]
     ·rw[if_neg e2,getD_set_ne false e1,getD_set_ne false e2];exact inv.world)
  unfold wpOp
  simp only[ho]
  split at hgo
  ·rename_i hw;rw[if_pos hw];exact .inl hgo
  ·rename_i hw;rw[if_neg hw];exact hgo
theorem wp_region_three{P:Program}{id:Nat}{Q:Exit→Act→World→Prop}{a0:Act}{w0:World}{l:List Oper}(s1 s2:Nat)(T:Nat→Value→Prop)(W1 W2:World)(hm:P.follows .mixedOrders=true)(hs:(decide (s1≠s2)&&decide (s2<l.length)&&Region.waitsFor .any l.toArray s2 s1&&tabB l a0.tmps.size)=true)
  (hstep:ThAll P l T a0 w0.drew W1 W2 s1 s2 0 l)
  (hend:∀(vals:Tmp→Value),(∀j d,(l[j]?).bind (·.dst)=some d→T j (vals d))→Q .normal (putL (l.map (·.dst)) vals a0) W2):(Code.region id l.toArray true).wp P Q a0 w0:=by
 simp only[Bool.and_eq_true,decide_eq_true_eq]at hs
 obtain⟨⟨⟨hne,hsl⟩,hws⟩,hB⟩:=hs
 refine wp_region_any hm ?_
 have hl0:∀i,(Array.replicate l.toArray.size false).getD i false=false:=fun i=>getD_replicate_false _ _
 refine th_any (T:=T) hws hne hB hstep (fun listed a w inv hup=>?_) l.toArray.size _ _ _ ?_ ⟨by simp,rfl,rfl,fun _ _=>rfl,(fun j d h _=>by rw[hl0]at h;cases h),(fun j oj _ h=>by rw[hl0]at h;cases h),by rw[hl0,hl0];rfl⟩
 ·have ha:a=putL (l.map (·.dst)) (fun d=>a.eval (.tmp d)) a0:=by
   have ht:a.tmps=(putL (l.map (·.dst)) (fun d=>a.eval (.tmp d)) a0).tmps:=by
    apply Array.ext_getElem?
    intro t
    by_cases ht:some t∈l.map (·.dst)
    ·obtain⟨o,ho,hd⟩:=List.mem_map.1 ht
     simp only[tabB,Bool.and_eq_true,decide_eq_true_eq]at hB
     have h1:=List.all_eq_true.1 hB.1.2 o ho
     simp only[hd,decide_eq_true_eq]at h1
     rw[putL_in _ _ _ t (.inl ht) h1]
     have h2:t<a.tmps.size:=by rw[inv.tmps];exact h1
     simp[Act.eval,h2]
    ·rw[putL_out _ _ _ t ht]
     refine inv.off t (fun j d _ hd e=>ht ?_)
     cases hj:l[j]? with
     |none=>rw[hj]at hd;cases hd
     |some y=>
      rw[hj]at hd
      exact List.mem_map.2 ⟨y,List.mem_of_getElem? hj,by rw[←e];simpa using hd⟩
   have hdf:a.defers=(putL (l.map (·.dst)) (fun d=>a.eval (.tmp d)) a0).defers:=by rw[putL_defers];exact inv.defers
   cases a with
   |mk t df=>
    generalize hp:putL (l.map (·.dst)) (fun d=>(Act.mk t df).eval (.tmp d)) a0=p at*
    cases p with
    |mk t2 df2=>simp only at ht hdf;rw[ht,hdf]
  have hw:=inv.world
  rw[if_pos (hup s2 hsl)]at hw
  rw[ha,hw]
  refine hend _ fun j d hd=>?_
  refine inv.told j d (hup j ?_) hd
  cases hj:l[j]? with
  |none=>rw[hj]at hd;cases hd
  |some _=>exact(List.getElem?_eq_some_iff.1 hj).1
 ·rw[List.filter_eq_self.2 (fun i _=>by rw[hl0];rfl)];simp
theorem th_val{P:Program}{l:List Oper}{o:Oper}{a:Act}{w W1 W2:World}{s1 s2 k:Nat}{T:Value→Prop}{K:Act→World→Prop}{Q:Exit→Act→World→Prop}{E:Prop}(h1:k≠s1)(h2:k≠s2)(hw:Region.wanted o (yielded l.toArray a.tmps)=true)(v:Value)
  (hr:(execOp a.eval o).run P w=.ok (.value v) w) (hK:∀v,T v→K (a.put o.dst v) (if k=s1 then W1 else if k=s2 then W2 else w)) (hT:T v):if Region.wanted o (yielded l.toArray a.tmps)=true then Oper.wp P o a w K Q else E:=by
 rw[if_pos hw]
 unfold Oper.wp
 rw[hr]
 have:=hK v hT
 rw[if_neg h1,if_neg h2]at this
 exact this
theorem th_first{P:Program}{l:List Oper}{o:Oper}{a:Act}{w W1 W2:World}{s1 s2:Nat}{T:Value→Prop}{K:Act→World→Prop}{Q:Exit→Act→World→Prop}{E:Prop}(hw:Region.wanted o (yielded l.toArray a.tmps)=true)(v:Value)
  (hr:(execOp a.eval o).run P w=.ok (.value v) W1) (hK:∀v,T v→K (a.put o.dst v) (if s1=s1 then W1 else if s1=s2 then W2 else w)) (hT:T v):if Region.wanted o (yielded l.toArray a.tmps)=true then Oper.wp P o a w K Q else E:=by
 rw[if_pos hw]
 unfold Oper.wp
 rw[hr]
 have:=hK v hT
 rw[if_pos rfl]at this
 exact this
theorem th_store{P:Program}{l:List Oper}{o:Oper}{a:Act}{w W1 W2:World}{s1 s2:Nat}{T:Value→Prop}{K:Act→World→Prop}{Q:Exit→Act→World→Prop}{E:Prop}(hne:s2≠s1)(hw:Region.wanted o (yielded l.toArray a.tmps)=true)(_hd:o.dst=none)
  (hr:(execOp a.eval o).run P w=.ok .skip W2) (hK:∀v,T v→K (a.put o.dst v) (if s2=s1 then W1 else if s2=s2 then W2 else w)) (hT:T undef):if Region.wanted o (yielded l.toArray a.tmps)=true then Oper.wp P o a w K Q else E:=by
 rw[if_pos hw]
 unfold Oper.wp
 rw[hr]
 have:=hK undef hT
 rw[if_neg hne,if_pos rfl]at this
 exact this
theorem ThAll.nil{P:Program}{l:List Oper}{T:Nat→Value→Prop}{a0:Act}{W0 W1 W2:World}{s1 s2 k:Nat}:ThAll P l T a0 W0 W1 W2 s1 s2 k []:=trivial
theorem ThAll.cons{P:Program}{l:List Oper}{T:Nat→Value→Prop}{a0:Act}{W0 W1 W2:World}{s1 s2 k:Nat}{o:Oper}{r:List Oper}(h:ThStep P l T a0 W0 W1 W2 s1 s2 k o)(hr:ThAll P l T a0 W0 W1 W2 s1 s2 (k+1) r):ThAll P l T a0 W0 W1 W2 s1 s2 k (o::r):=⟨h,hr⟩
end Go.Proofs.YtcmpmighjglnpaaGreat
namespace Go.Proofs.YtcmpmighjglnpaaGreat
open Go.RowKit
theorem rangeMid{w:World}{g:Nat}{cs:Array Value}{t:TypeId}(h:BoxC w g cs t)(k:Nat)(l:List Value)(hl:∀i,i<l.length→cs[k+i]?=l[i]?):w.rangeAt g k l:=fun i v hv=>by
 have hi:i<l.length:=by
  rcases Nat.lt_or_ge i l.length with h|h
  ·exact h
  ·rw[List.getElem?_eq_none h]at hv;cases hv
 rw[h.cell,hl i hi];exact hv
end Go.Proofs.YtcmpmighjglnpaaGreat
namespace Go.Proofs.YtcmpmighjglnpaaGreat
open Go.RowKit Go.ChangeShapes Go.WideShapes Go.ChangeAt Go.Joins
section
variable {w w':World} {B g:Nat} {p p':Prs} {out:List Nat} {Ah:Option Addr} {hc:Nat} {Aw:Option Addr} {wc:Nat} {Ap:Option Addr} {pc:Nat} {Ao:Option Addr} {oc:Nat}
end
theorem ByR.from{w:World}{B n c q:Nat}{A A2:Option Addr}{L:List Nat}(h:ByR w B A n c (lst L))(hq:q≤n)(hA:(if c=q then A else A.map (·.add q))=A2):ByR w B A2 (n-q) (c-q) (lst (L.drop q)):=by
 have ef:lst (L.drop q)=fun j=>lst L (j+q):=funext fun j=>lst_drop L q j
 rw[ef]
 rcases A with _|a
 ·have h0:=h.2.1 rfl
  have hn:n=0:=by have:=h.2.2.1;omega
  have:A2=none:=by rw[←hA];split<;>rfl
  subst this
  exact⟨⟨fun j=>h.1.1 _,fun h=>absurd h (by omega)⟩,fun _=>by omega,by omega,by have:=h.2.2.2;omega⟩
 ·exact h.drop hq hA
end Go.Proofs.YtcmpmighjglnpaaGreat
namespace Go.Proofs.YtcmpmighjglnpaaGreat
open Go.RowKit
theorem used_le14{s:Swm}(h:GoodSw s){b:List Nat}(he:(feedM s b).err=0):usedM s b (feedM s b)≤b.length:=by
 have K:=feed_kept h he
 have hi:=K.inn
 rw[List.length_append]at hi
 unfold usedM
 split
 ·omega
 ·exact Nat.le_refl _
theorem next_told{s:Swm}(h:GoodSw s){b:List Nat}(he:(feedM s b).err=0):(nextM s b (feedM s b)).most=s.most∧(nextM s b (feedM s b)).made=s.made+(feedM s b).out.length∧(nextM s b (feedM s b)).win=lastN 32768 (s.win++(feedM s b).out)∧(nextM s b (feedM s b)).over=(feedM s b).over:=by
 have K:=feed_kept h he
 obtain⟨o,h1,h2,h3,_⟩:=K.told
 rw[List.nil_append]at h1
 rw[h1]
 unfold nextM
 cases ho:(feedM s b).over with
 |true=>rw[if_pos rfl];exact⟨rfl,h2,h3,rfl⟩
 |false=>rw[if_neg (by decide)];exact⟨rfl,h2,h3,rfl⟩
theorem bytes_of14{w:World}{B:Nat}{A:Option Addr}{c:Nat}{l:List Nat}(h:ByR w B A l.length c (lst l)):BytesP l:=by
 intro x hx
 obtain⟨i,hi,rfl⟩:=List.getElem_of_mem hx
 have:=h.1.1 i
 unfold lst at this
 rwa[List.getD_eq_getElem?_getD,List.getElem?_eq_getElem hi]at this
theorem rng_box{w:World}{b:Nat}{X:Array Value}(h:BoxC w b X 32):w.rangeAt b 0 X.toList:=rangeMid h 0 _ fun i hi=>by rw[Nat.zero_add,Array.getElem?_toList]
theorem new_bad14(w:World)(n:Int)(h:n<0∨131072<n):Calls Tryz.prog 7 #[.int .i64 n] w fun e w'=>e=.returned (.tuple #[.agg (swA swZ),.int .i64 2])∧Below w.heap.size w w':=by
 refine(unew14_any w n).mono ?_
 rintro e w' ⟨rfl,hb⟩
 refine⟨?_,hb⟩
 rw[show newV14 n=swZ from if_pos h,show newE14 n=2 from if_pos h]
structure FeeW (B:Nat) (W:World) (E:Int) (N:Swm) (O:List Nat) (X:Array Value) (At:Option Addr) (ct:Nat):Prop where
 r:FeeR W E N O X At ct
 o:W.ownsRow B 5 1 (.slice At O.length ct) O.length (bytesL O.length (lst O))
theorem FeeD.answ{B:Nat}{w w':World}{E:Int}{s:Swm}{b:List Nat}{e:Ending}(h:FeeD w E s b e w')(hB:B≤w.heap.size):
  ∃X At ct,e=.returned (.tuple #[.agg X,.slice At (ansO E s b).length ct,.int .i64 (ansU E s b:Int),.int .i64 E])∧FeeW B w' E (nextM s b (feedM s b)) (ansO E s b) X At ct∧Below w.heap.size w w':=by
 by_cases h0:E=0
 ·obtain⟨u,At,ct,e1,e2,e3,e4⟩:=h.ok h0
  refine⟨_,At,ct,?_,⟨⟨fun h=>absurd h0 h,fun _=>⟨u,w.heap.size,rfl,e2⟩,⟨w.heap.size,?_⟩,?_⟩,?_⟩,h.bel⟩
  ·unfold ansO ansU;rw[if_pos h0,if_pos h0,e1,h0]
  ·unfold ansO;rw[if_pos h0];exact e3
  ·unfold ansO;rw[if_pos h0];exact e4
  ·unfold ansO;rw[if_pos h0];exact ownsRow_lower e3 hB
 ·obtain⟨X,At,ct,e1,e2,e3⟩:=h.ans
  have hO:ansO E s b=[]:=by unfold ansO;rw[if_neg h0]
  refine⟨X,none,0,?_,⟨⟨e2.bad,e2.ok,⟨0,?_⟩,e2.bin⟩,?_⟩,e3⟩
  ·have h1:=h.bad h0
   rw[e1]at h1
   rw[hO]at h1⊢
   rw[e1,hO]
   injection h1 with h1
   injection h1 with h1
   simp only[Array.mk.injEq,List.cons.injEq]at h1
   rw[h1.2.1]
   rfl
  ·rw[hO];exact World.ownsRow_nil _ _ _ _
  ·rw[hO];exact World.ownsRow_nil _ _ _ _
section
variable {B:Nat} {W:World} {E:Int} {N:Swm} {O:List Nat} {X:Array Value} {At:Option Addr} {ct:Nat}
theorem FeeW.on(h:FeeW B W E N O X At ct){W':World}(hb:Below W.heap.size W W'):FeeW B W' E N O X At ct:=⟨h.r.on hb,own_keep h.o hb⟩
theorem FeeW.box(h:FeeW B W E N O X At ct){ad:Nat}{cs:Array Value}(bx:BoxC W ad cs 32)(Y:Array Value):FeeW B (W.setRow ad Y) E N O X At ct:=⟨h.r.box bx Y,own_box h.o bx (by decide) Y⟩
theorem FeeW.size(h:FeeW B W E N O X At ct):X.size=45:=h.r.size
theorem FeeW.one(h:FeeW B W E N O X At ct):X.all (·.oneCell')=true:=h.r.one
theorem FeeW.row(h:FeeW B W E N O X At ct):ByR W W.heap.size At O.length ct (lst O):=h.r.row
theorem FeeW.ok(h:FeeW B W E N O X At ct)(h0:E=0):∃u base,X=swA u.sw∧SwO W base u N:=h.r.ok h0
end
end Go.Proofs.YtcmpmighjglnpaaGreat
namespace Go.Proofs.YtcmpmighjglnpaaGreat
open Go.RowKit Go.ChangeShapes Go.WideShapes Go.ChangeAt Go.Joins
section
variable {H:Type} {enc:TypeId×Value→H} {P:Program} {w:World} {base:Nat} {spare:Nat→Bool} {held:Bool}
end
theorem byr_list{w:World}{B n c:Nat}{A:Option Addr}{f:Nat→Nat}(h:ByR w B A n c f):∃L:List Nat,L.length=n∧ByR w B A L.length c (lst L):=by
 have hl:BytesP (preL f n):=fun x hx=>by
  unfold preL at hx
  obtain⟨i,_,rfl⟩:=List.mem_map.1 hx
  exact h.1.1 i
 refine⟨preL f n,preL_length _ _,?_⟩
 rw[preL_length]
 refine h.same (lst_lt hl) fun j hj=>?_
 show f j=(preL f n).getD j 0
 rw[preL_get f hj]
end Go.Proofs.YtcmpmighjglnpaaGreat
