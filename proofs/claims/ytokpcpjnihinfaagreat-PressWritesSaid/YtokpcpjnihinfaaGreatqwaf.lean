/-
  Words and walks.
-/
import Derived.ChangeKeysEq
import Derived.Test.YtokpcpjnihinfaaGreatqwaa
import Derived.Test.YtokpcpjnihinfaaGreatqwab
import Derived.Test.YtokpcpjnihinfaaGreatqwac
import Derived.Test.YtokpcpjnihinfaaGreatqwad
import Derived.Test.YtokpcpjnihinfaaGreatqwae
set_option maxRecDepth 100000
set_option maxHeartbeats 16000000
namespace Go.Proofs.YtokpcpjnihinfaaGreat
open Value renaming int → ae, slice → af, pointer → ag, agg → ah, bool → ai
open IntKind renaming i64 → aj
open Obj renaming cells → ak
open Ending renaming returned → ao
open Go renaming World → aq, Addr → au, Calls → aw, Value → ax, Program → az, Oper → aA, TypeId → aB, wpList_store_rowTo → aC, wpList_load_row → aE, heap_alloc_new → aG
open Go.RowKit renaming intOf → aP, Hid → aQ, Below → aR
open _root_.Go.Proofs.Tryz
open Go.RowKit Go.ChangeShapes Go.WideShapes Go.ChangeAt Go.Joins
def l5(cs:Array ax):Prop:=∀(i:Nat) (x:Int),cs[i]?≠some (ae .u8 x)
theorem yI(A:Option au)(n c:Nat)(k:Int):l5 #[af A n c,ae aj k]:=fun i x=>by
 rcases i with _|_|i<;>simp
theorem yJ{V:aq}{B g n b o:Nat}{A:Option au}{f:Nat->Nat}{cs:Array ax}{t:aB}(h:iy V B A n f)(hg:gZ V g cs t)(hn:l5 cs)(h0:0<n)(e:A=some ⟨b,o,none⟩):b≠g:=fun hb=>by
 obtain⟨b',o',e',_,hc⟩:=h.2 h0;rw[e]at e';injection e' with e'
 injection e' with e1 e2 _
 have h1:=hc 0 h0;rw[<-e1,hb,hg.cell]at h1;exact hn _ _ h1
theorem iy.qG{V:aq}{B g n:Nat}{A:Option au}{f:Nat->Nat}{cs:Array ax}{t:aB}(h:iy V B A n f)(hg:gZ V g cs t)(hn:l5 cs)(i:Nat)(v:ax):iy (V.setCell ⟨g,i,none⟩ v) B A n f:=by
 refine⟨h.1,fun h0=>?_⟩;obtain⟨b,o,e,hb,hc⟩:=h.2 h0;have ad:=yJ h hg hn h0 e;refine⟨b,o,e,hb,fun j hj=>?_⟩;have h1:=hc j hj;have h2:=Below.heap_setCell V ⟨g,i,none⟩ v b ad;simp only[World.cell?,h2]at h1⊢;exact h1
theorem ib.qG{V:aq}{B g n c:Nat}{A:Option au}{f:Nat->Nat}{cs:Array ax}{t:aB}(h:ib V B A n c f)(hg:gZ V g cs t)(hn:l5 cs)(i:Nat)(v:ax):ib (V.setCell ⟨g,i,none⟩ v) B A n c f:=⟨h.1.qG hg hn i v,h.2⟩
theorem vW(V:aq)(p:au)(v:ax):(V.setCell p v).heap.size=V.heap.size:=by simp[World.setCell]
def Ky(V:aq)(g:Nat)(x y:ax):aq:=(V.setCell ⟨g,0,none⟩ x).setCell ⟨g,1,none⟩ y
theorem Kz{V:aq}{g:Nat}{a b:ax}{t:aB}(h:gZ V g #[a,b] t)(x y:ax):gZ (Ky V g x y) g #[x,y] t:=(h.set 0 x).set 1 y
theorem vX{k kind:Nat}{raw:List Nat}{l:List iu}{last:Bool}(hk:kind<=2)(al:k<=7)(hr:raw.length<=65535)(hb:jm raw)(hl:l.length<=65535)(ad:∀t∈l,iO t=true/\t.x<256):k+PR (iM (k%8) kind raw.length (hH raw) l last)<=4320007:=by
 have:=ti (a:=k%8) (last:=last) hk hr (kH hb) hl ad;omega
def yK(l:List aA)(i0 n:Nat):Bool:=(List.range n).all fun i=>i==i0||(List.range (n+1)).any fun j=>decide (i<j)&&j !=i0&&Region.waitsFor .any l.toArray j i
def vY(l:List aA)(i0:Nat):Bool:=(List.range l.length).all fun j=>j==i0||Region.waitsFor .any l.toArray i0 j||Region.waitsFor .any l.toArray j i0||match l[i0]?,l[j]? with
 |some x,some y=>x.apart l.toArray y
 |_,_=>false
theorem KA{l:List aA}{i0 n:Nat}{ig:Array Bool}(hs:yK l i0 n=true)(hc:Region.chainB .any l.toArray n=true)(hn:n<l.length)(inv:HeadInv .any l.toArray n ig){i:Nat}(hi:i<n)(aS:i≠i0)(hu:ig.getD i true=false):
  ∀t,n<=t->t∉Region.ready .any l.toArray ig:=by
 have a1:ig.size=l.length:=by rw[inv.size];simp
 have key:∀(d i:Nat),d=n-i->i<=n->i≠i0->ig.getD i true=false->n∈Region.ready .any l.toArray ig->i=n:=by
  intro d;induction d using Nat.strongRecOn with
  |_ d ih=>
   intro i hd hi aS hu hr;rcases Nat.eq_or_lt_of_le hi with e|hi
   ·exact e
   ·exfalso;have h1:=List.all_eq_true.1 hs i (List.mem_range.2 hi);simp only[Bool.or_eq_true,beq_iff_eq]at h1;rcases h1 with h1|h1
    ·exact aS h1
    ·obtain⟨j,hj,aT⟩:=List.any_eq_true.1 h1;simp only[Bool.and_eq_true,decide_eq_true_eq,bne_iff_ne,ne_eq]at aT;obtain⟨oj,aU,e,he,hb,av⟩:=Region.waitsFor_spec aT.2;have aW:j<=n:=by have:=List.mem_range.1 hj;omega
     cases hl:ig.getD j false with
     |true=>
      have h2:=inv.closed j oj aU hl e he hb;rw[av,getD_both hu]at h2;cases h2
     |false=>
      have aX:=ih (n-j) (by omega) j rfl aW aT.1.2 (getD_in (by omega) hl) hr;subst aX;obtain⟨_,ot,ad,al⟩:=mem_ready.1 hr;rw[aU]at ad;cases ad;have h2:=al e he hb;rw[av,getD_both hu]at h2;cases h2
 intro t ht hr
 by_cases aY:t=n
 ·subst aY;have:=key (t-i) i rfl (by omega) aS hu hr;omega
 ·obtain⟨_,ot,ad,al⟩:=mem_ready.1 hr;have aZ:t<l.length:=by have:=(Array.getElem?_eq_some_iff.1 ad).1;simpa using this
  have h1:=List.all_eq_true.1 hc t (List.mem_range.2 (by simpa using aZ));simp only[Bool.or_eq_true,decide_eq_true_eq]at h1;rcases h1 with h1|h1
  ·omega
  ·obtain⟨o',aV,e,he,hb,av⟩:=Region.waitsFor_spec h1;rw[ad]at aV;cases aV;have h2:=al e he hb;rw[av,getD_both (inv.tail (t-1) (by omega) (by simp;omega))]at h2;cases h2
theorem KB{P:az}{Q:Exit->Act->aq->Prop}{a0:Act}{U:aq}{l:List aA}{T:Nat->ax->aq->Prop}{n i0:Nat}{o0:aA}(aZ:l[i0]?=some o0)(a5:i0<n)(hn:n<l.length)(hs:yK l i0 n=true)(bz:vY l i0=true)(bj:Region.noSelect l.toArray=true)(bA:o0.guard=none)(d0:Tmp)(a1:o0.dst=some d0)(bB:∀v c a w,Q (.panic c) (a.put o0.dst v) w->Q (.panic c) a w)
  (bC:∀(a:Act) (w:aq),aR U.heap.size U w->(∀s,oA l s=true->a.eval (.tmp s)=a0.eval (.tmp s))->(∀j d,Region.waitsFor .any l.toArray i0 j=true->(l[j]?).bind (·.dst)=some d->Up (T j) (a.eval (.tmp d)) w)->∃v,(∀w',(execOp a.eval o0).run P w'=.ok (.value v) w')/\Up (T i0) v w)
   (hc:Region.chainB .any l.toArray n=true)
  (bk:Region.seqB .any l.toArray (l.length-n) n (kV n (l.length-n))=true) (hB:Qj l a0.tmps.size=true) (a7:ia P l T a0 U 0 (l.take n))
  (bl:∀ig a w,ry l T a0 U ig a w->(∀i,i<n->ig.getD i false=true)->(∀i,n<=i->i<l.length->ig.getD i true=false)->wpList P l.toArray Q (l.drop n) a w):
  ∀(f:Nat) (ig:Array Bool) (a:Act) (w:aq),((List.range n).filter fun i=> !ig.getD i false).length=f->ry l T a0 U ig a w->HeadInv .any l.toArray n ig->wpAny P .any l.toArray Q (f+(l.length-n)) ig a w:=by
 have bm:=hB
 simp only[Qj,Bool.and_eq_true,decide_eq_true_eq]at bm
 obtain⟨⟨bn,bp⟩,a6⟩:=bm
 intro f
 induction f with
 |zero=>
  intro ig a w hf inv hi;have bq:∀i,i<n->ig.getD i false=true:=fun i hi=>by
   have h0:=List.length_eq_zero_iff.1 hf;have h1:=List.filter_eq_nil_iff.1 h0 i (List.mem_range.2 hi);simpa using h1
  have hk:=bl ig a w inv bq (fun i h1 h2=>hi.tail i h1 (by simpa using h2));have he:=vt (n:=n) (g:=l.length-n) (ig:=ig) (by rw[inv.size];omega) (fun i h=>by
   have h1:=bq i h;cases h2:ig.getD i true with
   |true=>rfl
   |false=>rw[getD_both h2]at h1;cases h1) (fun t ht bR=>hi.tail t ht (by simp;omega))
  subst he;have h3:=wpAny_of_seq (P:=P) (md:=.any) (Q':=Q) (l.drop n) n (kV n (l.length-n)) a w (fun j=>by simp[List.getElem?_drop]) (by rw[List.length_drop];exact bk) hk;rw[List.length_drop]at h3;rw[Nat.zero_add];exact h3
 |succ f ih=>
  intro ig a w hf inv hi;rw[show f+1+(l.length-n)=(f+(l.length-n))+1 by omega];obtain⟨x,bD,a8⟩:∃x,x<n/\ig.getD x false=false:=by
   have:0<((List.range n).filter fun i=> !ig.getD i false).length:=by omega
   obtain⟨x,hx⟩:=List.exists_mem_of_length_pos this;obtain⟨h1,h2⟩:=List.mem_filter.1 hx;exact⟨x,List.mem_range.1 h1,by simpa using h2⟩
  by_cases a2:i0∈Region.ready .any l.toArray ig
  ·obtain⟨h0,o,ho,al⟩:=mem_ready.1 a2;have ad:l[i0]?=some o:=by simpa using ho
   have bE:o=o0:=by rw[aZ]at ad;exact(Option.some.inj ad).symm
   subst bE;have aW:i0<l.length:=(List.getElem?_eq_some_iff.1 ad).1;have aU:∀s,oA l s=true->a.eval (.tmp s)=a0.eval (.tmp s):=fun s hs=>by
    show a.tmps.getD s undef=a0.tmps.getD s undef
    rw[Array.getD_eq_getD_getElem?,Array.getD_eq_getD_getElem?,inv.off s (fun _ _ _ hd=>su hs hd)]
   have aT:∀j d,Region.waitsFor .any l.toArray i0 j=true->(l[j]?).bind (·.dst)=some d->Up (T j) (a.eval (.tmp d)) w:=fun j d hw hd=>by
    obtain⟨ok,av,e,he,hb,aV⟩:=Region.waitsFor_spec hw;rw[ho]at av;cases av;exact inv.told j d (by have:=al e he hb;rwa[aV]at this) hd
   obtain⟨v,bF,bG⟩:=bC a w inv.below aU aT;have aX:d0<a.tmps.size:=by
    have h1:=List.all_eq_true.1 bp o (List.mem_of_getElem? ad);simp only[a1,decide_eq_true_eq]at h1;rw[inv.tmps];exact h1
   refine wpAny_first (oi:=o) (v:=v) ho (Region.noSelect_spec bj) (bB v) (f+(l.length-n)) ig a w (fun j oj hj aY bH a9=>?_) a2 (.inl ⟨by simp[Region.wanted,bA],bF⟩) ?_
   ·have bI:j<l.length:=by have:=(Array.getElem?_eq_some_iff.1 hj).1;simpa using this
    have h1:=List.all_eq_true.1 bz j (List.mem_range.2 bI);have bJ:l[j]?=some oj:=by simpa using hj
    simp only[aZ,bJ,Bool.or_eq_true,beq_iff_eq]at h1;rcases h1 with((h1|h1)|h1)|h1
    ·exact absurd h1 aY
    ·obtain⟨ok,av,e,he,hb,aV⟩:=Region.waitsFor_spec h1;rw[ho]at av;cases av;have h2:=al e he hb;rw[aV,getD_both bH]at h2;cases h2
    ·obtain⟨ok,av,e,he,hb,aV⟩:=Region.waitsFor_spec h1;rw[hj]at av;cases av;exact absurd aV (a9 e he hb)
    ·exact h1
   ·refine ih _ _ _ ?_ ⟨by simp[inv.size],?_,?_,inv.below,fun s hs=>?_,fun j d hl hd=>?_⟩ (hi.set a2 a5)
    ·have bd:((List.range n).filter fun i=> !(ig.setIfInBounds i0 true).getD i false)=((List.range n).filter fun i=> !ig.getD i false).erase i0:=by
      rw[List.Nodup.erase_eq_filter (List.nodup_range.filter _),List.filter_filter];apply List.filter_congr;intro x hx;by_cases e:x=i0
      ·subst e;have:x<ig.size:=by rw[inv.size];exact aW
       simp[this]
      ·rw[getD_set_ne false (Ne.symm e)];simp[e]
     rw[bd,List.length_erase_of_mem (List.mem_filter.2 ⟨List.mem_range.2 a5,by rw[getD_both h0];rfl⟩),hf];rfl
    ·unfold Act.put;cases o.dst<;>simp[inv.tmps]
    ·unfold Act.put;cases o.dst<;>exact inv.defers
    ·rw[<-inv.off s (fun j d hl hd=>hs j d (getD_set_true hl) hd),a1];have e:d0≠s:=hs i0 d0 (by have:i0<ig.size:=(by rw[inv.size];exact aW);simp[this]) (by rw[ad];simpa using a1);simp[Act.put,Array.getElem?_setIfInBounds_ne e]
    ·by_cases e:j=i0
     ·subst e;rw[ad]at hd;have aS:o.dst=some d:=by simpa using hd
      have bK:d=d0:=by rw[a1]at aS;exact(Option.some.inj aS).symm
      subst bK;have he:(a.put o.dst v).eval (.tmp d)=v:=by rw[aS];simp[Act.put,Act.eval,aX]
      rw[he];exact bG
     ·rw[getD_set_ne false (Ne.symm e)]at hl;have h1:=inv.told j d hl hd;have he:(a.put o.dst v).eval (.tmp d)=a.eval (.tmp d):=Act.eval_put fun d' aS hx=>by
       cases hx
       cases hj:l[j]? with
       |none=>rw[hj]at hd;cases hd
       |some y=>
        rw[hj]at hd;exact e (sx bn hj ad (by simpa using hd) aS)
      rw[he];exact h1
  obtain⟨y,bL,br,bM⟩:∃y,y<n/\y≠i0/\ig.getD y false=false:=by
   by_cases e:x=i0
   ·subst e;have hex:∃e,e∈o0.after/\Region.binds .any e=true/\ig.getD e.on false≠true:=by
     apply Classical.byContradiction;intro a9;exact a2 (mem_ready.2 ⟨getD_in (by rw[inv.size];omega) a8,o0,by simpa using aZ,fun e he hb=>Classical.byContradiction fun aY=>a9 ⟨e,he,hb,aY⟩⟩)
    obtain⟨e,he,hb,aY⟩:=hex;have h1:=List.all_eq_true.1 a6 x (List.mem_range.2 (by omega));simp only[aZ]at h1;have h2:=Array.all_eq_true_iff_forall_mem.1 h1 e he;simp only[hb,Bool.not_true,Bool.false_or,decide_eq_true_eq]at h2;exact⟨e.on,by omega,by omega,by simpa using aY⟩
   ·exact⟨x,bD,e,a8⟩
  have bN:ig.getD y true=false:=getD_in (by rw[inv.size];omega) bM;have a3:∀i,i∈Region.ready .any l.toArray ig->i<n:=fun i hr=>by
   rcases Nat.lt_or_ge i n with g|g
   ·exact g
   ·exact absurd hr (KA hs hc hn hi bL br bN i g)
  refine⟨fun h0=>?_,fun k hk=>?_⟩
  ·exfalso;have bt:∀i,i<l.length->ig.getD i false=true:=fun i=>by
    induction i using Nat.strongRecOn with
    |_ i bO=>
     intro a4;cases hu:ig.getD i false with
     |true=>rfl
     |false=>
      exfalso;have h1:=List.all_eq_true.1 a6 i (List.mem_range.2 a4);have bP:l[i]?=some l[i]:=List.getElem?_eq_getElem a4;simp only[bP]at h1;have:i∈Region.ready .any l.toArray ig:=mem_ready.2 ⟨getD_in (by rw[inv.size];exact a4) hu,l[i],by simp[a4],fun e he hb=>by
       have h2:=Array.all_eq_true_iff_forall_mem.1 h1 e he;simp only[hb,Bool.not_true,Bool.false_or,decide_eq_true_eq]at h2;exact bO e.on h2 (by omega)⟩
      rw[h0]at this;cases this
   have:=bt x (by omega);rw[a8]at this;cases this
  ·have bf:=a3 k hk;obtain⟨h0,o,ho,al⟩:=mem_ready.1 hk;have ad:l[k]?=some o:=by simpa using ho
   have aW:k<l.length:=(List.getElem?_eq_some_iff.1 ad).1;have bQ:tq P l T a0 U k o:=by
    have:=a7.get (j:=k) (o:=o) (by rw[List.getElem?_take_of_lt bf];exact ad);rwa[Nat.zero_add]at this
   have aU:∀s,oA l s=true->a.eval (.tmp s)=a0.eval (.tmp s):=fun s hs=>by
    show a.tmps.getD s undef=a0.tmps.getD s undef
    rw[Array.getD_eq_getD_getElem?,Array.getD_eq_getD_getElem?,inv.off s (fun _ _ _ hd=>su hs hd)]
   have aT:∀j d,Region.waitsFor .any l.toArray k j=true->(l[j]?).bind (·.dst)=some d->Up (T j) (a.eval (.tmp d)) w:=fun j d hw hd=>by
    obtain⟨ok,av,e,he,hb,aV⟩:=Region.waitsFor_spec hw;rw[ho]at av;cases av;exact inv.told j d (by have:=al e he hb;rwa[aV]at this) hd
   have aX:∀d,o.dst=some d->d<a.tmps.size:=fun d hd=>by
    have h1:=List.all_eq_true.1 bp o (List.mem_of_getElem? ad);simp only[hd,decide_eq_true_eq]at h1;rw[inv.tmps];exact h1
   have bg:=bQ a w inv.below aU aT (wpAny P .any l.toArray Q (f+(l.length-n)) (ig.setIfInBounds k true)) Q (fun v w' hb hv=>by
    refine ih _ _ _ ?_ ⟨by simp[inv.size],?_,?_,inv.below.trans (hb.mono inv.below.size),fun s hs=>?_,fun j d hl hd=>?_⟩ (hi.set hk bf)
    ·have bd:((List.range n).filter fun i=> !(ig.setIfInBounds k true).getD i false)=((List.range n).filter fun i=> !ig.getD i false).erase k:=by
      rw[List.Nodup.erase_eq_filter (List.nodup_range.filter _),List.filter_filter];apply List.filter_congr;intro x hx;by_cases e:x=k
      ·subst e;have:x<ig.size:=by rw[inv.size];exact aW
       simp[this]
      ·rw[getD_set_ne false (Ne.symm e)];simp[e]
     rw[bd,List.length_erase_of_mem (List.mem_filter.2 ⟨List.mem_range.2 bf,by rw[getD_both h0];rfl⟩),hf];rfl
    ·unfold Act.put;cases o.dst<;>simp[inv.tmps]
    ·unfold Act.put;cases o.dst<;>exact inv.defers
    ·rw[<-inv.off s (fun j d hl hd=>hs j d (getD_set_true hl) hd)];unfold Act.put;cases hd:o.dst with
     |none=>rfl
     |some d=>
      have e:d≠s:=hs k d (by have:k<ig.size:=(by rw[inv.size];exact aW);simp[this]) (by rw[ad];simpa using hd);simp[Array.getElem?_setIfInBounds_ne e]
    ·by_cases e:j=k
     ·subst e;rw[ad]at hd;have aS:o.dst=some d:=by simpa using hd
      have bu:=aX d aS;have he:(a.put o.dst v).eval (.tmp d)=v:=by rw[aS];simp[Act.put,Act.eval,bu]
      rw[he];exact hv
     ·rw[getD_set_ne false (Ne.symm e)]at hl;have h1:=inv.told j d hl hd;have he:(a.put o.dst v).eval (.tmp d)=a.eval (.tmp d):=Act.eval_put fun d' aS hx=>by
       cases hx
       cases hj:l[j]? with
       |none=>rw[hj]at hd;cases hd
       |some y=>
        rw[hj]at hd;exact e (sx bn hj ad (by simpa using hd) aS)
      rw[he];exact h1.on hb)
   unfold wpOp;simp only[ho];split at bg
   ·rename_i hw;rw[if_pos hw];exact .inl bg
   ·rename_i hw;rw[if_neg hw];exact bg
theorem DU{P:az}{o:aA}{a:Act}(x:Operand)(i:Nat)(ho:o.op=.extract x i)(u v:ax)(hx:a.eval x=u)(hr:∀w,(Instr.extract u i).run P w=.ok v w):∀w',(execOp a.eval o).run P w'=.ok (.value v) w':=fun w'=>by
 unfold execOp;simp only[ho,hx,Sem.run_bind,hr w',Result.andThen_ok];rfl
def DV(l:List aA)(i0 n m:Nat):Bool:=decide (i0<n)&&vY l i0&&Region.noSelect l.toArray&&decide (n<l.length)&&yK l i0 n&&Region.chainB .any l.toArray n&&Region.seqB .any l.toArray (l.length-n) n (kV n (l.length-n))&&Qj l m
theorem DW{P:az}{id:Nat}{Q:Exit->Act->aq->Prop}{a0:Act}{w0:aq}{l:List aA}(n i0:Nat)(o0:aA)(aX:l[i0]?=some o0)(aY:o0.guard=none)(d0:Tmp)(aZ:o0.dst=some d0)(T:Nat->ax->aq->Prop)(U:aq)(hU:aR U.heap.size U w0)(hm:P.follows .mixedOrders=true)(hB:DV l i0 n a0.tmps.size=true)(a1:∀v c a w,Q (.panic c) (a.put o0.dst v) w->Q (.panic c) a w)
  (a2:∀(a:Act) (w:aq),aR U.heap.size U w->(∀s,oA l s=true->a.eval (.tmp s)=a0.eval (.tmp s))->(∀j d,Region.waitsFor .any l.toArray i0 j=true->(l[j]?).bind (·.dst)=some d->Up (T j) (a.eval (.tmp d)) w)->∃v,(∀w',(execOp a.eval o0).run P w'=.ok (.value v) w')/\Up (T i0) v w)
  (ad:ia P l T a0 U 0 (l.take n))
  (av:∀(vals:Tmp->ax) (w:aq),aR U.heap.size U w->(∀j d,((l.take n)[j]?).bind (·.dst)=some d->Up (T j) (vals d) w)->wpList P l.toArray Q (l.drop n) (P5 ((l.take n).map (·.dst)) vals a0) w):(Code.region id l.toArray true).wp P Q a0 w0:=by
 simp only[DV,Bool.and_eq_true,decide_eq_true_eq]at hB
 obtain⟨⟨⟨⟨⟨⟨⟨aS,a3⟩,aT⟩,hn⟩,hs⟩,hc⟩,aU⟩,hB⟩:=hB
 refine wp_region_any hm ?_
 have al:∀i,(Array.replicate l.toArray.size false).getD i false=false:=fun i=>getD_replicate_false _ _
 have hinv:HeadInv .any l.toArray n (Array.replicate l.toArray.size false):=⟨by simp,(fun j oj _ hl=>by rw[al]at hl;cases hl),(fun t _ ht=>by simp at ht;simp[ht])⟩
 have key:=KB (P:=P) (Q:=Q) (T:=T) (U:=U) aX aS hn hs a3 aT aY d0 aZ a1 a2 hc aU hB ad (fun ig a w inv a4 a5=>by
  have ha:a=P5 ((l.take n).map (·.dst)) (fun d=>a.eval (.tmp d)) a0:=by
   have aV:=hB;simp only[Qj,Bool.and_eq_true,decide_eq_true_eq]at aV;have ht:a.tmps=(P5 ((l.take n).map (·.dst)) (fun d=>a.eval (.tmp d)) a0).tmps:=by
    apply Array.ext_getElem?;intro s;by_cases hs:some s∈(l.take n).map (·.dst)
    ·obtain⟨o,ho,hd⟩:=List.mem_map.1 hs;have h1:=List.all_eq_true.1 aV.1.2 o (List.mem_of_mem_take ho);simp only[hd,decide_eq_true_eq]at h1;rw[sr _ _ _ s (.inl hs) h1];have h2:s<a.tmps.size:=by rw[inv.tmps];exact h1
     simp[Act.eval,h2]
    ·rw[ss _ _ _ s hs];refine inv.off s (fun j d hl hd e=>hs ?_);cases hj:l[j]? with
     |none=>rw[hj]at hd;cases hd
     |some y=>
      have a6:j<l.length:=(List.getElem?_eq_some_iff.1 hj).1;have a7:j<n:=by
       rcases Nat.lt_or_ge j n with g|g
       ·exact g
       ·have:=getD_both (a5 j g a6);rw[hl]at this;cases this
      rw[hj]at hd;exact List.mem_map.2 ⟨y,List.mem_of_getElem? (i:=j) (by rw[List.getElem?_take_of_lt a7];exact hj),by rw[<-e];simpa using hd⟩
   have aW:a.defers=(P5 ((l.take n).map (·.dst)) (fun d=>a.eval (.tmp d)) a0).defers:=by rw[sn];exact inv.defers
   cases a with
   |mk t df=>
    generalize hp:P5 ((l.take n).map (·.dst)) (fun d=>(Act.mk t df).eval (.tmp d)) a0=p at*;cases p with
    |mk t2 a8=>simp only at ht aW;rw[ht,aW]
  rw[ha];refine av _ w inv.below fun j d hd=>?_
  rcases Nat.lt_or_ge j n with g|g
  ·rw[List.getElem?_take_of_lt g]at hd;exact inv.told j d (a4 j g) hd
  ·rw[List.getElem?_eq_none (by rw[List.length_take];omega)]at hd;cases hd) n (Array.replicate l.toArray.size false) a0 w0.drew (by rw[List.filter_eq_self.2 (fun i _=>by rw[al];rfl)];simp) ⟨by simp,rfl,rfl,hU.drew,fun _ _=>rfl,fun j d h _=>by rw[al]at h;cases h⟩ hinv
 rw[show n+(l.length-n)=l.toArray.size by simp;omega]at key
 exact key
theorem qa(p:iz)(Ah:Option au)(hc:Nat)(Aw:Option au)(wc:Nat)(Ap:Option au)(pc:Nat):l5 (iA p Ah hc Aw wc Ap pc):=fun i x=>by
 unfold iA;rcases i with _|_|_|_|_|_|_|_|_|i<;>simp
theorem ib.rC{V:aq}{B g n c:Nat}{A:Option au}{f:Nat->Nat}{cs:Array ax}{t:aB}(h:ib V B A n c f)(hg:gZ V g cs t)(hn:l5 cs)(ds:Array ax):ib (V.setRow g ds) B A n c f:=⟨h.1.setRow ds fun _ _ h0 e=>yJ h.1 hg hn h0 e,h.2⟩
theorem KC(w:aq)(p:iz)(Ah:Option au)(hc:Nat)(Aw:Option au)(wc:Nat)(Ap:Option au)(pc:Nat)(hp:iD w w.heap.size p Ah hc Aw wc Ap pc)(g:kD p):
  aw prog 39 #[ah (iA p Ah hc Aw wc Ap pc)] w fun e w'=>∃al av aS aT Ao oc,e=ao (.tuple #[ah (iA (jR p).1 al av none 0 aS aT),af Ao (jR p).2.length oc])/\
   iD w' w'.heap.size (jR p).1 al av none 0 aS aT/\ib w' w'.heap.size Ao (jR p).2.length oc (hH (jR p).2)/\aR w.heap.size w w':=by
 obtain⟨h,hh⟩:=gX (w.heap.size)
 obtain⟨X,hX⟩:=gX (iA p Ah hc Aw wc Ap pc)
 rw[<-hX]
 obtain⟨Z,hZ⟩:=gX (iA (iR 0 0 0 false) none 0 none 0 none 0)
 have hz:=(zero_of_info oP).1
 rw[<-hZ]at hz
 obtain⟨W1,a5⟩:=gX ((w.alloc (ak X 32)).alloc (ak Z 32))
 have b1:aR h w W1:=by rw[a5,hh];exact(ix.alloc gY _).alloc (by simp) _
 have x1:gZ W1 h X 32:=by rw[a5,hh];exact(gZ.new w _ _).old _
 have z1:gZ W1 (h+1) Z 32:=by
  rw[a5,hh];have:=gZ.new (w.alloc (ak X 32)) Z 32
  rwa[World.size_alloc]at this
 have bA:h+1<W1.heap.size:=z1.lt
 obtain⟨kk,bS⟩:∃kk:Nat,p.k=(kk:Int):=⟨p.k.toNat,by have:=g.k0;omega⟩
 have a6:p.k.toNat=kk:=by omega
 have bJ:kk<=7:=by have:=g.k7;omega
 obtain⟨wn,aV⟩:=gX (p.wait.length)
 obtain⟨pn,a7⟩:=gX (p.ie.length)
 have bC:pn=(kk+7)/8:=by rw[a7,g.len,a6]
 have bk:X=#[ae aj p.s,ae aj p.h,ae aj p.m,ai p.z,af Ah p.hist.length hc,af Aw wn wc,af Ap pn pc,ae aj (kk:Int),ai p.iH]:=by rw[hX,<-bS,aV,a7];rfl
 have bT:=lr g.ks
 have cp:=g.hist;have cq:=g.wait
 obtain⟨tl,a8⟩:=gX (jq p p.wait)
 obtain⟨t1,t2⟩:=vK g.ks g.bh g.bw
 rw[<-a8]at t1 t2
 have bK:=hp.on (hh▸b1)
 have a9:=DQ W1 p Ah hc Aw wc Ap pc bK g.ks (by omega) Aw wc p.wait bK.wait (by omega)
 rw[<-hX,<-a8,<-aV]at a9
 obtain⟨BK,bl⟩:=gX (kr p p.wait)
 have bd:BK<=2:=by rw[bl];exact vM _ _
 obtain⟨E1,bf⟩:=gX (ke p.ie kk BK p.wait tl true)
 obtain⟨L,hL⟩:=gX (jQ p (E1.1,8*E1.1.length) p.wait)
 have bU:Qa (hH p.ie) kk:=by rw[<-a6];exact g.clean
 have bV:p.ie.length=(kk+7)/8:=by rw[<-a7];exact bC
 have a4:∀V,aR h w V->iD V V.heap.size p Ah hc Aw wc Ap pc:=fun V hV=>(hp.below (hh▸hV) gY).more (hh▸hV).size
 have hle:=vX (k:=kk) (kind:=BK) (raw:=p.wait) (l:=tl) (last:=true) bd bJ (by omega) g.bw (by omega) t2
 have bD:E1.1.length=(E1.2+7)/8:=by rw[bf];exact rv ..
 have bE:E1.2<=4320007:=by rw[bf];exact hle
 have SH:aQ (∀V,aR h w V->∀{A2:Option au} {t c2:Nat},jW V V.heap.size A2 t c2 tl->aw prog 57 #[ae aj (kk:Int),af Aw wn wc,af A2 t c2] V fun e w'=>e=ao (ae .u8 (BK:Int))/\aR V.heap.size V w'):=gW fun V hV A2 t c2 ht=>by
  have h1:=Dz V kk Aw wn wc (hH p.wait) A2 t c2 tl bJ (by rw[aV];exact(a4 V hV).wait.1) (by omega) ht.1 ht.2.1 (by have:=ht.1;omega) t2;have e:qy kk wn (hH p.wait) tl=BK:=by rw[bl];unfold kr;rw[a6,<-aV,<-a8]
  rw[e]at h1;exact h1
 have PU:aQ (∀V,aR h w V->∀(A2:Option au) (t c2:Nat),jW V V.heap.size A2 t c2 tl->aw prog 56 #[ah #[af Ap pn pc,ae aj (kk:Int)],ae .u8 (BK:Int),af Aw wn wc,af A2 t c2,ai true] V fun e w'=>∃A' n' c',e=ao (ah #[af A' n' c',ae aj (E1.2:Int)])/\n'=E1.1.length/\ib w' w'.heap.size A' n' c' (hH E1.1)/\aR V.heap.size V w'):=gW fun V hV A2 t c2 ht=>by
  have h1:=DR V p.ie kk Ap pc BK Aw wc p.wait A2 t c2 tl true (a4 V hV).ie bV bU (by omega) bd (a4 V hV).wait (by omega) ht (by omega) t2;rw[<-a7,<-aV,<-bf]at h1;exact h1.mono fun e w' ⟨A',c',e1,e2,e3⟩=>⟨A',_,c',e1,rfl,e2,e3⟩
 have LF:aQ (∀V,aR h w V->∀(A':Option au) (n' c':Nat),n'=E1.1.length->ib V V.heap.size A' n' c' (hH E1.1)->∀m8:Nat,m8=8*n'->aw prog 55 #[ah X,ah #[af A' n' c',ae aj (m8:Int)],af Aw wn wc] V fun e w'=>∃al av aS aT Ao oc,e=ao (.tuple #[ah (iA L.1 al av Aw wc aS aT),af Ao L.2.length oc])/\
   iD w' w'.heap.size L.1 al av Aw wc aS aT/\ib w' w'.heap.size Ao L.2.length oc (hH L.2)/\aR V.heap.size V w'):=gW fun V hV A' n' c' en r1 m8 em=>by
  subst en
  subst em
  have h1:=Kx V p Ah hc Aw wc Ap pc (a4 V hV) (by omega) (by omega) (by omega) E1.1 (8*E1.1.length) A' c' r1 (by omega) (by omega) Aw wc p.wait (a4 V hV).wait (by omega)
  rw[<-hX,<-aV,<-hL]at h1
  exact h1
 have bW:jR p=({L.1 with wait:=[],iH:=true},L.2):=by
  have e:mJ p=(E1.1,8*E1.1.length):=by unfold mJ;rw[a6,<-a8,<-bl,<-bf]
  unfold jR;rw[e,<-hL]
 have cr:aQ (∀V,gZ V h X 32->V.rangeAt h 6 [af Ap pn pc,ae aj (kk:Int)]):=gW fun V hx i v hv=>by
  rw[hx.cell,bk];rcases i with _|_|i
  ·simpa using hv
  ·simpa using hv
  ·simp at hv
 have bX:=gW a9;have bY:=gW bD;have bZ:=gW bE
 have ct:=gW a5;have HH:=gW hh;have cu:=gW b1;have bL:=gW x1;have b0:=gW z1;have cv:=gW bA;have bm:=gW bk;have b2:aQ (X.size=9):=gW (by rw[hX];rfl);have b3:aQ (Z.size=9):=gW (by rw[hZ];rfl);have cw:aQ (l5 Z):=gW (by rw[hZ];exact qa _ _ _ _ _ _ _);have cx:=gW bW
 have q5:W1.cell? ⟨h,5,none⟩=some (af Aw wn wc):=by rw[x1.cell,bk];rfl
 clear hZ a5 hh b1 x1 z1 bA bk hX a4 hp g bS a6 bJ aV a7 bC bT cp cq a8 t1 t2 bK a9 bl bd bf hL bU bV hle bD bE bW
 go_enter func39,ntmps39
 go_wp2_with (first
  |(rw[<-ct.out,<-HH.out])
  |(refine aE rfl _ _ rfl h rfl _ X (0,0) _ bL.out underlying32 rfl (by rw[b2.out];exact iF) ?_)
  |fail)
 refine bX.out.mono ?_
 rintro e w2 ⟨A2,t,c2,rfl,ht,bn⟩
 have bM:=gW (cu.out.trans (bn.mono (by have:=cv.out;omega)))
 have ad:=gW (bL.out.below bn bL.out.lt)
 have bp:=gW (b0.out.below bn b0.out.lt)
 have b4:=gW ht
 have bN:aQ (h<=w2.heap.size):=gW (by have:=bp.out.lt;omega)
 clear ht bn q5
 go_wp2
 refine uc 14 (nM [fun v _=>v=ag (some ⟨h,6,none⟩),fun v _=>v=ah #[af Ap pn pc,ae aj (kk:Int)],fun v _=>v=ag (some ⟨h,6,none⟩),fun v _=>v=ag (some ⟨h,7,none⟩),fun v _=>v=ae aj (kk:Int),fun v _=>v=ag (some ⟨h,5,none⟩),fun v _=>v=af Aw wn wc,fun v _=>v=af A2 t c2,fun v _=>v=ae .u8 (BK:Int),fun v _=>v=ag (some ⟨h,5,none⟩),fun v _=>v=af Aw wn wc,fun v _=>v=af A2 t c2,fun v W=>∃A' n' c',v=ah #[af A' n' c',ae aj (E1.2:Int)]/\n'=E1.1.length/\ib W W.heap.size A' n' c' (hH E1.1),fun v W=>∃gq,v=ag (some ⟨gq,0,none⟩)/\gZ W gq #[af none 0 0,ae aj 0] 30/\w2.heap.size<=gq]) w2 ix (by kernel_rfl) (by kernel_rfl) ?_ ?_
 case refine_1=>
  simp only[List.take_succ_cons,List.take_zero];refine ia.cons (fun aa wv hb ha hS Kk Qq hK=>iL (ic rfl) _ _ _ rfl _ (ag (some ⟨h,6,none⟩)) ((ha 1 (by kernel_rfl)).trans rfl) (by go_simp) (ij rfl) hK) ?_;refine ia.cons (fun aa wv hb ha hS Kk Qq hK=>by have hx:=ad.out.below hb ad.out.lt;exact nN (ic rfl) _ _ rfl h 6 (hS 0 12 (by kernel_rfl) rfl).here [af Ap pn pc,ae aj (kk:Int)] _ (cr.out wv hx) underlying30 rfl (ou _ _) (ij rfl) hK) ?_;refine ia.cons (fun aa wv hb ha hS Kk Qq hK=>iL (ic rfl) _ _ _ rfl _ (ag (some ⟨h,6,none⟩)) ((ha 1 (by kernel_rfl)).trans rfl) (by go_simp) (ij rfl) hK) ?_;refine ia.cons (fun aa wv hb ha hS Kk Qq hK=>iL (ic rfl) _ _ _ rfl _ (ag (some ⟨h,7,none⟩)) (hS 2 14 (by kernel_rfl) rfl).here (by go_simp) (ij rfl) hK) ?_;refine ia.cons (fun aa wv hb ha hS Kk Qq hK=>lu (ic rfl) _ _ rfl _ (ae aj (kk:Int)) (hS 3 15 (by kernel_rfl) rfl).here (by have hc:wv.cell? ⟨h,7,none⟩=some (ae aj (kk:Int)):=by {rw[(ad.out.below hb ad.out.lt).cell,bm.out];rfl};go_simp) (ij rfl) hK) ?_;refine ia.cons (fun aa wv hb ha hS Kk Qq hK=>iL (ic rfl) _ _ _ rfl _ (ag (some ⟨h,5,none⟩)) ((ha 1 (by kernel_rfl)).trans rfl) (by go_simp) (ij rfl) hK) ?_;refine ia.cons (fun aa wv hb ha hS Kk Qq hK=>lu (ic rfl) _ _ rfl _ (af Aw wn wc) (hS 5 17 (by kernel_rfl) rfl).here (by have hc:wv.cell? ⟨h,5,none⟩=some (af Aw wn wc):=by {rw[(ad.out.below hb ad.out.lt).cell,bm.out];rfl};go_simp) (ij rfl) hK) ?_;refine ia.cons (fun aa wv hb ha hS Kk Qq hK=>iS (ic rfl) _ rfl (ij ((ha 4 (by kernel_rfl)).trans rfl)) hK) ?_;refine ia.cons (fun aa wv hb ha hS Kk Qq hK=>mq (ic rfl) 57 _ _ rfl (enters_of func57 (by kernel_rfl) rfl) #[ae aj (kk:Int),af Aw wn wc,af A2 t c2] (by simp[(show aa.eval (.tmp 16)=ae aj (kk:Int)from(hS 4 16 (by kernel_rfl) rfl).here),(show aa.eval (.tmp 18)=af Aw wn wc from(hS 6 18 (by kernel_rfl) rfl).here),(show aa.eval (.tmp 19)=af A2 t c2 from(hS 7 19 (by kernel_rfl) rfl).here)]) (SH.out wv (bM.out.trans (hb.mono bN.out)) ((b4.out.below hb gY).more hb.size)) (fun ee w' ⟨h1,h2⟩=>⟨_,h1,h2,ij rfl⟩) hK) ?_;refine ia.cons (fun aa wv hb ha hS Kk Qq hK=>iL (ic rfl) _ _ _ rfl _ (ag (some ⟨h,5,none⟩)) ((ha 1 (by kernel_rfl)).trans rfl) (by go_simp) (ij rfl) hK) ?_;refine ia.cons (fun aa wv hb ha hS Kk Qq hK=>lu (ic rfl) _ _ rfl _ (af Aw wn wc) (hS 9 21 (by kernel_rfl) rfl).here (by have hc:wv.cell? ⟨h,5,none⟩=some (af Aw wn wc):=by {rw[(ad.out.below hb ad.out.lt).cell,bm.out];rfl};go_simp) (ij rfl) hK) ?_;refine ia.cons (fun aa wv hb ha hS Kk Qq hK=>iS (ic rfl) _ rfl (ij ((ha 4 (by kernel_rfl)).trans rfl)) hK) ?_;refine ia.cons (fun aa wv hb ha hS Kk Qq hK=>mq (ic rfl) 56 _ _ rfl (enters_of func56 (by kernel_rfl) rfl) #[ah #[af Ap pn pc,ae aj (kk:Int)],ae .u8 (BK:Int),af Aw wn wc,af A2 t c2,ai true] (by simp[(show aa.eval (.tmp 13)=ah #[af Ap pn pc,ae aj (kk:Int)]from(hS 1 13 (by kernel_rfl) rfl).here),(show aa.eval (.tmp 20)=ae .u8 (BK:Int)from(hS 8 20 (by kernel_rfl) rfl).here),(show aa.eval (.tmp 22)=af Aw wn wc from(hS 10 22 (by kernel_rfl) rfl).here),(show aa.eval (.tmp 23)=af A2 t c2 from(hS 11 23 (by kernel_rfl) rfl).here),(show aa.eval (.const (ai true))=ai true from rfl)]) (PU.out wv (bM.out.trans (hb.mono bN.out)) A2 t c2 ((b4.out.below hb gY).more hb.size)) (fun ee w' ⟨A',n',c',h1,h2,h3,h4⟩=>⟨_,h1,h4,fun W hW=>⟨_,_,_,rfl,h2,(h3.below hW gY).more hW.size⟩⟩) hK) ?_;refine ia.cons (fun aa wv hb ha hS Kk Qq hK=>yA (w':=wv.alloc (ak #[af none 0 0,ae aj 0] 30)) (ic rfl) (ag (some ⟨wv.heap.size,0,none⟩)) (by go_simp) (ix.alloc gY _) (fun W hW=>⟨_,rfl,(gZ.new wv #[af none 0 0,ae aj 0] 30).below hW (by simp),hb.size⟩) hK) ?_;exact ia.nil
 intro vals w5 hb hv
 obtain⟨A',n',c',b5,b6,b7⟩:=(hv 12 24 rfl).here
 obtain⟨gq,e5,bq,cy⟩:=(hv 13 5 rfl).here
 have x5:=ad.out.below hb ad.out.lt
 have z5:=bp.out.below hb bp.out.lt
 have b8:=bM.out.trans (hb.mono bN.out)
 have b9:=bp.out.lt
 have br:h≠gq:=by omega
 have aY:h+1≠gq:=by omega
 obtain⟨m8,ca⟩:=gX (8*n')
 have cz:n'<=540001:=by have:=bY.out;have:=bZ.out;omega
 obtain⟨w6,aU⟩:=gX ((w5.setCell ⟨gq,0,none⟩ (af A' n' c')).setCell ⟨gq,1,none⟩ (ae aj (E1.2:Int)))
 have q6:gZ w6 gq #[af A' n' c',ae aj (E1.2:Int)] 30:=by rw[aU];exact Kz bq _ _
 obtain⟨w7,aW⟩:=gX (w6.setCell ⟨gq,1,none⟩ (ae aj (m8:Int)))
 have q7:gZ w7 gq #[af A' n' c',ae aj (m8:Int)] 30:=by rw[aW];exact q6.set 1 _
 have x7:gZ w7 h X 32:=by rw[aW,aU];exact((x5.other (by exact br) _).other (by exact br) _).other (by exact br) _
 have z7:gZ w7 (h+1) Z 32:=by rw[aW,aU];exact((z5.other (by exact aY) _).other (by exact aY) _).other (by exact aY) _
 have bO:aR h w w7:=by rw[aW,aU];exact kh (kh (kh b8 (by omega) _ _) (by omega) _ _) (by omega) _ _
 have r7:ib w7 w7.heap.size A' n' c' (hH E1.1):=by
  rw[aW,vW,aU,vW,vW];exact(((b7.qG bq (yI none 0 0 0) 0 _).qG (bq.set 0 _) (yI A' n' c' 0) 1 _).qG (by have:=q6;rw[aU]at this;exact this) (yI A' n' c' _) 1 _)
 have cb:=LF.out w7 bO A' n' c' b6 r7 m8 ca
 have a0:w5.cell? ⟨gq,0,none⟩=some (af none 0 0):=bq.cell.trans rfl
 have a1:w5.cell? ⟨gq,1,none⟩=some (ae aj 0):=bq.cell.trans rfl
 have a2:w5.frozen? ⟨gq,0,none⟩=false:=bq.free
 have a3:w5.frozen? ⟨gq,1,none⟩=false:=bq.free
 have u0:w6.cell? ⟨gq,0,none⟩=some (af A' n' c'):=q6.cell.trans rfl
 have u1:w6.cell? ⟨gq,1,none⟩=some (ae aj (E1.2:Int)):=q6.cell.trans rfl
 have u3:w6.frozen? ⟨gq,1,none⟩=false:=q6.free
 have v0:w7.cell? ⟨gq,0,none⟩=some (af A' n' c'):=q7.cell.trans rfl
 have v1:w7.cell? ⟨gq,1,none⟩=some (ae aj (m8:Int)):=q7.cell.trans rfl
 have v5:w7.cell? ⟨h,5,none⟩=some (af Aw wn wc):=by rw[x7.cell,bm.out];rfl
 have e8:8*(n':Int)=(m8:Int):=by omega
 have cP:wrap64 (m8:Int)=(m8:Int):=by unfold wrap64;omega
 have cA:=gW cb;have cB:=gW x7;have bP:=gW z7;have cC:=gW bO;have cD:=gW aU;have cE:=gW aW
 clear aU aW q6 q7 x5 z5 x7 z7 b8 bO r7 cb bq cy b7 hb hv b6 ca cz br aY b9
 simp only[List.take_succ_cons,List.take_zero,List.drop_succ_cons,List.drop_zero,List.map_cons,List.map_nil,P5,Act.put,List.setIfInBounds_toArray,List.set_cons_zero,List.set_cons_succ,b5,e5]
 clear b5 e5
 go_wp2_with (first
  |(rw[<-cE.out])
  |(rw[<-cD.out])
  |(refine aE rfl _ _ rfl h rfl _ X (0,0) _ cB.out underlying32 rfl (by rw[b2.out];exact iF) ?_)
  |fail)
 refine cA.out.mono ?_
 rintro e w8 ⟨al,av,aS,aT,Ao,oc,rfl,cf,cg,bQ⟩
 have z8:=bP.out.below bQ bP.out.lt
 have bF:=cC.out.trans (bQ.mono (by have:=bP.out.lt;omega))
 have bG:=z8.lt
 obtain⟨Y0,aX⟩:=gX (iA L.1 al av Aw wc aS aT)
 obtain⟨Y2,bg⟩:=gX (iA {L.1 with wait:=[],iH:=true} al av none 0 aS aT)
 obtain⟨lo,bR⟩:=gX (L.2.length)
 obtain⟨w9,bt⟩:=gX ((w8.alloc (ak Z 32)).setRow w8.heap.size Y0)
 have q9:gZ w9 w8.heap.size Y0 32:=by rw[bt];exact(gZ.new w8 Z _).row Y0
 obtain⟨wA,bu⟩:=gX (w9.setCell ⟨w8.heap.size,5,none⟩ (af none 0 0))
 obtain⟨wB,bz⟩:=gX (wA.setCell ⟨w8.heap.size,8,none⟩ (ai true))
 have qA:gZ wA w8.heap.size (Y0.setIfInBounds 5 (af none 0 0)) 32:=by rw[bu];exact q9.set 5 _
 have qB:gZ wB w8.heap.size Y2 32:=by
  have a:=qA.set 8 (ai true);rw[bz,bg];rw[aX]at a;exact a
 have bB:aR w8.heap.size w8 wB:=by rw[bz,bu,bt];exact kh (kh (mf (ix.alloc gY _) gY _) gY _ _) gY _ _
 have zB:=z8.below bB bG
 obtain⟨wC,bj⟩:=gX (wB.setRow (h+1) Y2)
 have cF:aQ (gZ wC (h+1) Y2 32):=gW (by rw[bj];exact zB.row Y2)
 have cG:aQ (aR h w wC):=gW (by rw[bj];exact mf (bF.trans (bB.mono (by omega))) (by omega) _)
 have cH:aQ (∀(A:Option au) (n c:Nat) (f:Nat->Nat),ib w8 w8.heap.size A n c f->ib wC wC.heap.size A n c f):=gW fun A n c f r=>by
  rw[bj,size_setRow];exact((r.below bB gY).more bB.size).rC zB cw.out Y2
 have c5:w9.cell? ⟨w8.heap.size,5,none⟩=some (af Aw L.1.wait.length wc):=by rw[q9.cell,aX];rfl
 have f5:w9.frozen? ⟨w8.heap.size,5,none⟩=false:=q9.free
 have c8:wA.cell? ⟨w8.heap.size,8,none⟩=some (ai L.1.iH):=by rw[qA.cell,aX];rfl
 have f8:wA.frozen? ⟨w8.heap.size,8,none⟩=false:=qA.free
 have bH:aQ (Y0.size=9):=gW (by rw[aX];rfl)
 have aZ:aQ (Y2.size=9):=gW (by rw[bg];rfl)
 have ch:aQ (Y0.all (·.oneCell')=true):=gW (by rw[aX];exact kW ..)
 have cj:aQ (Y2.all (·.oneCell')=true):=gW (by rw[bg];exact kW ..)
 have cI:=gW qB;have cJ:=gW zB;have cK:=gW bt;have cL:=gW bu;have cM:=gW bz;have cN:=gW bj;have bI:=gW cf;have ck:=gW cg;have cl:=gW bg;have cO:=gW bR
 have cm:=gW (gZ.new w8 Z 32)
 rw[<-aX,<-bR]
 clear bt bu bz bj q9 qA qB bB z8 zB bQ bF cf cg aX bg bR bG
 go_wp2_with (first
  |(rw[<-cL.out])
  |(rw[<-cM.out])
  |(refine aC rfl _ _ _ rfl rfl w8.heap.size Y0 rfl rfl 32 Z cm.out (by rw[bH.out];exact iF) (by rw[b3.out,bH.out]) ch.out ?_;rw[<-cK.out])
  |(refine aE rfl _ _ rfl w8.heap.size rfl _ Y2 (0,0) _ cI.out underlying32 rfl (by rw[aZ.out];exact iF) ?_)
  |(refine aC rfl _ _ _ rfl rfl (h+1) Y2 rfl rfl 32 Z cJ.out (by rw[aZ.out];exact iF) (by rw[b3.out,aZ.out]) cj.out ?_;rw[<-cN.out]))
 refine bodyPost_ret (sk rfl _ _ (h+1) Y2 aZ.out rfl cF.out) rfl ?_
 have cn:=cx.out
 have g1:(jR p).1={L.1 with wait:=[],iH:=true}:=by rw[cn]
 have g2:(jR p).2=L.2:=by rw[cn]
 rw[g1,g2]
 have k:=cH.out
 refine⟨al,av,aS,aT,Ao,oc,by rw[cl.out,cO.out];rfl,⟨k _ _ _ _ bI.out.hist,?_,k _ _ _ _ bI.out.ie⟩,k _ _ _ _ ck.out,by rw[<-HH.out];exact cG.out⟩
 exact ib.nil _ _ _ (fun j=>kH (L:=[]) (fun x hx=>by cases hx) j)
def pj(E:Int)(r:iz×List Nat):iz×List Nat:=if E=0 then r else(iR 0 0 0 false,[])
theorem rD{fn:Func}{p u v:Tmp}(h:fn.results=#[.cell p 32,.tmp u,.tmp v])(tmps:Array ax)(w:aq)(g:Nat)(cs:Array ax)(hs:cs.size=9)(hp:tmps.getD p undef=ag (some ⟨g,0,none⟩))(ht:gZ w g cs 32):
  (results fn tmps).run prog w=.ok (.tuple #[ah cs,tmps.getD u undef,tmps.getD v undef]) w:=by
 have ad:tmps[p]?.getD undef=ag (some ⟨g,0,none⟩):=by simpa using hp
 have hl:=run_loadVar_row (P:=prog) w g 32 32 cs (0,0) _ ht underlying32 rfl (by rw[hs];exact iF)
 simp[results,h,ad,asAddr,hl]
def DX(w w':aq)(e:Ending)(r:iz×List Nat)(E:Int):Prop:=∃Ah hc Aw wc Ap pc Ao oc,e=ao (.tuple #[ah (iA r.1 Ah hc Aw wc Ap pc),af Ao r.2.length oc,ae aj E])/\iD w' w'.heap.size r.1 Ah hc Aw wc Ap pc/\ib w' w'.heap.size Ao r.2.length oc (hH r.2)/\aR w.heap.size w w'
theorem pF(j:Nat):hH [] j<256:=kH (L:=[]) (fun x hx=>by cases hx) j
def nP(L:List Nat):ByteArray:=lg L.length (hH L)
theorem DY(L:List Nat):nP L=⟨(L.map UInt8.ofNat).toArray⟩:=by
 unfold nP lg strOfNums;congr 1;congr 1;apply List.ext_getElem?;intro j;simp[hH];rcases Nat.lt_or_ge j L.length with h|h
 ·simp[h]
 ·simp[h]
theorem KD{L M:List Nat}(hL:jm L)(hM:jm M)(h:(nP L).toList=(nP M).toList):L=M:=by
 have hb:nP L=nP M:=by
  unfold nP lg at h⊢;rw[Lib.strOfNums_toList,Lib.strOfNums_toList]at h;apply ByteArray.ext;apply Array.toList_inj.1;rw[strOfNums_data,strOfNums_data];exact h
 rw[DY,DY]at hb;have h2:L.map UInt8.ofNat=M.map UInt8.ofNat:=by
  have:=congrArg (fun b:ByteArray=>b.data.toList) hb;simpa using this
 have hl:L.length=M.length:=by have:=congrArg List.length h2;simpa using this
 apply List.ext_getElem?;intro i;rcases Nat.lt_or_ge i L.length with g|g
 ·have g2:i<M.length:=by omega
  have h1:UInt8.ofNat L[i]=UInt8.ofNat M[i]:=by
   have:=congrArg (·[i]?) h2;simpa[g,g2]using this
  have a:=hL _ (List.getElem_mem g);have b:=hM _ (List.getElem_mem g2);rw[List.getElem?_eq_getElem g,List.getElem?_eq_getElem g2];congr 1;have h3:=congrArg UInt8.toNat h1;rw[UInt8.toNat_ofNat',UInt8.toNat_ofNat']at h3;omega
 ·rw[List.getElem?_eq_none g,List.getElem?_eq_none (by omega)]
theorem vZ{L M:List Nat}(hL:jm L)(hM:jm M):((nP L).toList==(nP M).toList)=decide (L=M):=by
 by_cases h:L=M
 ·subst h;simp
 ·rw[decide_eq_false h,Bool.eq_false_iff];intro hh;exact h (KD hL hM (eq_of_beq hh))
def oB(hn wn bn:Nat):Bool:=decide (600<hn)||decide (300<wn)||decide (300<bn)
theorem KE(w:aq)(s hh m:Int)(z:Bool)(Ah:Option au)(hn hc:Nat)(Aw:Option au)(wn wc:Nat)(Ap:Option au)(pn pc:Nat)(k:Int)(ov:Bool)(Ab:Option au)(bn bc:Nat):
  aw prog 17 #[ah #[ae aj s,ae aj hh,ae aj m,ai z,af Ah hn hc,af Aw wn wc,af Ap pn pc,ae aj k,ai ov],af Ab bn bc] w fun e w'=>e=ao (ai (oB hn wn bn))/\aR w.heap.size w w':=by
 by_cases g1:600<hn
 ·have d1:decide (600<(hn:Int))=true:=decide_eq_true (by omega);have HV:aQ (oB hn wn bn=true):=gW (by unfold oB;simp;omega);go_enter func17,ntmps17
  go_wp2;go_ret;exact⟨by rw[HV.out];rfl,ix.alloc gY _⟩
 have d1:decide (600<(hn:Int))=false:=decide_eq_false (by omega)
 by_cases g2:300<wn
 ·have d2:decide (300<(wn:Int))=true:=decide_eq_true (by omega);have HV:aQ (oB hn wn bn=true):=gW (by unfold oB;simp;omega);go_enter func17,ntmps17
  go_wp2;go_ret;exact⟨by rw[HV.out];rfl,ix.alloc gY _⟩
 have d2:decide (300<(wn:Int))=false:=decide_eq_false (by omega)
 by_cases g3:300<bn
 ·have d3:decide (300<(bn:Int))=true:=decide_eq_true (by omega);have HV:aQ (oB hn wn bn=true):=gW (by unfold oB;simp;omega);go_enter func17,ntmps17
  go_wp2;go_ret;exact⟨by rw[HV.out];rfl,ix.alloc gY _⟩
 ·have d3:decide (300<(bn:Int))=false:=decide_eq_false (by omega);have HV:aQ (oB hn wn bn=false):=gW (by unfold oB;simp;omega);go_enter func17,ntmps17
  go_wp2;go_ret;exact⟨by rw[HV.out];rfl,ix.alloc gY _⟩
theorem KF(w:aq)(p:iz)(Ah:Option au)(hc:Nat)(Aw:Option au)(wc:Nat)(Ap:Option au)(pc:Nat)(Ab:Option au)(bn bc:Nat):
  aw prog 17 #[ah (iA p Ah hc Aw wc Ap pc),af Ab bn bc] w fun e w'=>e=ao (ai (oB p.hist.length p.wait.length bn))/\aR w.heap.size w w':=
 KE w p.s p.h p.m p.z Ah p.hist.length hc Aw p.wait.length wc Ap p.ie.length pc p.k p.iH Ab bn bc
def oC(L:List Nat)(k:Int)(M:List Nat)(j:Int):Bool:=decide (k=j/\L=M)
theorem KG(w:aq)(A:Option au)(c:Nat)(L:List Nat)(k:Int)(A2:Option au)(c2:Nat)(M:List Nat)(j:Int)(hr:ib w w.heap.size A L.length c (hH L))(av:ib w w.heap.size A2 M.length c2 (hH M)):
  aw prog 40 #[ah #[af A L.length c,ae aj k],ah #[af A2 M.length c2,ae aj j]] w fun e w'=>e=ao (ai (oC L k M j))/\aR w.heap.size w w':=by
 obtain⟨n,hn⟩:=gX (L.length)
 obtain⟨m,hm⟩:=gX (M.length)
 obtain⟨h,hh⟩:=gX (w.heap.size)
 obtain⟨W1,al⟩:=gX ((w.alloc (ak #[af A n c,ae aj k] 30)).alloc (ak #[af A2 m c2,ae aj j] 30))
 have b1:aR h w W1:=by rw[al,hh];exact(ix.alloc gY _).alloc (by simp) _
 have x1:gZ W1 h #[af A n c,ae aj k] 30:=by rw[al,hh];exact(gZ.new w _ _).old _
 have y1:gZ W1 (h+1) #[af A2 m c2,ae aj j] 30:=by
  rw[al,hh];have:=gZ.new (w.alloc (ak #[af A n c,ae aj k] 30)) #[af A2 m c2,ae aj j] 30
  rwa[World.size_alloc]at this
 obtain⟨ZA,aS⟩:=gX (nP L)
 obtain⟨ZB,aT⟩:=gX (nP M)
 have sa:(convert 22 9 (af A n c)).run prog W1=.ok (.string ZA) W1:=by
  rw[aS,hn];exact nW (hr.1.below (hh▸b1) gY) c
 have sb:(convert 22 9 (af A2 m c2)).run prog W1=.ok (.string ZB) W1:=by
  rw[aT,hm];exact nW (av.1.below (hh▸b1) gY) c2
 have ad:=vZ (kE hr) (kE av)
 rw[<-aS,<-aT]at ad
 have k0:W1.cell? ⟨h,0,none⟩=some (af A n c):=x1.cell.trans rfl
 have k1:W1.cell? ⟨h,1,none⟩=some (ae aj k):=x1.cell.trans rfl
 have j0:W1.cell? ⟨h+1,0,none⟩=some (af A2 m c2):=y1.cell.trans rfl
 have j1:W1.cell? ⟨h+1,1,none⟩=some (ae aj j):=y1.cell.trans rfl
 have aU:=gW al;have HH:=gW hh;have aV:=gW b1
 rw[<-hn,<-hm]
 clear al hh b1 x1 y1 hr av aS aT hn hm
 by_cases e1:k=j
 ·have d1:(k==j)=true:=by simpa using e1
  by_cases e2:L=M
  ·have d2:(ZA.toList==ZB.toList)=true:=by rw[ad];exact decide_eq_true e2
   have HV:aQ (oC L k M j=true):=gW (decide_eq_true ⟨e1,e2⟩);clear ad e1 e2;go_enter func40,ntmps40
   go_wp2_with (rw[<-aU.out,<-HH.out])
   go_ret;exact⟨by rw[HV.out];rfl,by rw[<-HH.out];exact aV.out⟩
  ·have d2:(ZA.toList==ZB.toList)=false:=by rw[ad];exact decide_eq_false e2
   have HV:aQ (oC L k M j=false):=gW (decide_eq_false (fun h=>e2 h.2));clear ad e1 e2;go_enter func40,ntmps40
   go_wp2_with (rw[<-aU.out,<-HH.out])
   go_ret;exact⟨by rw[HV.out];rfl,by rw[<-HH.out];exact aV.out⟩
 ·have d1:(k==j)=false:=by simpa using e1
  have HV:aQ (oC L k M j=false):=gW (decide_eq_false (fun h=>e1 h.1));clear ad e1;go_enter func40,ntmps40
  go_wp2_with (rw[<-aU.out,<-HH.out])
  go_ret;exact⟨by rw[HV.out];rfl,by rw[<-HH.out];exact aV.out⟩
theorem KH:prog.underlying 27=some (.struct (prog.fieldsOf 27)):=by kernel_rfl
theorem KI:prog.stoodInHeld 27=false:=by kernel_rfl
theorem KJ:(prog.fieldsOf 27).toList.map (fun f=>(f.type,f.offset,f.name== "_"))=[(3,0,false),(3,1,false),(3,2,false),(4,3,false)]:=by kernel_rfl
def sF(s h m:Int)(z:Bool)(s' h' m':Int)(z':Bool):Bool:=decide (s=s'/\h=h'/\m=m'/\z=z')
theorem KL(w:aq)(s h m:Int)(z:Bool)(s' h' m':Int)(z':Bool):(Op.equalIn 10000 27 (ah #[ae aj s,ae aj h,ae aj m,ai z]) (ah #[ae aj s',ae aj h',ae aj m',ai z'])).run prog w=.ok (sF s h m z s' h' m' z') w:=by
 rw[run_equalIn_struct w 9999 _ _ _ KH KI];have hf:=KJ;obtain⟨fs,ad⟩:=gX ((prog.fieldsOf 27).toList);rw[<-ad]at hf⊢;clear ad;have hl:fs.length=4:=by have:=congrArg List.length hf;simpa using this
 match fs,hl,hf with
 |[f0,f1,f2,f3],_,hf=>
  simp at hf;obtain⟨⟨a1,a2,a3⟩,⟨b1,b2,b3⟩,⟨c1,c2,c3⟩,⟨d1,d2,d3⟩⟩:=hf;unfold sF;by_cases e1:s=s'<;>by_cases e2:h=h'<;>by_cases e3:m=m'<;>by_cases e4:z=z'<;>
   simp[Op.eqFields,a1,a2,a3,b1,b2,b3,c1,c2,c3,d1,d2,d3,go_sem,underlying4,underlying3,e1,e2,e3,e4]
theorem pk{P:az}{w:aq}{ops:Array aA}{rest:List aA}{o:aA}{a:Act}{Q:Exit->Act->aq->Prop}(ad:o.guard=none)(b:BinOp)(t t':aB)(x y:Operand)(ho:o.op=.binOp b t x y t')(u z v:ax)(hx:a.eval x=u)(hy:a.eval y=z)(hg:(eqGuard b t x y u z).run P w=.ok () w)(hr:(binOp b t u z).run P w=.ok v w)(h:wpList P ops Q rest (a.put o.dst v) w):wpList P ops Q (o::rest) a w:=by
 refine wpList_plain ad fun K hK=>?_
 unfold Oper.wp;have:(execOp a.eval o).run P w=.ok (.value v) w:=by unfold execOp;simp only[ho,hx,hy,Sem.run_bind,hg,hr,Result.andThen_ok];rfl
 rw[this];exact hK _ _ h
theorem po(w:aq)(x y:Operand)(u v:Array ax):(eqGuard .eql 27 x y (ah u) (ah v)).run prog w=.ok () w:=by
 unfold eqGuard;simp[go_sem]
theorem pr(w:aq)(s h m:Int)(z:Bool)(s' h' m':Int)(z':Bool)(b:Bool)(e:sF s h m z s' h' m' z'=b):(binOp .eql 27 (ah #[ae aj s,ae aj h,ae aj m,ai z]) (ah #[ae aj s',ae aj h',ae aj m',ai z'])).run prog w=.ok (ai b) w:=by
 rw[run_eql_struct,KL,e];rfl
def kI(a b:iz):Bool:=sF a.s a.h a.m a.z b.s b.h b.m b.z&&(a.iH==b.iH)&&oC a.ie a.k b.ie b.k&&decide (a.hist=b.hist)&&decide (a.wait=b.wait)
theorem v7(w:aq)(a b:iz)(Ah:Option au)(hc:Nat)(Aw:Option au)(wc:Nat)(Ap:Option au)(pc:Nat)(Bh:Option au)(hd:Nat)(Bw:Option au)(wd:Nat)(Bp:Option au)(pd:Nat)(ha:iD w w.heap.size a Ah hc Aw wc Ap pc)(hb:iD w w.heap.size b Bh hd Bw wd Bp pd):
  aw prog 22 #[ah (iA a Ah hc Aw wc Ap pc),ah (iA b Bh hd Bw wd Bp pd)] w fun e w'=>e=ao (ai (kI a b))/\aR w.heap.size w w':=by
 obtain⟨h,hh⟩:=gX (w.heap.size)
 obtain⟨X,hX⟩:=gX (iA a Ah hc Aw wc Ap pc)
 obtain⟨Y,hY⟩:=gX (iA b Bh hd Bw wd Bp pd)
 rw[<-hX,<-hY]
 obtain⟨W1,a3⟩:=gX ((w.alloc (ak X 32)).alloc (ak Y 32))
 have b1:aR h w W1:=by rw[a3,hh];exact(ix.alloc gY _).alloc (by simp) _
 have aU:gZ W1 h X 32:=by rw[a3,hh];exact(gZ.new w _ _).old _
 have aV:gZ W1 (h+1) Y 32:=by
  rw[a3,hh];have:=gZ.new (w.alloc (ak X 32)) Y 32
  rwa[World.size_alloc]at this
 obtain⟨na,a5⟩:=gX (a.hist.length)
 obtain⟨ma,a6⟩:=gX (a.wait.length)
 obtain⟨pa,a7⟩:=gX (a.ie.length)
 obtain⟨nb,a8⟩:=gX (b.hist.length)
 obtain⟨mb,a9⟩:=gX (b.wait.length)
 obtain⟨pb,bd⟩:=gX (b.ie.length)
 have Xx:X=#[ae aj a.s,ae aj a.h,ae aj a.m,ai a.z,af Ah na hc,af Aw ma wc,af Ap pa pc,ae aj a.k,ai a.iH]:=by rw[hX,a5,a6,a7];rfl
 have Xy:Y=#[ae aj b.s,ae aj b.h,ae aj b.m,ai b.z,af Bh nb hd,af Bw mb wd,af Bp pb pd,ae aj b.k,ai b.iH]:=by rw[hY,a8,a9,bd];rfl
 have pv:∀V,aR h w V->iD V V.heap.size a Ah hc Aw wc Ap pc/\iD V V.heap.size b Bh hd Bw wd Bp pd:=fun V hV=>⟨(ha.below (hh▸hV) gY).more (hh▸hV).size,(hb.below (hh▸hV) gY).more (hh▸hV).size⟩
 have aY:aQ (∀V,aR h w V->aw prog 40 #[ah #[af Ap pa pc,ae aj a.k],ah #[af Bp pb pd,ae aj b.k]] V fun e w'=>e=ao (ai (oC a.ie a.k b.ie b.k))/\aR V.heap.size V w'):=gW fun V hV=>by
  have h1:=KG V Ap pc a.ie a.k Bp pd b.ie b.k (pv V hV).1.ie (pv V hV).2.ie;rwa[<-a7,<-bd]at h1
 obtain⟨S1,bf⟩:=gX (nP a.hist)
 obtain⟨S2,bg⟩:=gX (nP b.hist)
 obtain⟨S3,bj⟩:=gX (nP a.wait)
 obtain⟨S4,bk⟩:=gX (nP b.wait)
 have a4:aQ (∀V,aR h w V->(convert 22 9 (af Ah na hc)).run prog V=.ok (.string S1) V/\(convert 22 9 (af Bh nb hd)).run prog V=.ok (.string S2) V/\(convert 22 9 (af Aw ma wc)).run prog V=.ok (.string S3) V/\(convert 22 9 (af Bw mb wd)).run prog V=.ok (.string S4) V):=gW fun V hV=>by
  obtain⟨q1,q2⟩:=pv V hV;rw[bf,bg,bj,bk,a5,a8,a6,a9];exact⟨nW q1.hist.1 hc,nW q2.hist.1 hd,nW q1.wait.1 wc,nW q2.wait.1 wd⟩
 have aZ:=vZ (kE ha.hist) (kE hb.hist)
 have a1:=vZ (kE ha.wait) (kE hb.wait)
 rw[<-bf,<-bg]at aZ
 rw[<-bj,<-bk]at a1
 have a2:=gW a3;have HH:=gW hh;have aT:=gW b1;have HX:=gW aU;have HY:=gW aV;have aW:=gW Xx;have aX:=gW Xy
 have bq:W1.cell? ⟨h,0,none⟩=some (ae aj a.s):=by rw[aU.cell,Xx];rfl
 have br:W1.cell? ⟨h,1,none⟩=some (ae aj a.h):=by rw[aU.cell,Xx];rfl
 have bt:W1.cell? ⟨h,2,none⟩=some (ae aj a.m):=by rw[aU.cell,Xx];rfl
 have bu:W1.cell? ⟨h,3,none⟩=some (ai a.z):=by rw[aU.cell,Xx];rfl
 have bz:W1.cell? ⟨h,8,none⟩=some (ai a.iH):=by rw[aU.cell,Xx];rfl
 have bA:W1.cell? ⟨h,6,none⟩=some (af Ap pa pc):=by rw[aU.cell,Xx];rfl
 have bB:W1.cell? ⟨h,7,none⟩=some (ae aj a.k):=by rw[aU.cell,Xx];rfl
 have bC:W1.cell? ⟨h+1,0,none⟩=some (ae aj b.s):=by rw[aV.cell,Xy];rfl
 have bD:W1.cell? ⟨h+1,1,none⟩=some (ae aj b.h):=by rw[aV.cell,Xy];rfl
 have bE:W1.cell? ⟨h+1,2,none⟩=some (ae aj b.m):=by rw[aV.cell,Xy];rfl
 have bF:W1.cell? ⟨h+1,3,none⟩=some (ai b.z):=by rw[aV.cell,Xy];rfl
 have bG:W1.cell? ⟨h+1,8,none⟩=some (ai b.iH):=by rw[aV.cell,Xy];rfl
 have bH:W1.cell? ⟨h+1,6,none⟩=some (af Bp pb pd):=by rw[aV.cell,Xy];rfl
 have bI:W1.cell? ⟨h+1,7,none⟩=some (ae aj b.k):=by rw[aV.cell,Xy];rfl
 clear a3 hh b1 aU aV Xx Xy pv hX hY a5 a6 a7 a8 a9 bd bf bg bj bk ha hb
 cases d1:sF a.s a.h a.m a.z b.s b.h b.m b.z with
 |false=>
  have HV:aQ (kI a b=false):=gW (by unfold kI;simp[*]);go_enter func22,ntmps22
  go_wp2_with (first
   |(rw[<-a2.out,<-HH.out])
   |(refine pk rfl _ _ _ _ _ rfl _ _ _ rfl rfl (po _ _ _ _ _) (pr _ _ _ _ _ _ _ _ _ false d1) ?_)
   |fail)
  go_ret;exact⟨by rw[HV.out];rfl,by rw[<-HH.out];exact aT.out⟩
 |true=>
  cases d2:(a.iH==b.iH)with
  |false=>
   have HV:aQ (kI a b=false):=gW (by unfold kI;simp[*]);go_enter func22,ntmps22
   go_wp2_with (first
    |(rw[<-a2.out,<-HH.out])
    |(refine pk rfl _ _ _ _ _ rfl _ _ _ rfl rfl (po _ _ _ _ _) (pr _ _ _ _ _ _ _ _ _ true d1) ?_)
    |fail)
   go_ret;exact⟨by rw[HV.out];rfl,by rw[<-HH.out];exact aT.out⟩
  |true=>
   cases dp:oC a.ie a.k b.ie b.k with
   |false=>
    have HV:aQ (kI a b=false):=gW (by unfold kI;rw[d1,d2,dp];simp[*]);go_enter func22,ntmps22
    go_wp2_with (first
     |(rw[<-a2.out,<-HH.out])
     |(refine pk rfl _ _ _ _ _ rfl _ _ _ rfl rfl (po _ _ _ _ _) (pr _ _ _ _ _ _ _ _ _ true d1) ?_)
     |fail)
    refine(aY.out _ aT.out).mono ?_;rintro e w2 ⟨rfl,ad⟩;have al:=HX.out.below ad HX.out.lt;have av:=HY.out.below ad HY.out.lt;have aS:=gW (aT.out.trans (ad.mono (by have:=HX.out.lt;omega)));obtain⟨s1,s2,s3,s4⟩:=a4.out w2 aS.out;have bl:w2.cell? ⟨h,4,none⟩=some (af Ah na hc):=by rw[al.cell,aW.out];rfl
    have bm:w2.cell? ⟨h,5,none⟩=some (af Aw ma wc):=by rw[al.cell,aW.out];rfl
    have bn:w2.cell? ⟨h+1,4,none⟩=some (af Bh nb hd):=by rw[av.cell,aX.out];rfl
    have bp:w2.cell? ⟨h+1,5,none⟩=some (af Bw mb wd):=by rw[av.cell,aX.out];rfl
    clear ad al av;rw[dp];go_wp2;go_ret;exact⟨by rw[HV.out];rfl,by rw[<-HH.out];exact aS.out⟩
   |true=>
    by_cases e1:a.hist=b.hist
    ·have d3:(S1.toList==S2.toList)=true:=by rw[aZ];exact decide_eq_true e1
     by_cases e2:a.wait=b.wait
     ·have d4:(S3.toList==S4.toList)=true:=by rw[a1];exact decide_eq_true e2
      clear aZ a1;have HV:aQ (kI a b=true):=gW (by unfold kI;rw[d1,d2,dp];simp[*]);go_enter func22,ntmps22
      go_wp2_with (first
       |(rw[<-a2.out,<-HH.out])
       |(refine pk rfl _ _ _ _ _ rfl _ _ _ rfl rfl (po _ _ _ _ _) (pr _ _ _ _ _ _ _ _ _ true d1) ?_)
       |fail)
      refine(aY.out _ aT.out).mono ?_;rintro e w2 ⟨rfl,ad⟩;have al:=HX.out.below ad HX.out.lt;have av:=HY.out.below ad HY.out.lt;have aS:=gW (aT.out.trans (ad.mono (by have:=HX.out.lt;omega)));obtain⟨s1,s2,s3,s4⟩:=a4.out w2 aS.out;have bl:w2.cell? ⟨h,4,none⟩=some (af Ah na hc):=by rw[al.cell,aW.out];rfl
      have bm:w2.cell? ⟨h,5,none⟩=some (af Aw ma wc):=by rw[al.cell,aW.out];rfl
      have bn:w2.cell? ⟨h+1,4,none⟩=some (af Bh nb hd):=by rw[av.cell,aX.out];rfl
      have bp:w2.cell? ⟨h+1,5,none⟩=some (af Bw mb wd):=by rw[av.cell,aX.out];rfl
      clear ad al av;rw[dp];go_wp2;go_ret;exact⟨by rw[HV.out];rfl,by rw[<-HH.out];exact aS.out⟩
     ·have d4:(S3.toList==S4.toList)=false:=by rw[a1];exact decide_eq_false e2
      clear aZ a1;have HV:aQ (kI a b=false):=gW (by unfold kI;rw[d1,d2,dp];simp[*]);go_enter func22,ntmps22
      go_wp2_with (first
       |(rw[<-a2.out,<-HH.out])
       |(refine pk rfl _ _ _ _ _ rfl _ _ _ rfl rfl (po _ _ _ _ _) (pr _ _ _ _ _ _ _ _ _ true d1) ?_)
       |fail)
      refine(aY.out _ aT.out).mono ?_;rintro e w2 ⟨rfl,ad⟩;have al:=HX.out.below ad HX.out.lt;have av:=HY.out.below ad HY.out.lt;have aS:=gW (aT.out.trans (ad.mono (by have:=HX.out.lt;omega)));obtain⟨s1,s2,s3,s4⟩:=a4.out w2 aS.out;have bl:w2.cell? ⟨h,4,none⟩=some (af Ah na hc):=by rw[al.cell,aW.out];rfl
      have bm:w2.cell? ⟨h,5,none⟩=some (af Aw ma wc):=by rw[al.cell,aW.out];rfl
      have bn:w2.cell? ⟨h+1,4,none⟩=some (af Bh nb hd):=by rw[av.cell,aX.out];rfl
      have bp:w2.cell? ⟨h+1,5,none⟩=some (af Bw mb wd):=by rw[av.cell,aX.out];rfl
      clear ad al av;rw[dp];go_wp2;go_ret;exact⟨by rw[HV.out];rfl,by rw[<-HH.out];exact aS.out⟩
    ·have d3:(S1.toList==S2.toList)=false:=by rw[aZ];exact decide_eq_false e1
     clear aZ a1;have HV:aQ (kI a b=false):=gW (by unfold kI;rw[d1,d2,dp];simp[*]);go_enter func22,ntmps22
     go_wp2_with (first
      |(rw[<-a2.out,<-HH.out])
      |(refine pk rfl _ _ _ _ _ rfl _ _ _ rfl rfl (po _ _ _ _ _) (pr _ _ _ _ _ _ _ _ _ true d1) ?_)
      |fail)
     refine(aY.out _ aT.out).mono ?_;rintro e w2 ⟨rfl,ad⟩;have al:=HX.out.below ad HX.out.lt;have av:=HY.out.below ad HY.out.lt;have aS:=gW (aT.out.trans (ad.mono (by have:=HX.out.lt;omega)));obtain⟨s1,s2,s3,s4⟩:=a4.out w2 aS.out;have bl:w2.cell? ⟨h,4,none⟩=some (af Ah na hc):=by rw[al.cell,aW.out];rfl
     have bm:w2.cell? ⟨h,5,none⟩=some (af Aw ma wc):=by rw[al.cell,aW.out];rfl
     have bn:w2.cell? ⟨h+1,4,none⟩=some (af Bh nb hd):=by rw[av.cell,aX.out];rfl
     have bp:w2.cell? ⟨h+1,5,none⟩=some (af Bw mb wd):=by rw[av.cell,aX.out];rfl
     clear ad al av;rw[dp];go_wp2;go_ret;exact⟨by rw[HV.out];rfl,by rw[<-HH.out];exact aS.out⟩
def nt(p:iz)(n:Nat):Int:=if ox p≠0 then ox p else if 131072<n then 4 else 0
def mK(s h m:Int)(n:Nat):Int:=if iJ s h m=false then 8 else if 131072<n then 4 else 0
def tv(w w':aq)(e:Ending)(r:iz×List Nat)(E:Int):Prop:=∃Ah hc Aw wc Ap pc Ao oc,e=ao (.tuple #[ah (iA r.1 Ah hc Aw wc Ap pc),af Ao r.2.length oc,ae aj E])/\iD w' w'.heap.size r.1 Ah hc Aw wc Ap pc/\ib w' w'.heap.size Ao r.2.length oc (hH r.2)/\aR w.heap.size w w'/\
 my w' w.heap.size Ah r.1.hist.length/\my w' w.heap.size Aw r.1.wait.length
def yL:Prop:=∀(w:aq) (s h m:Int) (z:Bool),aw prog 11 #[ah #[ae aj s,ae aj h,ae aj m,ai z]] w fun e w'=>∃Ah hc Aw wc Ap pc,e=ao (.tuple #[ah (iA (lE s h m z) Ah hc Aw wc Ap pc),ae aj (oz s h m)])/\iD w' w'.heap.size (lE s h m z) Ah hc Aw wc Ap pc/\aR w.heap.size w w'
def we:Prop:=∀(w:aq) (p:iz) (Ah:Option au) (hc:Nat) (Aw:Option au) (wc:Nat) (Ap:Option au) (pc:Nat),iD w w.heap.size p Ah hc Aw wc Ap pc->aw prog 16 #[ah (iA p Ah hc Aw wc Ap pc)] w fun e w'=>e=ao (ae aj (ru p))/\aR w.heap.size w w'
def yM:Prop:=∀(w:aq) (p:iz) (Ah:Option au) (hc:Nat) (Aw:Option au) (wc:Nat) (Ap:Option au) (pc:Nat) (Ab:Option au) (bc:Nat) (b:List Nat),iD w w.heap.size p Ah hc Aw wc Ap pc->ib w w.heap.size Ab b.length bc (hH b)->p.hist.length<=1000000->p.wait.length<=1000000->b.length<=1000000->
 aw prog 12 #[ah (iA p Ah hc Aw wc Ap pc),af Ab b.length bc] w fun e w'=>tv w w' e (pj (nt p b.length) (jB p b)) (nt p b.length)
def yN:Prop:=∀(w:aq) (s h m:Int) (z:Bool) (Ab:Option au) (bc:Nat) (b:List Nat),ib w w.heap.size Ab b.length bc (hH b)->b.length<=1000000->
 aw prog 9 #[ah #[ae aj s,ae aj h,ae aj m,ai z],af Ab b.length bc] w fun e w'=>∃Ao on oc,e=ao (.tuple #[af Ao on oc,ae aj (mK s h m b.length)])/\on=(if mK s h m b.length=0 then qC s h m z b else[]).length/\ib w' w'.heap.size Ao on oc (hH (if mK s h m b.length=0 then qC s h m z b else[]))/\aR w.heap.size w w'
def DZ:Prop:=∀(w:aq) (a b:iz) (Ah:Option au) (hc:Nat) (Aw:Option au) (wc:Nat) (Ap:Option au) (pc:Nat) (Bh:Option au) (hd:Nat) (Bw:Option au) (wd:Nat) (Bp:Option au) (pd:Nat),iD w w.heap.size a Ah hc Aw wc Ap pc->iD w w.heap.size b Bh hd Bw wd Bp pd->
 aw prog 24 #[ah (iA a Ah hc Aw wc Ap pc),ah (iA b Bh hd Bw wd Bp pd)] w fun e w'=>e=ao (ai (kI a b))/\aR w.heap.size w w'
def rE(f:Nat->Nat)(n:Nat)(k:Int)(kind rn:Nat)(r:Nat->Nat)(l:List iu)(last:Bool):Int:=
 if jY f n k=false then 8 else if m9 kind rn l≠0 then m9 kind rn l else if 8388608<k.toNat+PR (iM (k.toNat%8) kind rn r l last)then 9 else 0
def uo(f:Nat->Nat)(n:Nat)(k:Int)(kind rn:Nat)(r:Nat->Nat)(l:List iu)(last:Bool):Nat:=
 if rE f n k kind rn r l last=0 then k.toNat+PR (iM (k.toNat%8) kind rn r l last)else 0
def uq(f:Nat->Nat)(n:Nat)(k:Int)(kind rn:Nat)(r:Nat->Nat)(l:List iu)(last:Bool):Nat->Nat:=
 if rE f n k kind rn r l last=0 then iE (iK n f) k.toNat (iM (k.toNat%8) kind rn r l last)else fun _=>0
theorem wh:prog.built 30 []=some #[af none 0 0,ae aj 0]:=by kernel_rfl
theorem tw{fn:Func}{p u:Tmp}(h:fn.results=#[.cell p 30,.tmp u])(tmps:Array ax)(w:aq)(g:Nat)(cs:Array ax)(hs:cs.size=2)(hp:tmps.getD p undef=ag (some ⟨g,0,none⟩))(ht:w.heap[g]?=some (ak cs 30 (0,0))):
  (results fn tmps).run prog w=.ok (.tuple #[ah cs,tmps.getD u undef]) w:=by
 have ad:tmps[p]?.getD undef=ag (some ⟨g,0,none⟩):=by simpa using hp
 have hl:=run_loadVar_row (P:=prog) w g 30 30 cs (0,0) _ ht underlying30 rfl (by rw[hs];exact lZ)
 simp[results,h,ad,asAddr,hl]
theorem KM{f:Nat->Nat}{n:Nat}{k:Int}(hf:∀j,f j<256)(h:jY f n k=true):∃K:Nat,k=K/\K<=8388608/\n=(K+7)/8/\Qa (iK n f) K:=vE hf (by unfold ko;rw[if_pos h])
open Go.Deep
theorem KN:prog.cellsOf 27=4:=by kernel_rfl
def sG(t:iu):Prop:=t.x<256/\(-9223372036854775808<=t.d/\t.d<=9223372036854775807)/\(-9223372036854775808<=t.n/\t.n<=9223372036854775807)
theorem KO{H:Type}{enc:aB×ax->H}{W:aq}{r:Reach}{b0 base:Nat}{sp:Nat->Bool}{hd:Bool}{v:ax}{d:DataW H}{p:List MemPlace}
  (hv:Value.okWide prog W r b0 27 v) (h:DataW.Trod enc prog W base sp hd 27 v d p):
  ∃(s h m:Int) (z:Bool),v=ah #[ae aj s,ae aj h,ae aj m,ai z]/\(-9223372036854775808<=s/\s<=9223372036854775807)/\(-9223372036854775808<=h/\h<=9223372036854775807)/\(-9223372036854775808<=m/\m<=9223372036854775807):=by
 obtain⟨c0,c1,c2,c3,y0,y1,y2,y3,m,rfl,rfl,rfl,h0,h1,h2,h3⟩:=open_agg4 underlying27 (by kernel_rfl) KN hv h
 obtain⟨k0,e0,_,w0⟩:=DataW.trod_int underlying3 h0
 obtain⟨k1,e1,_,w1⟩:=DataW.trod_int underlying3 h1
 obtain⟨k2,e2,_,w2⟩:=DataW.trod_int underlying3 h2
 obtain⟨k3,e3,_⟩:=DataW.trod_bool underlying4 h3
 simp only[List.cons.injEq,and_true]at e0 e1 e2 e3
 subst e0;subst e1;subst e2;subst e3
 exact⟨k0,k1,k2,k3,rfl,xo w0,xo w1,xo w2⟩
def D0(w w':aq)(e:Ending)(K:Nat)(E:Int)(F:Nat->Nat):Prop:=∃A' c' L,L=(K+7)/8/\e=ao (.tuple #[ah #[af A' L c',ae aj (K:Int)],ae aj E])/\ib w' w'.heap.size A' L c' F/\aR w.heap.size w w'/\my w' w.heap.size A' L
def KQ:Prop:=∀(w:aq) (A:Option au) (n c:Nat) (f:Nat->Nat) (k:Int) (kind:Nat) (A1:Option au) (rn rc:Nat) (r:Nat->Nat) (A2:Option au) (m c2:Nat) (l:List iu) (last:Bool),ib w w.heap.size A n c f->n<=2000000->-9223372036854775808<=k->k<=9223372036854775807->kind<256->
 ib w w.heap.size A1 rn rc r->rn<=1000000->jW w w.heap.size A2 m c2 l->m<=1000000->(∀t∈l,sG t)->
 aw prog 66 #[ah #[af A n c,ae aj k],ae .u8 (kind:Int),af A1 rn rc,af A2 m c2,ai last] w fun e w'=>D0 w w' e (uo f n k kind rn r l last) (rE f n k kind rn r l last) (uq f n k kind rn r l last)
def KR:Prop:=∀(w:aq) (a:Int) (A1:Option au) (rn rc:Nat) (r:Nat->Nat) (A2:Option au) (m c2:Nat) (l:List iu),-9223372036854775808<=a->a<=9223372036854775807->
 ib w w.heap.size A1 rn rc r->rn<=1000000->jW w w.heap.size A2 m c2 l->m<=1000000->(∀t∈l,sG t)->
 aw prog 61 #[ae aj a,af A1 rn rc,af A2 m c2] w fun e w'=>e=ao (.tuple #[ae .u8 ((vD a rn r l:Nat):Int),ae aj (rr a rn l)])/\aR w.heap.size w w'
def KS:Prop:=∀w:aq,aw prog 159 #[] w fun e w'=>e=ao (ah (ik (fun i=>(kc i:Int)) 19))/\aR w.heap.size w w'
def KU:Prop:=∀w:aq,aw prog 107 #[] w fun e w'=>∃A1 c1 A2 c2,e=ao (.tuple #[af A1 288 c1,af A2 32 c2])/\
 w'.ownsRow w.heap.size 5 1 (af A1 288 c1) 288 (iw 288 kg)/\w'.ownsRow w.heap.size 5 1 (af A2 32 c2) 32 (iw 32 lL)/\(∀g,(Value.slice A1 288 c1).ownBlock=some g->(Value.slice A2 32 c2).ownBlock≠some g)/\aR w.heap.size w w'
theorem D1{P:az}(w:aq)(d:Nat){e:aB}{q:IntKind}(he:P.underlying e=some (.int q))(xs ys:Array ax)(f g:Nat->Int):∀(is:List Nat),
  (∀i∈is,xs[i]?=some (ae q (f i))/\ys[i]?=some (ae q (g i)))->(Op.eqItems (d+1) e 1 xs ys is).run P w=.ok (decide (∀i∈is,f i=g i)) w
 |[],_=>by simp[Op.eqItems]
 |i::is,h=>by
  obtain⟨h1,h2⟩:=h i (by simp);have hp:∀(zs:Array ax) (z:Int),zs[i]?=some (ae q z)->(part e zs (i*1)).run P w=.ok (ae q z) w:=by
   intro zs z hz;unfold part isAgg;simp[Sem.run_bind,run_underlying he,hz]
  have h3:(Op.equalIn (d+1) e (ae q (f i)) (ae q (g i))).run P w=.ok (f i==g i) w:=run_equalIn_int w d e q q _ _ he;simp only[Op.eqItems,Sem.run_bind,hp _ _ h1,hp _ _ h2,h3,Result.andThen_ok];have ih:=D1 w d he xs ys f g is (fun j hj=>h j (by simp[hj]));by_cases hc:f i=g i
  ·simp[hc,ih]
  ·simp[hc]
def tcN(f:Nat->Nat)(m:Nat):Nat->Nat
 |0=>0
 |n+1=>tcN f m n+if 0<f n/\f n=m then 1 else 0
theorem wj(f:Nat->Nat)(m:Nat):∀n,tcN f m n<=n
 |0=>Nat.le_refl _
 |n+1=>by have:=wj f m n;simp only[tcN];split<;>omega
theorem wm(f:Nat->Nat):∀n,tcN f 0 n=0
 |0=>rfl
 |n+1=>by simp only[tcN];rw[wm f n,if_neg (by omega)]
theorem ur(f:Nat->Nat){m:Nat}(hm:0<m):∀n,mc f m n=tcN f m n*pt m
 |0=>by simp[mc,tcN]
 |n+1=>by
  simp only[mc,tcN];rw[ur f hm n];by_cases h:f n=m
  ·rw[if_pos h,if_pos ⟨by omega,h⟩,Nat.add_mul,Nat.one_mul]
  ·rw[if_neg h,if_neg (fun g=>h g.2)];rfl
def qb(f:Nat->Nat)(n:Nat):Nat->Nat
 |0=>0
 |m+1=>qb f n m+tcN f (m+1) n
theorem D2(f:Nat->Nat):∀M,qb f 0 M=0
 |0=>rfl
 |M+1=>by simp only[qb,tcN];rw[D2 f M]
theorem D3(f:Nat->Nat)(n:Nat):∀M,qb f (n+1) M=qb f n M+if 0<f n/\f n<=M then 1 else 0
 |0=>by rw[if_neg (by omega)];rfl
 |M+1=>by
  simp only[qb,tcN];rw[D3 f n M];repeat' split
  all_goals omega
theorem yO(f:Nat->Nat):∀n,(∀j,j<n->f j<=15)->lH f n=qb f n 15
 |0,_=>(D2 f 15).symm
 |n+1,h=>by
  rw[D3,<-yO f n (fun j hj=>h j (by omega))];simp only[lH];have:=h n (by omega);by_cases h1:0<f n
  ·rw[if_pos h1,if_pos ⟨h1,this⟩]
  ·rw[if_neg h1,if_neg (fun g=>h1 g.1)]
def lQ(t:Nat->Nat):Nat->Int
 |0=>1
 |k+1=>2*lQ t k-(t (k+1):Int)
theorem D4{t:Nat->Nat}(ht:∀m,t m<=1000):∀k,lQ t k<=((2^k:Nat):Int)/\1000-((1000*2^k:Nat):Int)<=lQ t k
 |0=>by simp[lQ]
 |k+1=>by
  have:=D4 ht k;have h1:=ht (k+1);simp only[lQ,Nat.pow_succ];omega
theorem D5{t:Nat->Nat}(ht:∀m,t m<=1000){k:Nat}(hk:k<=15):lQ t k<=32768/\-32768000<=lQ t k:=by
 have:=D4 ht k;have h2:(2:Nat)^k<=2^15:=Nat.pow_le_pow_right (by omega) hk;have h3:(2:Nat)^15=32768:=rfl;omega
theorem D6(f:Nat->Nat)(n:Nat):∀k,k<=15->lQ (fun m=>tcN f m n) k*(pt k:Int)=32768-(lj f n k:Int)
 |0,_=>by simp[lQ,lj,pt]
 |k+1,h=>by
  have ih:=D6 f n k (by omega);have e:pt k=pt (k+1)*2:=by rw[sV (Nat.le_succ k) h,show k+1-k=1 by omega]
  simp only[lQ,lj];rw[ur f (by omega),Int.sub_mul,Int.natCast_add,Int.natCast_mul];rw[e,Int.natCast_mul,<-Int.mul_assoc]at ih;have h2:2*lQ (fun m=>tcN f m n) k*(pt (k+1):Int)=lQ (fun m=>tcN f m n) k*(pt (k+1):Int)*((2:Nat):Int):=by
   rw[Int.mul_comm 2,Int.mul_assoc,Int.mul_comm 2,<-Int.mul_assoc];rfl
  rw[h2];omega
theorem KV{f:Nat->Nat}{n:Nat}(h:∀j,j<n->f j<=15):lQ (fun m=>tcN f m n) 15=32768-(P8 f n:Int):=by
 have:=D6 f n 15 gY;rw[tG f n h];rw[<-this,show pt 15=1 from rfl];simp
def qc(m:Nat):Nat:=if m=1 then 1 else 0
theorem D7(f:Nat->Nat)(n:Nat):qb f n 15=0+tcN f 1 n+tcN f 2 n+tcN f 3 n+tcN f 4 n+tcN f 5 n+tcN f 6 n+tcN f 7 n+tcN f 8 n+tcN f 9 n+tcN f 10 n+tcN f 11 n+tcN f 12 n+tcN f 13 n+tcN f 14 n+tcN f 15 n:=rfl
theorem KW{f:Nat->Nat}{n:Nat}(h:∀j,j<n->f j<=15):(∀m,m<16->tcN f m n=0)↔lH f n=0:=by
 rw[yO f n h];constructor
 ·intro g;have:∀M,M<16->qb f n M=0:=by
   intro M;induction M with
   |zero=>intro _;rfl
   |succ M ih=>intro hM;simp only[qb];rw[ih (by omega),g (M+1) hM]
  exact this 15 (by omega)
 ·intro g m hm;have hz:=wm f n;rw[D7]at g;obtain rfl|rfl|rfl|rfl|rfl|rfl|rfl|rfl|rfl|rfl|rfl|rfl|rfl|rfl|rfl|rfl:m=0\/m=1\/m=2\/m=3\/m=4\/m=5\/m=6\/m=7\/m=8\/m=9\/m=10\/m=11\/m=12\/m=13\/m=14\/m=15:=by omega
  all_goals omega
theorem KX(c1 c2 c3 c4 c5 c6 c7 c8 c9 ad al av aS aT aU:Nat):c1*16384+c2*8192+c3*4096+c4*2048+c5*1024+c6*512+c7*256+c8*128+c9*64+ad*32+al*16+av*8+aS*4+aT*2+aU*1<=8192*(0+c1+c2+c3+c4+c5+c6+c7+c8+c9+ad+al+av+aS+aT+aU)+8192*c1:=by omega
theorem KY{f:Nat->Nat}{n:Nat}(h:∀j,j<n->f j<=15):(∀m,m<16->tcN f m n=qc m)↔lH f n=1/\P8 f n=16384:=by
 rw[yO f n h,tG f n h];have hp:∀m,0<m->mc f m n=tcN f m n*pt m:=fun m hm=>ur f hm n
 have e:lj f n 15=tcN f 1 n*16384+tcN f 2 n*8192+tcN f 3 n*4096+tcN f 4 n*2048+tcN f 5 n*1024+tcN f 6 n*512+tcN f 7 n*256+tcN f 8 n*128+tcN f 9 n*64+tcN f 10 n*32+tcN f 11 n*16+tcN f 12 n*8+tcN f 13 n*4+tcN f 14 n*2+tcN f 15 n*1:=by
  simp only[lj];rw[hp 1 (by omega),hp 2 (by omega),hp 3 (by omega),hp 4 (by omega),hp 5 (by omega),hp 6 (by omega),hp 7 (by omega),hp 8 (by omega),hp 9 (by omega),hp 10 (by omega),hp 11 (by omega),hp 12 (by omega),hp 13 (by omega),hp 14 (by omega),hp 15 (by omega)];have:pt 1=16384/\pt 2=8192/\pt 3=4096/\pt 4=2048/\pt 5=1024/\pt 6=512/\pt 7=256/\pt 8=128/\pt 9=64/\pt 10=32/\pt 11=16/\pt 12=8/\pt 13=4/\pt 14=2/\pt 15=1:=by decide
  obtain⟨h1,h2,h3,h4,h5,h6,h7,h8,h9,al,av,aS,aT,aU,aV⟩:=this;rw[h1,h2,h3,h4,h5,h6,h7,h8,h9,al,av,aS,aT,aU,aV];omega
 rw[e];clear hp e;rw[D7];constructor
 ·intro g;rw[g 1 (by omega),g 2 (by omega),g 3 (by omega),g 4 (by omega),g 5 (by omega),g 6 (by omega),g 7 (by omega),g 8 (by omega),g 9 (by omega),g 10 (by omega),g 11 (by omega),g 12 (by omega),g 13 (by omega),g 14 (by omega),g 15 (by omega)];decide
 ·rintro⟨g1,g2⟩ m hm;have hz:=wm f n;have ad:tcN f 1 n=1:=by
   have h1:16384<=8192*1+8192*tcN f 1 n:=by
    have:=KX (tcN f 1 n) (tcN f 2 n) (tcN f 3 n) (tcN f 4 n) (tcN f 5 n) (tcN f 6 n) (tcN f 7 n) (tcN f 8 n) (tcN f 9 n) (tcN f 10 n) (tcN f 11 n) (tcN f 12 n) (tcN f 13 n) (tcN f 14 n) (tcN f 15 n);rw[g1,g2]at this;exact this
   clear g2;omega
  clear g2;rw[ad]at g1;obtain rfl|rfl|rfl|rfl|rfl|rfl|rfl|rfl|rfl|rfl|rfl|rfl|rfl|rfl|rfl|rfl:m=0\/m=1\/m=2\/m=3\/m=4\/m=5\/m=6\/m=7\/m=8\/m=9\/m=10\/m=11\/m=12\/m=13\/m=14\/m=15:=by omega
  all_goals(unfold qc;first|exact ad|(rw[if_neg (by decide)];omega))
def mL(t:Nat->Nat):Nat->Nat
 |0=>0
 |m+1=>2*(mL t m+t m)
theorem D8{t:Nat->Nat}(ht:∀m,t m<=1000):∀k,mL t k+2000<=2000*2^k
 |0=>by simp[mL]
 |k+1=>by
  have:=D8 ht k;have h1:=ht k;simp only[mL,Nat.pow_succ];omega
theorem KZ{t:Nat->Nat}(ht:∀m,t m<=1000){k:Nat}(hk:k<=16):mL t k<=131072000:=by
 have:=D8 ht k;have h2:(2:Nat)^k<=2^16:=Nat.pow_le_pow_right (by omega) hk;have h3:(2:Nat)^16=65536:=rfl;omega
theorem D9(f:Nat->Nat)(n:Nat):∀m,m<15->mL (fun m=>tcN f m n) (m+1)*pt (m+1)=lj f n m
 |0,_=>by simp only[mL,lj,wm];omega
 |m+1,h=>by
  have ih:=D9 f n m (by omega);have e:pt (m+1)=pt (m+2)*2:=by rw[sV (Nat.le_succ (m+1)) h,show m+1+1-(m+1)=1 by omega]
  have e1:mL (fun m=>tcN f m n) (m+1+1)=2*(mL (fun m=>tcN f m n) (m+1)+tcN f (m+1) n):=rfl;have e2:lj f n (m+1)=lj f n m+mc f (m+1) n:=rfl;rw[e1,e2,ur f (by omega),<-ih,<-Nat.add_mul,e,Nat.mul_comm 2,Nat.mul_assoc,Nat.mul_comm 2]
def nQ(f:Nat->Nat)(n i m:Nat):Nat:=mL (fun m=>tcN f m n) m+tcN f m i
theorem K6{f:Nat->Nat}{n i:Nat}(h0:0<f i)(h:f i<=15):jz f n i=nQ f n i (f i):=by
 unfold jz nQ lI;rw[if_neg (by omega)];obtain⟨m,hm⟩:∃m,f i=m+1:=⟨f i-1,by omega⟩;rw[hm,Nat.add_sub_cancel,<-D9 f n m (by omega),ur f (by omega),<-Nat.add_mul];exact Nat.mul_div_cancel _ (xG (by omega))
theorem K7{f:Nat->Nat}{n i:Nat}(h0:0<f i):iG (nQ f n i) (f i) (nQ f n i (f i)+1)=nQ f n (i+1):=by
 funext m;unfold iG nQ;simp only[tcN];by_cases e:m=f i
 ·subst e;rw[if_pos rfl,if_pos ⟨h0,rfl⟩];omega
 ·rw[if_neg e,if_neg (fun g=>e g.2.symm)];rfl
theorem K8{f:Nat->Nat}{n i:Nat}(h0:f i=0):nQ f n i=nQ f n (i+1):=by
 funext m;unfold nQ;simp only[tcN];rw[if_neg (by omega)];rfl
theorem K9(f:Nat->Nat)(n:Nat):mL (fun m=>tcN f m n)=nQ f n 0:=rfl
theorem La{f:Nat->Nat}{i:Nat}(h0:0<f i):iG (fun m=>tcN f m i) (f i) (tcN f (f i) i+1)=fun m=>tcN f m (i+1):=by
 funext m;unfold iG;simp only[tcN];by_cases e:m=f i
 ·subst e;rw[if_pos rfl,if_pos ⟨h0,rfl⟩]
 ·rw[if_neg e,if_neg (fun g=>e g.2.symm)];rfl
theorem Lb{f:Nat->Nat}{i:Nat}(h0:f i=0):(fun m=>tcN f m i)=fun m=>tcN f m (i+1):=by
 funext m;simp only[tcN];rw[if_neg (by omega)];rfl
def wu(g:Nat->Nat):List ax:=(List.range 16).map fun i=>ae aj (g i:Int)
def iV(g:Nat->Nat):Array ax:=(wu g).toArray
theorem nS(g:Nat->Nat):(iV g).size=16:=by simp[iV,wu]
theorem sH(g:Nat->Nat)(i:Nat):(iV g)[i]?=if i<16 then some (ae aj (g i:Int))else none:=by
 unfold iV wu;by_cases h:i<16<;>simp[h]
theorem Ea(g:Nat->Nat):(iV g).all (·.oneCell')=true:=by
 rw[Array.all_eq_true];intro i hi;have:(iV g)[i]=ae aj (g i:Int):=by simp[iV,wu]
 rw[this];rfl
theorem Lc{g h:Nat->Nat}(e:∀i,i<16->g i=h i):iV g=iV h:=by
 apply Array.ext_getElem?;intro i;rw[sH,sH];split
 ·rename_i hi;rw[e i hi]
 ·rfl
theorem Ld(g:Nat->Nat)(i x:Nat):(iV g).setIfInBounds i (ae aj (x:Int))=iV (iG g i x):=by
 apply Array.ext_getElem?;intro j;rw[Array.getElem?_setIfInBounds,sH,sH,nS];unfold iG;by_cases e:i=j
 ·subst e;by_cases h:i<16<;>simp[h]
 ·have e':¬j=i:=fun h=>e h.symm
  simp[e,e']
theorem yP:(prog.info? 211).map (fun i=>(i.zero,i.size))=some (some (ah (iV lY)),16):=by kernel_rfl
theorem qd:(prog.info? 211).map (·.size)=some 16:=(zero_of_info yP).2
def jJ(w:aq)(b:Nat)(g:Nat->Nat):Prop:=w.heap[b]?=some (ak (iV g) 211 (0,0))
theorem jJ.lt{w:aq}{b:Nat}{g:Nat->Nat}(h:jJ w b g):b<w.heap.size:=(Array.getElem?_eq_some_iff.1 h).1
theorem jJ.cell{w:aq}{b:Nat}{g:Nat->Nat}(h:jJ w b g){j:Nat}(hj:j<16):w.cell? ⟨b,j,none⟩=some (ae aj (g j:Int)):=by
 rw[cell_of_row w b j _ _ (0,0) h,sH,if_pos hj]
theorem jJ.frozen{w:aq}{b:Nat}{g:Nat->Nat}(h:jJ w b g)(j:Nat):w.frozen? ⟨b,j,none⟩=false:=frozen_of_row w b j _ _ h
theorem jJ.set{w:aq}{b:Nat}{g:Nat->Nat}(h:jJ w b g)(i x:Nat):jJ (w.setCell ⟨b,i,none⟩ (ae aj (x:Int))) b (iG g i x):=by
 unfold jJ;rw[heap_setCell_same w b i _ _ _ h,Ld]
theorem jJ.other{w:aq}{b:Nat}{g:Nat->Nat}(h:jJ w b g){p:au}(hp:b≠p.block)(u:ax):jJ (w.setCell p u) b g:=(Below.heap_setCell w p u b hp).trans h
theorem jJ.alloc{w:aq}{b:Nat}{g:Nat->Nat}(h:jJ w b g)(o:Obj):jJ (w.alloc o) b g:=(Below.heap_alloc w o b h.lt).trans h
theorem jJ.below{w w':aq}{b B:Nat}{g:Nat->Nat}(h:jJ w b g)(hb:aR B w w')(hg:b<B):jJ w' b g:=(hb.block b hg).trans h
theorem jJ.ext{w:aq}{b:Nat}{g g':Nat->Nat}(h:jJ w b g)(e:∀i,i<16->g i=g' i):jJ w b g':=by
 unfold jJ at h⊢;rw[<-Lc e];exact h
theorem Eb{P:az}{ops:Array aA}{rest:List aA}{o:aA}{a:Act}{w:aq}{Q:Exit->Act->aq->Prop}(ad:o.guard=none)(ty:aB)(x y:Operand)(ho:o.op=.store ty x y)
  (g:Nat) (cells:Array ax) (hx:a.eval x=ag (some ⟨g,0,none⟩)) (hy:a.eval y=ah cells)
  (t:aB) (old:Array ax) (hg:w.heap[g]?=some (ak old t (0,0))) (hi:(P.info? ty).map (·.size)=some cells.size)
  (hold:old.size=cells.size) (h1:cells.all (·.oneCell')=true)
  (h:wpList P ops Q rest (a.put o.dst undef) (w.setRow g cells)):wpList P ops Q (o::rest) a w:=
 wpList_plain ad fun _ hK=>wp_store_row ty x y ho g cells hx hy t old hg hi hold h1 (hK _ _ h)
theorem yQ{B:Nat}{a w:aq}(h:aR B a w){g:Nat}(hp:B<=g)(cs:Array ax):aR B a (w.setRow g cs):=
 ⟨h.os,h.tape,h.output,by rw[size_setRow];exact h.size,fun k hk=>(setRow_other w g k cs (by omega)).trans (h.block k hk)⟩
theorem jJ.setRow{w:aq}{b:Nat}{g h:Nat->Nat}(ht:jJ w b g):jJ (w.setRow b (iV h)) b h:=setRow_heap w b _ _ _ _ ht
theorem Ec(w:aq)(A:Option au)(n c:Nat)(f:Nat->Nat)(hr:iy w w.heap.size A n f)(hn:n<=1000000)(av:∀j,j<n->f j<=15):
  aw prog 138 #[af A n c] w fun e w'=>e=ao (ah (iV fun m=>tcN f m n))/\aR w.heap.size w w':=by
 have hz:=(zero_of_info yP).1
 have HR:=gW hr;have aU:=gW av
 clear hr av
 go_enter func138,ntmps138
 go_wp2
 go_loopw [8] (fun i wr=>∃k:Nat,k<=n/\i=ae aj k/\jJ wr w.heap.size lY/\jJ wr (w.heap.size+1) (fun m=>tcN f m k)/\w.heap.size+1<wr.heap.size/\aR w.heap.size w wr) (fun i _=>n-(aP i).toNat)
 case atStart=>
  exact⟨0,Nat.zero_le _,rfl,heap_alloc2_old w _ _,heap_alloc2_new w _ _,by simp,(ix.alloc gY _).alloc (by simp) _⟩
 case round=>
  obtain⟨k,hk,rfl,h0,h1,aS,hb⟩:=hrel;by_cases al:k<n
  ·obtain⟨b,o,rfl,_,hc⟩:=(HR.out.below hb gY).2 (by omega);have aV:=hc k al;have hf:=aU.out k al;have aW:=wj f (f k) k;clear hc;by_cases hp:0<f k
   ·have c1:=h1.cell (show f k<16 by omega);have f1:=h1.frozen (f k);have H0:=gW h0;have H1:=gW h1;have HB:=gW hb
    have HS:=gW (La hp);clear h0 h1 hb;obtain⟨q,hq⟩:=gX (tcN f (f k) k);have HQ:=gW hq;rw[<-hq]at c1 aW;clear hq;go_wp2;go_roundw
    case rel=>
     have ad:=H1.out.set (f k) (q+1);rw[HQ.out,HS.out]at ad;refine⟨k+1,by omega,by go_num,H0.out.other (by simp) _,?_,by simpa[World.setCell]using aS,HB.out.setCell (by simp) _⟩;rw[HQ.out];exact ad
    case measure=>simp[aP];omega
   ·have aT:f k=0:=by omega
    have aX:decide (0<((f k:Nat):Int))=false:=by simp;omega
    have H0:=gW h0;have H1:=gW h1;have HB:=gW hb
    have HS:=gW (Lb aT);clear h0 h1 hb aT;go_wp2;go_roundw
    case rel=>
     refine⟨k+1,by omega,by go_num,H0.out,?_,aS,HB.out⟩;rw[<-HS.out];exact H1.out
    case measure=>simp[aP];omega
  ·obtain rfl:k=n:=by omega
   have H0:=gW h0;have H1:=gW h1;have HB:=gW hb
   clear h0 h1 hb al hk;go_wp2_with (first
    |(refine aE rfl _ _ rfl (w.heap.size+1) rfl _ (iV fun m=>tcN f m k) (0,0) _ H1.out underlying211 rfl (by rw[nS];exact qd) ?_)
    |(refine Eb rfl _ _ _ rfl w.heap.size (iV fun m=>tcN f m k) rfl rfl _ (iV lY) H0.out (by rw[nS];exact qd) (by rw[nS,nS]) (Ea _) ?_))
   refine bodyPost_ret (v:=ah (iV fun m=>tcN f m k)) ?_ rfl ⟨rfl,yQ HB.out gY _⟩;exact results_cell_row rfl _ _ w.heap.size _ _ (0,0) _ rfl (H0.out.setRow (h:=fun m=>tcN f m k)) underlying211 rfl (by rw[nS];exact qd)
theorem wy(w:aq)(t:Nat->Nat)(ht:∀m,t m<=1000):
  aw prog 174 #[ah (iV t)] w fun e w'=>e=ao (ae aj (lQ t 15))/\aR w.heap.size w w':=by
 have HT:=gW ht
 clear ht
 go_enter func174,ntmps174
 go_wp2
 go_loopw [3,8] (fun l i wr=>∃k:Nat,k<=15/\i=ae aj k/\l=ae aj (lQ t k)/\jJ wr w.heap.size t/\aR w.heap.size w wr) (fun _ i _=>15-(aP i).toNat)
 case atStart=>exact⟨0,by omega,rfl,rfl,aG w _,ix.alloc gY _⟩
 case round=>
  obtain⟨k,hk,rfl,rfl,ht,hb⟩:=hrel;have HS:=gW (show lQ t (k+1)=2*lQ t k-(t (k+1):Int)from rfl);have ad:=D5 HT.out (k:=k) (by omega);obtain⟨l,hl⟩:=gX (lQ t k);have HL:=gW hl;rw[<-hl]at ad HS⊢;clear hl;obtain⟨av,aS⟩:=ad;by_cases al:k<15
  ·have c1:=ht.cell (show 1+k<16 by omega);have hm:=HT.out (1+k);have H1:=gW ht;have HB:=gW hb
   clear ht hb;go_wp2;go_roundw
   case rel=>exact⟨k+1,by omega,by go_num,lx (by rw[HS.out,Nat.add_comm 1 k]),H1.out,HB.out⟩
   case measure=>simp[aP];omega
  ·obtain rfl:k=15:=by omega
   have HB:=gW hb;clear ht hb al hk;go_wp2;go_ret;exact⟨nV (by rw[HL.out]),HB.out⟩
theorem Ed{P:az}{ops:Array aA}{rest:List aA}{o:aA}{a:Act}{w:aq}{Q:Exit->Act->aq->Prop}(hw:Region.wanted o (yielded ops a.tmps)=true)
  (h:∀K:Act->aq->Prop,(∀a w,wpList P ops Q rest a w->K a w)->o.wp P a w K Q):wpList P ops Q (o::rest) a w:=
 wpList_step fun K hK=>by rw[if_pos hw];exact h K hK
theorem tz{P:az}{ops:Array aA}{rest:List aA}{o:aA}{a:Act}{w:aq}{Q:Exit->Act->aq->Prop}(hw:Region.wanted o (yielded ops a.tmps)=true)(ty:aB)(x:Operand)(ho:o.op=.load ty x)
  (g:Nat) (hx:a.eval x=ag (some ⟨g,0,none⟩)) (t:aB) (cs:Array ax) (fr:Nat×Nat) (d:TypeDesc) (hg:w.heap[g]?=some (ak cs t fr))
  (hu:P.underlying ty=some d) (hd:(match d with| .struct _| .array _ _=>true|_=>false)=true) (hi:(P.info? ty).map (·.size)=some cs.size)
  (h:wpList P ops Q rest (a.put o.dst (ah cs)) w):wpList P ops Q (o::rest) a w:=
 Ed hw fun _ hK=>wp_load_row ty x ho g hx t cs fr d hg hu hd hi (hK _ _ h)
theorem yR{P:az}{ops:Array aA}{rest:List aA}{o:aA}{a:Act}{w:aq}{Q:Exit->Act->aq->Prop}(hw:Region.wanted o (yielded ops a.tmps)=true)(ty:aB)(x y:Operand)(ho:o.op=.binOp .neq ty x y ty)
  (u v:ax) (b:Bool) (hx:a.eval x=u) (hy:a.eval y=v) (hg:(eqGuard .neq ty x y u v).run P w=.ok () w) (ad:(binOp .neq ty u v).run P w=.ok (ai b) w)
  (h:wpList P ops Q rest (a.put o.dst (ai b)) w):wpList P ops Q (o::rest) a w:=
 Ed hw fun K hK=>by
  unfold Oper.wp execOp;simp only[ho,hx,hy];simp[ad,hg,Sem.run_bind];exact hK _ _ h
theorem yT(w:aq)(x y:Operand)(u v:Array ax):(eqGuard .neq 211 x y (ah u) (ah v)).run prog w=.ok () w:=by
 have h:prog.eqGuardType prog.depth 211=false:=by kernel_rfl
 unfold eqGuard;simp[Sem.run_bind,h]
def nx(t g:Nat->Nat):Bool:=(List.range 16).all fun m=>t m==g m
theorem wD(t g:Nat->Nat):nx t g=true↔∀m,m<16->t m=g m:=by simp[nx]
theorem Le{P:az}(w:aq){t e:aB}{n:Nat}{q:IntKind}(ht:P.underlying t=some (.array n e))(he:P.underlying e=some (.int q))(ad:P.cellsOf e=1)(hi:(P.info? e).isSome=true)
  (xs ys:Array ax) (f g:Nat->Int) (hx:∀i,i<n->xs[i]?=some (ae q (f i))) (hy:∀i,i<n->ys[i]?=some (ae q (g i))):
  (binOp .neq t (ah xs) (ah ys)).run P w=.ok (ai (!decide (∀i,i<n->f i=g i))) w:=by
 obtain⟨i,hi⟩:=Option.isSome_iff_exists.1 hi
 have h:=run_equalIn_array (P:=P) w 9999 xs ys ht hi
 rw[ad,D1 w 9998 he xs ys f g (List.range n) (fun i hi=>by have:=List.mem_range.1 hi;exact⟨hx i this,hy i this⟩)]at h
 have e:(binOp .neq t (ah xs) (ah ys)).run P w=((Op.equal t (ah xs) (ah ys)).run P w).andThen fun b w'=>.ok (ai (!b)) w':=by
  unfold binOp;simp
 rw[e]
 unfold Op.equal Op.maxDepth
 rw[h]
 simp
theorem Ee(w:aq)(t g:Nat->Nat):(binOp .neq 211 (ah (iV t)) (ah (iV g))).run prog w=.ok (ai (!nx t g)) w:=by
 rw[Le (P:=prog) w (n:=16) (q:=aj) underlying211 underlying3 (by kernel_rfl) (by kernel_rfl) (iV t) (iV g) (fun i=>(t i:Int)) (fun i=>(g i:Int)) (fun i hi=>by rw[sH,if_pos hi]) (fun i hi=>by rw[sH,if_pos hi])];have:(∀i,i<16->(t i:Int)=(g i:Int))↔nx t g=true:=⟨fun h=>(wD t g).2 fun m hm=>by have:=h m hm;omega,fun h m hm=>by have:=(wD t g).1 h m hm;omega⟩;simp only[this];cases nx t g<;>rfl
theorem Lf(w:aq)(t:Nat->Nat)(ht:∀m,t m<=1000)(h:lQ t 15<0):
  aw prog 161 #[ah (iV t)] w fun e w'=>e=ao (ae aj 30)/\aR w.heap.size w w':=by
 have HT:=gW ht
 clear ht
 obtain⟨l,hl⟩:=gX (lQ t 15)
 have HL:=gW hl
 rw[<-hl]at h
 clear hl
 go_enter func161,ntmps161
 have h1:jJ (w.alloc (ak (iV t) 211)) w.heap.size t:=aG w _
 have H1:=gW h1
 have HB:=gW ((Below.refl w.heap.size w).alloc gY (ak (iV t) 211))
 clear h1
 go_wp2_with (first
  |(refine aE rfl _ _ rfl w.heap.size rfl _ (iV t) (0,0) _ H1.out underlying211 rfl (by rw[nS];exact qd) ?_)
  |(go_at_call 174;refine(wy _ t HT.out).mono ?_;rintro e w' ⟨rfl,hb⟩;rw[<-HL.out];have ad:=gW (HB.out.trans (hb.mono (by simp)));clear hb))
 go_ret
 exact⟨rfl,ad.out⟩
theorem Lg(w:aq)(t:Nat->Nat)(ht:∀m,t m<=1000)(h:lQ t 15=0):
  aw prog 161 #[ah (iV t)] w fun e w'=>e=ao (ae aj 0)/\aR w.heap.size w w':=by
 have HT:=gW ht
 clear ht
 have HL:=gW h
 clear h
 go_enter func161,ntmps161
 have h1:jJ (w.alloc (ak (iV t) 211)) w.heap.size t:=aG w _
 have H1:=gW h1
 have HB:=gW ((Below.refl w.heap.size w).alloc gY (ak (iV t) 211))
 clear h1
 go_wp2_with (first
  |(refine aE rfl _ _ rfl w.heap.size rfl _ (iV t) (0,0) _ H1.out underlying211 rfl (by rw[nS];exact qd) ?_)
  |(go_at_call 174;refine(wy _ t HT.out).mono ?_;rintro e w' ⟨rfl,hb⟩;rw[HL.out];have ad:=gW (HB.out.trans (hb.mono (by simp)));clear hb))
 go_ret
 exact⟨rfl,ad.out⟩
def uu(z o:Bool):Int:=if z=false/\o=false then 31 else 0
theorem Lh(w:aq)(t:Nat->Nat)(ht:∀m,t m<=1000)(h:0<lQ t 15):
  aw prog 161 #[ah (iV t)] w fun e w'=>e=ao (ae aj (uu (nx t lY) (nx t qc)))/\aR w.heap.size w w':=by
 have HT:=gW ht
 have aT:=D5 ht (Nat.le_refl 15)
 obtain⟨av,aS⟩:=aT
 clear ht
 obtain⟨l,hl⟩:=gX (lQ t 15)
 have HL:=gW hl
 rw[<-hl]at h av aS
 clear hl
 have Q0:=gW fun u:aq=>Ee u t lY
 have Q1:=gW fun u:aq=>Ee u t qc
 have hd:decide (l<0)=false:=by simp;omega
 cases hz:nx t lY
 ·rw[hz]at Q0;cases ho:nx t qc
  all_goals
   rw[ho]at Q1
   clear hz ho
   go_enter func161,ntmps161
   have h1:jJ (w.alloc (ak (iV t) 211)) w.heap.size t:=aG w _
   have H1:=gW h1
   have HB:=gW ((Below.refl w.heap.size w).alloc gY (ak (iV t) 211))
   clear h1
   go_wp2_with (refine aE rfl _ _ rfl w.heap.size rfl _ (iV t) (0,0) _ H1.out underlying211 rfl (by rw[nS];exact qd) ?_)
   refine(wy _ t HT.out).mono ?_
   rintro e w' ⟨rfl,hb⟩
   rw[<-HL.out]
   have ad:=gW (HB.out.trans (hb.mono (by simp)))
   have al:=gW (H1.out.below hb (by simp))
   clear hb
   go_wp2_with (first
    |(refine tz (by rfl) _ _ rfl w.heap.size rfl _ (iV t) (0,0) _ al.out underlying211 rfl (by rw[nS];exact qd) ?_)
    |(refine yR (by rfl) _ _ _ rfl (ah (iV t)) (ah (iV lY)) _ rfl rfl (yT _ _ _ _ _) (Q0.out _) ?_)
    |(refine yR (by rfl) _ _ _ rfl (ah (iV t)) (ah (iV qc)) _ rfl rfl (yT _ _ _ _ _) (Q1.out _) ?_))
   go_ret
   exact⟨rfl,ad.out⟩
 ·rw[hz]at Q0;clear hz Q1;have he:uu true (nx t qc)=0:=by unfold uu;rw[if_neg (by simp)]
  rw[he];clear he;go_enter func161,ntmps161
  have h1:jJ (w.alloc (ak (iV t) 211)) w.heap.size t:=aG w _;have H1:=gW h1;have HB:=gW ((Below.refl w.heap.size w).alloc gY (ak (iV t) 211));clear h1;go_wp2_with (refine aE rfl _ _ rfl w.heap.size rfl _ (iV t) (0,0) _ H1.out underlying211 rfl (by rw[nS];exact qd) ?_)
  refine(wy _ t HT.out).mono ?_;rintro e w' ⟨rfl,hb⟩;rw[<-HL.out];have ad:=gW (HB.out.trans (hb.mono (by simp)));have al:=gW (H1.out.below hb (by simp));clear hb;go_wp2_with (first
   |(refine tz (by rfl) _ _ rfl w.heap.size rfl _ (iV t) (0,0) _ al.out underlying211 rfl (by rw[nS];exact qd) ?_)
   |(refine yR (by rfl) _ _ _ rfl (ah (iV t)) (ah (iV lY)) _ rfl rfl (yT _ _ _ _ _) (Q0.out _) ?_))
  go_ret;exact⟨rfl,ad.out⟩
theorem Li(w:aq)(f:Nat->Nat)(n:Nat)(hn:n<=1000)(ad:∀j,j<n->f j<=15):
  aw prog 161 #[ah (iV fun m=>tcN f m n)] w fun e w'=>e=ao (ae aj (qu (P8 f n) (lH f n)))/\aR w.heap.size w w':=by
 have ht:∀m,tcN f m n<=1000:=fun m=>Nat.le_trans (wj f m n) hn
 have hl:=KV ad
 unfold qu
 by_cases h1:32768<P8 f n
 ·rw[if_pos h1];exact Lf w _ ht (by omega)
 ·rw[if_neg h1];by_cases h2:P8 f n=32768
  ·rw[if_pos (.inl h2)];exact Lg w _ ht (by omega)
  ·have:=Lh w _ ht (by omega);have e:uu (nx (fun m=>tcN f m n) lY) (nx (fun m=>tcN f m n) qc)=if P8 f n=32768\/lH f n=0\/(lH f n=1/\P8 f n=16384)then 0 else 31:=by
    have e0:nx (fun m=>tcN f m n) lY=true↔lH f n=0:=(wD _ _).trans (KW ad);have e1:nx (fun m=>tcN f m n) qc=true↔lH f n=1/\P8 f n=16384:=(wD _ _).trans (KY ad);unfold uu;simp only[<-e0,<-e1];cases nx (fun m=>tcN f m n) lY<;>cases nx (fun m=>tcN f m n) qc<;>simp[h2]
   rw[e]at this;exact this
theorem Lj(w:aq)(A:Option au)(n c:Nat)(il:Int)(h:il<1\/15<il):
  aw prog 137 #[af A n c,ae aj il] w fun e w'=>e=ao (ae aj 2)/\w=w':=by
 by_cases h1:il<1
 ·have hd:decide (il<1)=true:=by simpa using h1
  clear h;go_enter func137,ntmps137
  go_wp2;go_ret;exact⟨rfl,rfl⟩
 ·have h2:15<il:=by omega
  have hd:decide (il<1)=false:=by simpa using h1
  clear h;go_enter func137,ntmps137
  go_wp2;go_ret;exact⟨rfl,rfl⟩
theorem Lk(w:aq)(A:Option au)(n c:Nat)(il:Int)(h1:1<=il)(h2:il<=15)(h:320<n):
  aw prog 137 #[af A n c,ae aj il] w fun e w'=>e=ao (ae aj 4)/\w=w':=by
 have hd:decide (il<1)=false:=by simp;omega
 have ad:decide (15<il)=false:=by simp;omega
 go_enter func137,ntmps137
 go_wp2
 go_ret
 exact⟨rfl,rfl⟩
theorem Ll(w:aq)(A:Option au)(n c:Nat)(f:Nat->Nat)(il:Int)(hr:iy w w.heap.size A n f)(h1:1<=il)(h2:il<=15)(h:n<=320):
  aw prog 137 #[af A n c,ae aj il] w fun e w'=>e=ao (ae aj (if qt f n il=true then 2 else qu (P8 f n) (lH f n)))/\aR w.heap.size w w':=by
 have HR:=gW hr
 clear hr
 have hd:decide (il<1)=false:=by simp;omega
 have aX:decide (15<il)=false:=by simp;omega
 have aY:decide ((320:Int)<(n:Int))=false:=by simp;omega
 obtain⟨E,hE⟩:=gX ((if qt f n il=true then 2 else qu (P8 f n) (lH f n)))
 rw[<-hE]
 have HE:=gW hE
 clear hE
 go_enter func137,ntmps137
 go_wp2
 go_loop [18] (fun i=>∃k:Nat,k<=n/\i=ae aj k/\∀j,j<k->(f j:Int)<=il) (fun i=>n-(aP i).toNat)
 case atStart=>exact⟨0,Nat.zero_le _,rfl,fun j hj=>absurd hj (by omega)⟩
 case round=>
  obtain⟨k,hk,rfl,av⟩:=hrel;have ad:=gW av;clear av;have hf:=HR.out.1 k;by_cases al:k<n
  ·obtain⟨b,o,rfl,_,hc⟩:=HR.out.2 (by omega);have aU:=hc k al;clear hc;by_cases hb:il<(f k:Int)
   ·have HB:=gW (G9 al hb);go_wp2;go_ret;exact⟨nV (by rw[HE.out,if_pos HB.out]),Below.refl _ _⟩
   ·go_wp2;refine⟨⟨k+1,al,by go_num,fun j hj=>?_⟩,by simp[aP];omega⟩;rcases Nat.eq_or_lt_of_le (Nat.le_of_lt_succ hj)with e|e
    ·subst e;omega
    ·exact ad.out j e
  ·obtain rfl:k=n:=by omega
   clear hk al;have aS:∀j,j<k->f j<=15:=fun j hj=>by have:=ad.out j hj;omega
   have aT:=gW aS;have aV:=gW (HE.out.trans (by rw[if_neg (by rw[G8 ad.out];decide)]:_=qu (P8 f k) (lH f k)));clear aS;go_wp2_with fail
   refine(Ec w A k c f HR.out (by omega) aT.out).mono ?_;rintro e w1 ⟨rfl,hb⟩;have HB:=gW hb;clear hb;go_wp2_with fail
   refine(Li w1 f k (by omega) aT.out).mono ?_;rintro e w2 ⟨rfl,hb⟩;rw[<-aV.out];have aW:=gW (HB.out.trans (hb.mono HB.out.size));clear hb;go_wp2;go_ret;exact⟨rfl,aW.out⟩
end Go.Proofs.YtokpcpjnihinfaaGreat
