/-
  Words and walks.
-/
import Derived.Test.YtgokdgcmkcmjeaaGreatpraf
import Derived.Test.YtgokdgcmkcmjeaaGreatprax
import Derived.Test.YtgokdgcmkcmjeaaGreatpray
import Derived.Test.YtgokdgcmkcmjeaaGreatprba
set_option maxRecDepth 100000
set_option maxHeartbeats 16000000
namespace Go.Proofs.YtgokdgcmkcmjeaaGreat
open Go.RowKit
def headR(g:Nat→Nat)(L:Nat)(a:Int):Blk13×Nat×Int:=
 if asked13 L a≠0 then(blk0,0,asked13 L a)else if(begR g L a.toNat).2.2≠0 then(blk0,0,(begR g L a.toNat).2.2)else begR g L a.toNat
theorem cell_blkT2{fn:Func}{p u v:Tmp}(h:fn.results=#[.cell p 28,.tmp u,.tmp v])(tmps:Array Value)(w:World)(g:Nat)(cs:Array Value)(hs:cs.size=37)(hp:tmps.getD p undef=.pointer (some ⟨g,0,none⟩))(ht:w.heap[g]?=some (.cells cs 28 (0,0))):
  (results fn tmps).run Tryz.prog w=.ok (.tuple #[.agg cs,tmps.getD u undef,tmps.getD v undef]) w:=by
 have hp':tmps[p]?.getD undef=.pointer (some ⟨g,0,none⟩):=by simpa using hp
 have hl:=run_loadVar_row (P:=Tryz.prog) w g 28 28 cs (0,0) _ ht Tryz.underlying28 rfl (szBlkT cs hs)
 simp[results,h,hp',asAddr,hl]
def HeadD(base:Nat)(R:Blk13×Nat×Int)(e:Ending)(w':World):Prop:=∃v,e=.returned (.tuple #[v,.int .i64 (R.2.1:Int),.int .i64 R.2.2])∧OfD base R.1 v w'∧(R.2.2=0→BlkIn R.1)
theorem ofD_none(base:Nat)(w:World):OfD base blk0 (.agg (blkT 0 false 0 (fun _=>0) (fun _=>0) (.slice none 0 0) (.slice none 0 0))) w:=⟨(.slice none 0 0),(.slice none 0 0),rfl,World.ownsRow_nil ..,World.ownsRow_nil ..⟩
theorem headD_none{base:Nat}{R:Blk13×Nat×Int}{w':World}{x:Int}(h:R=(blk0,0,x))(hx:x≠0):HeadD base R (.returned (.tuple #[.agg (blkT 0 false 0 (fun _=>0) (fun _=>0) (.slice none 0 0) (.slice none 0 0)),.int .i64 0,.int .i64 x])) w':=by
 subst h;exact⟨_,rfl,ofD_none base w',fun h=>absurd h hx⟩
theorem built_blkT0:Tryz.prog.built 28 []=some (blkT 0 false 0 (fun _=>0) (fun _=>0) (.slice none 0 0) (.slice none 0 0)):=by kernel_rfl
theorem OfD.keep{base:Nat}{k:Blk13}{v:Value}{w w':World}(h:OfD base k v w){b2:Nat}(hb:b2≤base)(hk:∀j,base≤j→j<w.heap.size→w'.heap[j]?=w.heap[j]?):OfD b2 k v w':=by
 obtain⟨v1,v2,e,o1,o2⟩:=h
 exact⟨v1,v2,e,ownsRow_lower (own_blk o1 fun j hj=>hk j (own_blk_lt o1 j hj).1 (own_blk_lt o1 j hj).2) hb,ownsRow_lower (own_blk o2 fun j hj=>hk j (own_blk_lt o2 j hj).1 (own_blk_lt o2 j hj).2) hb⟩
theorem rhead13_any(w:World)(A:Option Addr)(l c:Nat)(g:Nat→Nat)(hg:RdB w w.heap.size A l g)(a:Int):
  Calls Tryz.prog 9 #[.slice A l c,.int .i64 a] w fun e w'=>HeadD w.heap.size (headR g l a) e w'∧Below w.heap.size w w':=by
 obtain⟨h,hh⟩:∃h,h=w.heap.size:=⟨_,rfl⟩
 obtain⟨Z,hZ⟩:∃Z,Z=blkT 0 false 0 (fun _=>0) (fun _=>0) (.slice none 0 0) (.slice none 0 0):=⟨_,rfl⟩
 obtain⟨ZK,hZK⟩:∃Z,Z=z5:=⟨_,rfl⟩
 obtain⟨W1,hW1⟩:∃W1,W1=w.alloc (.cells Z 28):=⟨_,rfl⟩
 have hb1:Below h w W1:=by rw[hW1,hh];exact(Below.refl _ _).alloc (Nat.le_refl _) _
 have t1:BoxC W1 h Z 28:=by rw[hW1,hh];exact BoxC.new w _ _
 have s1:W1.heap.size=h+1:=by rw[hW1,hh];simp
 obtain⟨R,hR⟩:∃R,R=headR g l a:=⟨_,rfl⟩
 rw[←hR]
 obtain⟨q,hq⟩:∃q,q=asked13 l a:=⟨_,rfl⟩
 have hrr:=hR
 unfold headR at hrr
 rw[←hq]at hrr
 have hask:=rask13_any W1 A l c a
 rw[←hq]at hask
 have HAS:=Lib.hid hask;have HG:=Lib.hid hg;have HT1:=Lib.hid t1;have HB1:=Lib.hid hb1;have HH:=Lib.hid hh;have HW1:=Lib.hid hW1;have HS1:=Lib.hid s1;have HRR:=Lib.hid hrr;have HQ:=Lib.hid hq;have HZE:=Lib.hid hZ
 have HZS:Hid (Z.size=37):=Lib.hid (by rw[hZ];exact blkT_size ..)
 have HZO:Hid (Z.all (·.oneCell')=true):=Lib.hid (by rw[hZ];exact blkT_one _ _ _ _ _ _ _ rfl rfl)
 have HZB:Hid (Tryz.prog.built 28 []=some Z):=Lib.hid (by rw[hZ];exact built_blkT0)
 have HKS:Hid (ZK.size=5):=Lib.hid (by rw[hZK];rfl)
 have hzb:∀u:World,(zeroValue 28).run Tryz.prog u=.ok (.agg Z) u:=by rw[hZ];exact(zero_of_info infoBlkT).1
 have hzk:∀u:World,(zeroValue 73).run Tryz.prog u=.ok (.agg ZK) u:=by rw[hZK];exact(zero_of_info infoBlk13).1
 clear hask hg t1 hb1 hh hW1 s1 hrr hq hR hZ hZK
 by_cases q0:q=0
 ·have hl:l≤131072:=by
   have:=HQ.out;rw[q0]at this;unfold asked13 at this
   split at this
   ·omega
   ·omega
  have ha:0≤a∧a≤8*(l:Int):=by
   have:=HQ.out;rw[q0]at this;unfold asked13 at this
   rw[if_neg (by omega)]at this
   split at this
   ·omega
   ·omega
  obtain⟨n,hn⟩:∃n:Nat,n=a.toNat:=⟨_,rfl⟩
  have ea:a=(n:Int):=by omega
  obtain⟨D,hD⟩:∃D,D=begR g l n:=⟨_,rfl⟩
  have HR2:Hid (R=if D.2.2≠0 then(blk0,0,D.2.2)else D):=Lib.hid (by rw[HRR.out,if_neg (fun h=>h q0),←hn,←hD])
  have hbg:=rbeg13_any W1 A l c g ((HG.out.below (HH.out▸HB1.out) (Nat.le_refl _)).more (HH.out▸HB1.out.size)) (by omega) n (by omega)
  rw[←hD,←ea]at hbg
  have HBG:=Lib.hid hbg
  subst q0
  clear hbg hD hn ea ha hl
  go_enter Tryz.func9,Tryz.ntmps9
  go_wp2_with (first|(rw[←HW1.out,←HH.out])|fail)
  refine HAS.out.mono ?_
  rintro e w9 ⟨rfl,rfl⟩
  go_wp2_with fail
  refine HBG.out.mono ?_
  rintro e w3 ⟨⟨B1,e1,B2,e2,rfl,r1,r2,n1,n2,hin⟩,hb3⟩
  obtain⟨Y,hY⟩:∃Y,Y=blkC D.1 B1 e1 B2 e2:=⟨_,rfl⟩
  rw[←hY]
  obtain⟨p,hp⟩:∃p,p=D.2.1:=⟨_,rfl⟩
  obtain⟨f,hf⟩:∃p,p=D.2.2:=⟨_,rfl⟩
  rw[←hf]at HR2 hin
  rw[←hp,←hf]
  have HYS:Hid (Y.size=5):=Lib.hid (by rw[hY];rfl)
  have HYO:Hid (Y.all (·.oneCell')=true):=Lib.hid (by rw[hY];simp[blkC,Value.oneCell'])
  obtain⟨W4,hW4⟩:∃W,W=mkV w3 ZK Y 73:=⟨_,rfl⟩
  obtain⟨s3,hs3⟩:∃s,s=w3.heap.size:=⟨_,rfl⟩
  have hb4:Below w3.heap.size w3 W4:=by rw[hW4];exact mkV_below _ _ _ _
  have x4:BoxC W4 s3 Y 73:=by rw[hW4,hs3];exact mkV_row w3 ZK Y _
  have hsz:h+1≤w3.heap.size:=by have:=hb3.size;rw[HS1.out]at this;exact this
  have t4:BoxC W4 h Z 28:=(HT1.out.below hb3 (by rw[HS1.out];omega)).below hb4 (by omega)
  have HB4:Hid (Below h w W4):=Lib.hid ((HB1.out.trans (hb3.mono (by rw[HS1.out];omega))).trans (hb4.mono (by omega)))
  have HS4:Hid (h+1≤W4.heap.size):=Lib.hid (by have:=hb4.size;omega)
  have HX4:=Lib.hid x4;have HT4:=Lib.hid t4;have HW4:=Lib.hid hW4;have HS3:=Lib.hid hs3;have HIN:=Lib.hid hin
  have HYE:=Lib.hid hY;have HP:=Lib.hid hp;have HFD:=Lib.hid hf
  have HRA:Hid (RdB W4 W4.heap.size B1 D.1.n D.1.F∧RdB W4 W4.heap.size B2 D.1.m D.1.G):=Lib.hid ⟨(r1.below hb4 (Nat.le_refl _)).more hb4.size,(r2.below hb4 (Nat.le_refl _)).more hb4.size⟩
  clear hY hp hf hW4 hs3 hb4 x4 t4 hsz r1 r2 n1 n2 hin hb3
  by_cases f0:f=0
  ·subst f0
   have HR3:Hid (R=D):=Lib.hid (by rw[HR2.out,if_neg (fun h=>h rfl)])
   have hin0:BlkIn D.1:=by have:=HIN.out;simpa using this
   have hof:=rof13_any W4 D.1 B1 e1 B2 e2 hin0 HRA.out.1 HRA.out.2
   rw[←HYE.out]at hof
   have HOF:=Lib.hid hof
   clear hof
   go_wp2_with (first
   |(refine wpList_store_rowTo rfl _ _ _ rfl rfl w3.heap.size Y rfl rfl 73 ZK (heap_alloc_new w3 _) (szBlk5 _ HYS.out) (by rw[HKS.out,HYS.out]) HYO.out ?_;change wpList _ _ _ _ _ (mkV w3 ZK Y 73);rw[←HW4.out,←HS3.out])
    |(refine wpList_load_row rfl _ _ rfl s3 rfl _ Y (0,0) _ HX4.out Tryz.underlying73 rfl (szBlk5 _ HYS.out) ?_)
    |fail)
   refine HOF.out.mono ?_
   rintro e w5 ⟨v,rfl,⟨v1,v2,rfl,o1,o2⟩,hb5⟩
   obtain⟨V,hV⟩:∃V,V=blkT D.1.kind D.1.last D.1.left (tcO D.1.kind D.1.F D.1.n) (tcO D.1.kind D.1.G D.1.m) v1 v2:=⟨_,rfl⟩
   rw[←hV]
   have HVS:Hid (V.size=37):=Lib.hid (by rw[hV];exact blkT_size ..)
   have HVO:Hid (V.all (·.oneCell')=true):=Lib.hid (by rw[hV];exact blkT_one _ _ _ _ _ _ _ o1.one o2.one)
   have HT5:=Lib.hid (HT4.out.below hb5 HT4.out.lt)
   have HB5:=Lib.hid (HB4.out.trans (hb5.mono (by have:=HS4.out;omega)))
   have HVE:Hid (OfD W4.heap.size D.1 (.agg V) w5):=Lib.hid ⟨v1,v2,by rw[hV],o1,o2⟩
   clear hV o1 o2 hb5
   go_wp2_with (first
    |(refine wpList_store_rowTo rfl _ _ _ rfl rfl h V rfl rfl 28 Z HT5.out (szBlkT _ HVS.out) (by rw[HZS.out,HVS.out]) HVO.out ?_)
    |fail)
   refine bodyPost_ret ((cell_blkT2 rfl _ _ h _ HVS.out rfl (setRow_heap _ _ _ _ _ _ HT5.out)).trans rfl) rfl ⟨?_,by rw[←HH.out];exact below_rowU13 HB5.out (Nat.le_refl _) _⟩
   rw[HR3.out,←HH.out]
   exact⟨.agg V,by rw[←HP.out,←HFD.out];rfl,HVE.out.keep (by have:=HS4.out;omega) (fun j h1 _=>setRow_other _ _ _ _ (by have:=HS4.out;omega)),fun _=>hin0⟩
  have d0:(f==0)=false:=beq_eq_false_iff_ne.2 f0
  have d1:(f !=0)=true:=by simp[bne,d0]
  have HR3:Hid (R=(blk0,0,f)):=Lib.hid (by rw[HR2.out,if_pos f0])
  have HF0:=Lib.hid f0
  go_wp2_with (first
   |(refine wpList_store_rowTo rfl _ _ _ rfl rfl w3.heap.size Y rfl rfl 73 ZK (heap_alloc_new w3 _) (szBlk5 _ HYS.out) (by rw[HKS.out,HYS.out]) HYO.out ?_;change wpList _ _ _ _ _ (mkV w3 ZK Y 73);rw[←HW4.out,←HS3.out])
   |(refine wpList_buildTo rfl 28 #[] rfl (some 26) rfl Z ?_ ?_;focus(simpa[Act.eval]using HZB.out))
   |(refine wpList_store_rowTo rfl _ _ _ rfl rfl h Z rfl rfl 28 Z HT4.out (szBlkT _ HZS.out) rfl HZO.out ?_)
   |fail)
  refine bodyPost_ret ((cell_blkT2 rfl _ _ h _ HZS.out rfl (setRow_heap _ _ _ _ _ _ HT4.out)).trans rfl) rfl ⟨by rw[HZE.out];exact headD_none HR3.out HF0.out,by rw[←HH.out];exact below_rowU13 HB4.out (Nat.le_refl _) _⟩
 have d0:(q==0)=false:=beq_eq_false_iff_ne.2 q0
 have d1:(q !=0)=true:=by simp[bne,d0]
 have HR2:Hid (R=(blk0,0,q)):=Lib.hid (by rw[HRR.out,if_pos q0])
 go_enter Tryz.func9,Tryz.ntmps9
 go_wp2_with (first|(rw[←HW1.out,←HH.out])|fail)
 refine HAS.out.mono ?_
 rintro e w9 ⟨rfl,rfl⟩
 go_wp2_with (first
  |(refine wpList_buildTo rfl 28 #[] rfl (some 15) rfl Z ?_ ?_;focus(simpa[Act.eval]using HZB.out))
  |(refine wpList_store_rowTo rfl _ _ _ rfl rfl h Z rfl rfl 28 Z HT1.out (szBlkT _ HZS.out) rfl HZO.out ?_)
  |fail)
 refine bodyPost_ret ((cell_blkT2 rfl _ _ h _ HZS.out rfl (setRow_heap _ _ _ _ _ _ HT1.out)).trans rfl) rfl ⟨by rw[HZE.out];exact headD_none HR2.out q0,by rw[←HH.out];exact below_rowU13 HB1.out (Nat.le_refl _) _⟩
end Go.Proofs.YtgokdgcmkcmjeaaGreat
namespace Go.Proofs.YtgokdgcmkcmjeaaGreat
open Go.RowKit
structure TwInv (l:List Oper) (T:Nat→Value→Prop) (a0:Act) (W0 W1:World) (s:Nat) (listed:Array Bool) (a:Act) (w:World):Prop where
 size:listed.size=l.length
 tmps:a.tmps.size=a0.tmps.size
 defers:a.defers=a0.defers
 off:∀t,(∀j d,listed.getD j false=true→(l[j]?).bind (·.dst)=some d→d≠t)→a.tmps[t]?=a0.tmps[t]?
 told:∀j d,listed.getD j false=true→(l[j]?).bind (·.dst)=some d→T j (a.eval (.tmp d))
 closed:∀j oj,l[j]?=some oj→listed.getD j false=true→∀e∈oj.after,Region.binds .any e=true→listed.getD e.on false=true
 world:w=if listed.getD s false=true then W1 else W0
def TwStep(P:Program)(l:List Oper)(T:Nat→Value→Prop)(a0:Act)(W0 W1:World)(s k:Nat)(o:Oper):Prop:=
 ∀(a:Act) (w:World),(w=W0∨(w=W1∧k≠s∧Region.waitsFor .any l.toArray s k=false))→(∀t,offB l t=true→a.eval (.tmp t)=a0.eval (.tmp t))→(∀j d,Region.waitsFor .any l.toArray k j=true→(l[j]?).bind (·.dst)=some d→T j (a.eval (.tmp d)))→
  ∀(K:Act→World→Prop) (Q:Exit→Act→World→Prop),(∀v,T k v→K (a.put o.dst v) (if k=s then W1 else w))→if Region.wanted o (yielded l.toArray a.tmps)=true then Oper.wp P o a w K Q else K (a.put o.dst undef) w
def TwAll(P:Program)(l:List Oper)(T:Nat→Value→Prop)(a0:Act)(W0 W1:World)(s:Nat):Nat→List Oper→Prop
 |_,[]=>True
 |k,o::r=>TwStep P l T a0 W0 W1 s k o∧TwAll P l T a0 W0 W1 s (k+1) r
theorem TwAll.get{P:Program}{l:List Oper}{T:Nat→Value→Prop}{a0:Act}{W0 W1:World}{s:Nat}:∀{r:List Oper} {k:Nat},TwAll P l T a0 W0 W1 s k r→∀{j:Nat} {o:Oper},r[j]?=some o→TwStep P l T a0 W0 W1 s (k+j) o
 |[],_,_,_,_,h=>by cases h
 |_::_,k,hA,0,_,h=>by cases h;exact hA.1
 |_::r,k,hA,j+1,o,h=>by
  have:=TwAll.get (r:=r) hA.2 (j:=j) (by simpa using h)
  rw[show k+1+j=k+(j+1) by omega]at this
  exact this
theorem tw_any{P:Program}{Q:Exit→Act→World→Prop}{a0:Act}{W0 W1:World}{l:List Oper}{T:Nat→Value→Prop}{s:Nat}(hs:s<l.length)(hB:tabB l a0.tmps.size=true)(hstep:TwAll P l T a0 W0 W1 s 0 l)
  (hend:∀listed a w,TwInv l T a0 W0 W1 s listed a w→(∀i,i<l.length→listed.getD i false=true)→Q .normal a w):
  ∀(f:Nat) (listed:Array Bool) (a:Act) (w:World),((List.range l.length).filter fun i=> !listed.getD i false).length=f→TwInv l T a0 W0 W1 s listed a w→wpAny P .any l.toArray Q f listed a w:=by
 have hB':=hB
 simp only[tabB,Bool.and_eq_true,decide_eq_true_eq]at hB'
 obtain⟨⟨hnd,hin⟩,hlow⟩:=hB'
 have hall:∀(listed:Array Bool),listed.size=l.length→Region.ready .any l.toArray listed=[]→∀i,i<l.length→listed.getD i false=true:=fun listed hsz hr i=>by
  induction i using Nat.strongRecOn with
  |_ i ih=>
   intro hi
   cases hu:listed.getD i false with
   |true=>rfl
   |false=>
    exfalso
    have h1:=List.all_eq_true.1 hlow i (List.mem_range.2 hi)
    have hoi:l[i]?=some l[i]:=List.getElem?_eq_getElem hi
    simp only[hoi]at h1
    have:i∈Region.ready .any l.toArray listed:=mem_ready.2 ⟨getD_in (by omega) hu,l[i],by simp[hi],fun e he hb=>by
     have h2:=Array.all_eq_true_iff_forall_mem.1 h1 e he
     simp only[hb,Bool.not_true,Bool.false_or,decide_eq_true_eq]at h2
     exact ih e.on h2 (by omega)⟩
    rw[hr]at this;cases this
 intro f
 induction f with
 |zero=>
  intro listed a w hf inv
  have hup:∀i,i<l.length→listed.getD i false=true:=fun i hi=>by
   have h0:=List.length_eq_zero_iff.1 hf
   have h1:=List.filter_eq_nil_iff.1 h0 i (List.mem_range.2 hi)
   simpa using h1
  refine⟨?_,hend listed a w inv hup⟩
  apply List.eq_nil_iff_forall_not_mem.2
  intro i hi
  obtain⟨h0,o,ho,_⟩:=mem_ready.1 hi
  have hlt:i<l.length:=by have:=(Array.getElem?_eq_some_iff.1 ho).1;simpa using this
  have h1:=hup i hlt
  rw[getD_both h0]at h1;cases h1
 |succ f ih=>
  intro listed a w hf inv
  refine⟨fun h0=>hend listed a w inv (hall listed inv.size h0),fun k hk=>?_⟩
  obtain⟨h0,o,ho,hafter⟩:=mem_ready.1 hk
  have hol:l[k]?=some o:=by simpa using ho
  have hlt:k<l.length:=(List.getElem?_eq_some_iff.1 hol).1
  have hst:TwStep P l T a0 W0 W1 s k o:=by have:=hstep.get hol;rwa[Nat.zero_add]at this
  have heval:∀t,offB l t=true→a.eval (.tmp t)=a0.eval (.tmp t):=fun t ht=>by
   show a.tmps.getD t undef=a0.tmps.getD t undef
   rw[Array.getD_eq_getD_getElem?,Array.getD_eq_getD_getElem?,inv.off t (fun _ _ _ hd=>offB_is ht hd)]
  have hfacts:∀j d,Region.waitsFor .any l.toArray k j=true→(l[j]?).bind (·.dst)=some d→T j (a.eval (.tmp d)):=fun j d hw hd=>by
   obtain⟨ok,hok,e,he,hb,hon⟩:=Region.waitsFor_spec hw
   rw[ho]at hok;cases hok
   exact inv.told j d (by have:=hafter e he hb;rwa[hon]at this) hd
  have hdlt:∀d,o.dst=some d→d<a.tmps.size:=fun d hd=>by
   have h1:=List.all_eq_true.1 hin o (List.mem_of_getElem? hol)
   simp only[hd,decide_eq_true_eq]at h1
   rw[inv.tmps];exact h1
  have hw01:w=W0∨(w=W1∧k≠s∧Region.waitsFor .any l.toArray s k=false):=by
   cases hls:listed.getD s false with
   |false=>left;have:=inv.world;rw[hls]at this;simpa using this
   |true=>
    right
    refine⟨by have:=inv.world;rw[hls]at this;simpa using this,fun e=>?_,?_⟩
    ·subst e;rw[getD_both h0]at hls;cases hls
    ·cases hw:Region.waitsFor .any l.toArray s k with
     |false=>rfl
     |true=>
      exfalso
      obtain⟨os,hos,e,he,hb,hon⟩:=Region.waitsFor_spec hw
      have:=inv.closed s os (by simpa using hos) hls e he hb
      rw[hon,getD_both h0]at this;cases this
  have hgo:=hst a w hw01 heval hfacts (wpAny P .any l.toArray Q f (listed.setIfInBounds k true)) Q (fun v hv=>by
   refine ih _ _ _ ?_ ⟨by simp[inv.size],?_,?_,fun t ht=>?_,fun j d hl hd=>?_,fun j oj hj hl e he hb=>?_,?_⟩
   ·have hfe:((List.range l.length).filter fun i=> !(listed.setIfInBounds k true).getD i false)=((List.range l.length).filter fun i=> !listed.getD i false).erase k:=by
     rw[List.Nodup.erase_eq_filter (List.nodup_range.filter _),List.filter_filter]
     apply List.filter_congr
     intro x hx
     by_cases e:x=k
     ·subst e
      have:x<listed.size:=by rw[inv.size];exact hlt
      simp[this]
     ·rw[getD_set_ne false (Ne.symm e)];simp[e]
    rw[hfe,List.length_erase_of_mem (List.mem_filter.2 ⟨List.mem_range.2 hlt,by rw[getD_both h0];rfl⟩),hf];rfl
   ·unfold Act.put;cases o.dst<;>simp[inv.tmps]
   ·unfold Act.put;cases o.dst<;>exact inv.defers
   ·rw[←inv.off t (fun j d hl hd=>ht j d (getD_set_true hl) hd)]
    unfold Act.put
    cases hd:o.dst with
    |none=>rfl
    |some d=>
     have e:d≠t:=ht k d (by have:k<listed.size:=(by rw[inv.size];exact hlt);simp[this]) (by rw[hol];simpa using hd)
     simp[Array.getElem?_setIfInBounds_ne e]
   ·by_cases e:j=k
    ·subst e
     rw[hol]at hd
     have hd':o.dst=some d:=by simpa using hd
     have hlt2:=hdlt d hd'
     have he:(a.put o.dst v).eval (.tmp d)=v:=by rw[hd'];simp[Act.put,Act.eval,hlt2]
     rw[he];exact hv
    ·rw[getD_set_ne false (Ne.symm e)]at hl
     have h1:=inv.told j d hl hd
     have he:(a.put o.dst v).eval (.tmp d)=a.eval (.tmp d):=Act.eval_put fun d' hd' hx=>by
      cases hx
      cases hj:l[j]? with
      |none=>rw[hj]at hd;cases hd
      |some y=>
       rw[hj]at hd
       exact e (tab_dst hnd hj hol (by simpa using hd) hd')
     rw[he];exact h1
   ·by_cases e':j=k
    ·subst e'
     rw[hol]at hj;cases hj
     exact getD_set_true (hafter e he hb)
    ·rw[getD_set_ne false (Ne.symm e')]at hl
     exact getD_set_true (inv.closed j oj hj hl e he hb)
   ·by_cases e:k=s
    ·subst e
     have:k<listed.size:=by rw[inv.size];exact hlt
     rw[if_pos rfl];simp[this]
    ·rw[if_neg e,getD_set_ne false e];exact inv.world)
  unfold wpOp
  simp only[ho]
  split at hgo
  ·rename_i hw;rw[if_pos hw];exact .inl hgo
  ·rename_i hw;rw[if_neg hw];exact hgo
theorem wp_region_two{P:Program}{id:Nat}{Q:Exit→Act→World→Prop}{a0:Act}{w0:World}{l:List Oper}(s:Nat)(T:Nat→Value→Prop)(W1:World)(hm:P.follows .mixedOrders=true)(hs:(decide (s<l.length)&&tabB l a0.tmps.size)=true)
  (hstep:TwAll P l T a0 w0.drew W1 s 0 l)
  (hend:∀(vals:Tmp→Value),(∀j d,(l[j]?).bind (·.dst)=some d→T j (vals d))→Q .normal (putL (l.map (·.dst)) vals a0) W1):(Code.region id l.toArray true).wp P Q a0 w0:=by
 simp only[Bool.and_eq_true,decide_eq_true_eq]at hs
 obtain⟨hsl,hB⟩:=hs
 refine wp_region_any hm ?_
 have hl0:∀i,(Array.replicate l.toArray.size false).getD i false=false:=fun i=>getD_replicate_false _ _
 refine tw_any (T:=T) hsl hB hstep (fun listed a w inv hup=>?_) l.toArray.size _ _ _ ?_ ⟨by simp,rfl,rfl,fun _ _=>rfl,(fun j d h _=>by rw[hl0]at h;cases h),(fun j oj _ h=>by rw[hl0]at h;cases h),by rw[hl0];rfl⟩
 ·have ha:a=putL (l.map (·.dst)) (fun d=>a.eval (.tmp d)) a0:=by
   have ht:a.tmps=(putL (l.map (·.dst)) (fun d=>a.eval (.tmp d)) a0).tmps:=by
    apply Array.ext_getElem?
    intro t
    by_cases ht:some t∈l.map (·.dst)
    ·obtain⟨o,ho,hd⟩:=List.mem_map.1 ht
     simp only[tabB,Bool.and_eq_true,decide_eq_true_eq]at hB
     have h1:=List.all_eq_true.1 hB.1.2 o ho
     simp only[hd,decide_eq_true_eq]at h1
     rw[putL_in _ _ _ t (.inl ht) h1]
     have h2:t<a.tmps.size:=by rw[inv.tmps];exact h1
     simp[Act.eval,h2]
    ·rw[putL_out _ _ _ t ht]
     refine inv.off t (fun j d _ hd e=>ht ?_)
     cases hj:l[j]? with
     |none=>rw[hj]at hd;cases hd
     |some y=>
      rw[hj]at hd
      exact List.mem_map.2 ⟨y,List.mem_of_getElem? hj,by rw[←e];simpa using hd⟩
   have hdf:a.defers=(putL (l.map (·.dst)) (fun d=>a.eval (.tmp d)) a0).defers:=by rw[putL_defers];exact inv.defers
   cases a with
   |mk t df=>
    generalize hp:putL (l.map (·.dst)) (fun d=>(Act.mk t df).eval (.tmp d)) a0=p at*
    cases p with
    |mk t2 df2=>simp only at ht hdf;rw[ht,hdf]
  have hw:=inv.world
  rw[if_pos (hup s hsl)]at hw
  rw[ha,hw]
  refine hend _ fun j d hd=>?_
  refine inv.told j d (hup j ?_) hd
  cases hj:l[j]? with
  |none=>rw[hj]at hd;cases hd
  |some _=>exact(List.getElem?_eq_some_iff.1 hj).1
 ·rw[List.filter_eq_self.2 (fun i _=>by rw[hl0];rfl)];simp
theorem tw_val{P:Program}{l:List Oper}{o:Oper}{a:Act}{w W1:World}{s k:Nat}{T:Value→Prop}{K:Act→World→Prop}{Q:Exit→Act→World→Prop}{E:Prop}(hks:k≠s)(hw:Region.wanted o (yielded l.toArray a.tmps)=true)(v:Value)
  (hr:(execOp a.eval o).run P w=.ok (.value v) w) (hK:∀v,T v→K (a.put o.dst v) (if k=s then W1 else w)) (hT:T v):if Region.wanted o (yielded l.toArray a.tmps)=true then Oper.wp P o a w K Q else E:=by
 rw[if_pos hw]
 unfold Oper.wp
 rw[hr]
 have:=hK v hT
 rw[if_neg hks]at this
 exact this
theorem tw_store{P:Program}{l:List Oper}{o:Oper}{a:Act}{w W1:World}{s:Nat}{T:Value→Prop}{K:Act→World→Prop}{Q:Exit→Act→World→Prop}{E:Prop}(hw:Region.wanted o (yielded l.toArray a.tmps)=true)(_hd:o.dst=none)
  (hr:(execOp a.eval o).run P w=.ok .skip W1) (hK:∀v,T v→K (a.put o.dst v) (if s=s then W1 else w)) (hT:T undef):if Region.wanted o (yielded l.toArray a.tmps)=true then Oper.wp P o a w K Q else E:=by
 rw[if_pos hw]
 unfold Oper.wp
 rw[hr]
 have:=hK undef hT
 rw[if_pos rfl]at this
 exact this
theorem TwAll.nil{P:Program}{l:List Oper}{T:Nat→Value→Prop}{a0:Act}{W0 W1:World}{s k:Nat}:TwAll P l T a0 W0 W1 s k []:=trivial
theorem TwAll.cons{P:Program}{l:List Oper}{T:Nat→Value→Prop}{a0:Act}{W0 W1:World}{s k:Nat}{o:Oper}{r:List Oper}(h:TwStep P l T a0 W0 W1 s k o)(hr:TwAll P l T a0 W0 W1 s (k+1) r):TwAll P l T a0 W0 W1 s k (o::r):=⟨h,hr⟩
def twT(L:List (Value→Prop))(k:Nat):Value→Prop:=(L[k]?).getD fun _=>True
end Go.Proofs.YtgokdgcmkcmjeaaGreat
namespace Go.Proofs.YtgokdgcmkcmjeaaGreat
open Go.RowKit
theorem pwithin_any(w:World)(A:Option Addr)(l c:Nat)(a:Int)(_ha1: -9223372036854775808≤a)(_ha2:a≤9223372036854775807)(hl:l≤1000000):
  Calls Tryz.prog 24 #[.slice A l c,.int .i64 a] w fun e w'=>e=.returned (.int .i64 (asked13 l a))∧w=w':=by
 obtain⟨q,hq⟩:∃q,q=asked13 l a:=⟨_,rfl⟩
 rw[←hq]
 unfold asked13 at hq
 by_cases y0:131072<l
 ·rw[if_pos y0]at hq
  subst hq
  have d1:decide ((131072:Int)<(l:Int))=true:=decY (by omega)
  have d2:decide (131072<l)=true:=decY0 y0
  clear y0
  go_enter Tryz.func24,Tryz.ntmps24
  go_wp2
  go_ret
  exact⟨rfl,rfl⟩
 rw[if_neg y0]at hq
 have d1:decide ((131072:Int)<(l:Int))=false:=decN (by omega)
 have d2:decide (131072<l)=false:=decN0 y0
 have hl2:l≤131072:=by omega
 clear y0
 by_cases y1:a<0
 ·rw[if_pos (.inl y1)]at hq
  subst hq
  have d3:decide (a<0)=true:=decY y1
  go_enter Tryz.func24,Tryz.ntmps24
  go_wp2
  go_ret
  exact⟨rfl,rfl⟩
 have d3:decide (a<0)=false:=decN y1
 by_cases y2:8*(l:Int)<a
 ·rw[if_pos (.inr y2)]at hq
  subst hq
  have d4:decide (8*(l:Int)<a)=true:=decY y2
  go_enter Tryz.func24,Tryz.ntmps24
  go_wp2
  go_ret
  exact⟨rfl,rfl⟩
 ·rw[if_neg (by rintro(h|h);exact y1 h;exact y2 h)]at hq
  subst hq
  have d4:decide (8*(l:Int)<a)=false:=decN y2
  go_enter Tryz.func24,Tryz.ntmps24
  go_wp2
  go_ret
  exact⟨rfl,rfl⟩
theorem built_rdr13(A:Option Addr)(l c:Nat)(a:Nat):Tryz.prog.built 69 [(0,.slice A l c),(1,.int .i64 (a:Int))]=some (rdrA A l c (a,0)):=by kernel_rfl
theorem szRdr13{Y:Array Value}(h:Y.size=3):(Tryz.prog.info? 69).map (·.size)=some Y.size:=by rw[h];exact szRdr
theorem ofD_head{g:Nat→Nat}{L n:Nat}{base:Nat}{w':World}{u1 u2:Value}(hn:n≤8*L)(h0:(begR g L n).2.2=0)(o1:OwnS w' base u1 (hdY1 g L (n,0)))(o2:OwnS w' base u2 (hdY2 g L (n,0))):
  OfD base (begR g L n).1 (.agg (blkT (hdK g L (n,0)) (hdB g L (n,0)) (hdL g L (n,0)) (hdC1 g L (n,0)) (hdC2 g L (n,0)) u1 u2)) w'∧BlkIn (begR g L n).1:=by
 obtain⟨e1,e2,e3,e4,e5,e6,e7,e8⟩:=(head_is (g:=g) (L:=L) hn).1 h0
 rw[e2,e3,e4]
 generalize (begR g L n).1=k at e5 e6 e7 e8⊢
 by_cases k0:k.kind=0
 ·obtain⟨c1,c2,c3,c4⟩:=e7 k0
  rw[c1,c2];rw[c3]at o1;rw[c4]at o2
  refine⟨⟨u1,u2,?_,?_,?_⟩,⟨e5,e6,fun h=>absurd k0 h,fun h=>absurd k0 h⟩⟩
  ·unfold tcO;rw[if_pos k0,if_pos k0]
  ·unfold syO;rw[if_pos k0];exact o1
  ·unfold syO;rw[if_pos k0];exact o2
 ·obtain⟨c0,c1,c2,c3,c4,c5,c6⟩:=e8 k0
  rw[c1,c2];rw[c3]at o1;rw[c4]at o2
  have q1:grC k.F k.n 15=fun m=>(tcN k.F m k.n:Int):=by funext m;unfold grC;rw[if_pos c5]
  have q2:grC k.G k.m 15=fun m=>(tcN k.G m k.m:Int):=by funext m;unfold grC;rw[if_pos c6]
  have q3:grS k.F k.n 15=natsI (symL k.F k.n 15):=by unfold grS;rw[if_pos c5]
  have q4:grS k.G k.m 15=natsI (symL k.G k.m 15):=by unfold grS;rw[if_pos c6]
  rw[q3]at o1;rw[q4]at o2
  refine⟨⟨u1,u2,?_,?_,?_⟩,⟨e5,e6,fun _=>CodeOk.of c5,fun _=>CodeOk.of c6⟩⟩
  ·unfold tcO;rw[if_neg k0,if_neg k0,q1,q2]
  ·unfold syO;rw[if_neg k0];exact o1
  ·unfold syO;rw[if_neg k0];exact o2
theorem phead13_any(w:World)(A:Option Addr)(l c:Nat)(g:Nat→Nat)(hg:RdB w w.heap.size A l g)(a:Int)(ha1: -9223372036854775808≤a)(ha2:a≤9223372036854775807)(hl:l≤1000000):
  Calls Tryz.prog 8 #[.slice A l c,.int .i64 a] w fun e w'=>HeadD w.heap.size (headR g l a) e w'∧Below w.heap.size w w':=by
 obtain⟨h,hh⟩:∃h,h=w.heap.size:=⟨_,rfl⟩
 obtain⟨Z,hZ⟩:∃Z,Z=blkT 0 false 0 (fun _=>0) (fun _=>0) (.slice none 0 0) (.slice none 0 0):=⟨_,rfl⟩
 obtain⟨ZR,hZR⟩:∃Z,Z=rdrA none 0 0 (0,0):=⟨_,rfl⟩
 obtain⟨W1,hW1⟩:∃W1,W1=w.alloc (.cells Z 28):=⟨_,rfl⟩
 have hb1:Below h w W1:=by rw[hW1,hh];exact(Below.refl _ _).alloc (Nat.le_refl _) _
 have t1:BoxC W1 h Z 28:=by rw[hW1,hh];exact BoxC.new w _ _
 have s1:W1.heap.size=h+1:=by rw[hW1,hh];simp
 obtain⟨R,hR⟩:∃R,R=headR g l a:=⟨_,rfl⟩
 rw[←hR]
 obtain⟨q,hq⟩:∃q,q=asked13 l a:=⟨_,rfl⟩
 have hrr:=hR
 unfold headR at hrr
 rw[←hq]at hrr
 have hask:=pwithin_any W1 A l c a ha1 ha2 hl
 rw[←hq]at hask
 have HAS:=Lib.hid hask;have HG:=Lib.hid hg;have HT1:=Lib.hid t1;have HB1:=Lib.hid hb1;have HH:=Lib.hid hh;have HW1:=Lib.hid hW1;have HS1:=Lib.hid s1;have HRR:=Lib.hid hrr;have HQ:=Lib.hid hq;have HZE:=Lib.hid hZ
 have HZS:Hid (Z.size=37):=Lib.hid (by rw[hZ];exact blkT_size ..)
 have HZO:Hid (Z.all (·.oneCell')=true):=Lib.hid (by rw[hZ];exact blkT_one _ _ _ _ _ _ _ rfl rfl)
 have HZB:Hid (Tryz.prog.built 28 []=some Z):=Lib.hid (by rw[hZ];exact built_blkT0)
 have hzb:∀u:World,(zeroValue 28).run Tryz.prog u=.ok (.agg Z) u:=by rw[hZ];exact(zero_of_info infoBlkT).1
 have hzr:∀u:World,(zeroValue 69).run Tryz.prog u=.ok (.agg ZR) u:=by rw[hZR];exact(zero_of_info infoRdr).1
 have HZRS:Hid (ZR.size=3):=Lib.hid (by rw[hZR];rfl)
 clear hask hg t1 hb1 hh hW1 s1 hrr hq hR hZ hZR
 by_cases q0:q=0
 ·have hl3:l≤131072:=by
   have:=HQ.out;rw[q0]at this;unfold asked13 at this
   split at this
   ·omega
   ·omega
  have ha:0≤a∧a≤8*(l:Int):=by
   have:=HQ.out;rw[q0]at this;unfold asked13 at this
   rw[if_neg (by omega)]at this
   split at this
   ·omega
   ·omega
  obtain⟨n,rfl⟩:=Int.eq_ofNat_of_zero_le ha.1
  have hn8:n≤8*l:=by omega
  have HRR2:Hid (R=if(begR g l n).2.2≠0 then(blk0,0,(begR g l n).2.2)else begR g l n):=Lib.hid (by rw[HRR.out,if_neg (fun h=>h q0),Int.toNat_natCast])
  obtain⟨Y,hY⟩:∃Y,Y=rdrA A l c (n,0):=⟨_,rfl⟩
  have HYS:Hid (Y.size=3):=Lib.hid (by rw[hY];rfl)
  have HYO:Hid (Y.all (·.oneCell')=true):=Lib.hid (by rw[hY];simp[rdrA,Value.oneCell'])
  have HYB:Hid (Tryz.prog.built 69 [(0,.slice A l c),(1,.int .i64 (n:Int))]=some Y):=Lib.hid (by rw[hY];exact built_rdr13 A l c n)
  obtain⟨W2,hW2⟩:∃W,W=mkV W1 ZR Y 69:=⟨_,rfl⟩
  have hb2:Below W1.heap.size W1 W2:=by rw[hW2];exact mkV_below _ _ _ _
  have y2:Rdr W2 (h+1) A l c (n,0):=by have:=mkV_row W1 ZR Y 69;rw[HS1.out,hY]at this;rw[hW2,hY];exact this
  have HB2:=Lib.hid (HB1.out.trans (hb2.mono (by rw[HS1.out];omega)))
  have HT2:=Lib.hid (HT1.out.below hb2 HT1.out.lt)
  have hsz2:W2.heap.size=h+2:=by rw[hW2,mkV_size,HS1.out]
  have hg2:RdF (At (h+1)) W2 A l g:=by
   refine⟨(HG.out.below (HH.out▸HB2.out) (Nat.le_refl _)).more (by have:=HB2.out.size;omega),fun b o h0 e hb=>?_⟩
   obtain⟨b',o',e',hbb,_⟩:=HG.out.2 h0
   rw[e]at e';cases e'
   have:b=h+1:=hb
   have:=HH.out;omega
  have hin2:(hdQ l (n,0)).1≤8*l:=tkS_in (tkS_in hn8)
  have HHD:=Lib.hid (phead_any W2 (h+1) A l c g (n,0) y2 (At (h+1)) rfl (fun j (e:j=h+1)=>by omega) hg2 (by omega) hn8 (fun he=>(dy_len g l (hdQ l (n,0)) hin2 he).1))
  have HIS:=Lib.hid (head_is (g:=g) (L:=l) hn8)
  have HOF:=Lib.hid fun(base:Nat) (w':World) (u1 u2:Value) (h0:(begR g l n).2.2=0)=>ofD_head (base:=base) (w':=w') (u1:=u1) (u2:=u2) hn8 h0
  have HW2:=Lib.hid hW2;have HSZ2:=Lib.hid hsz2
  subst q0
  clear ha hW2 hb2 y2 hsz2 hg2 hin2 hY
  go_enter Tryz.func8,Tryz.ntmps8
  go_wp2_with (first|(rw[←HW1.out,←HH.out])|fail)
  refine HAS.out.mono ?_
  rintro e w9 ⟨rfl,rfl⟩
  go_wp2_with (first
   |(refine wpList_buildTo rfl 69 #[(0,.tmp 16),(1,.tmp 17)] rfl (some 18) rfl Y ?_ ?_;focus(simpa[Act.eval]using HYB.out))
   |(refine wpList_store_rowTo rfl _ _ _ rfl rfl W1.heap.size Y rfl rfl 69 ZR (heap_alloc_new W1 _) (szRdr13 HYS.out) (by rw[HZRS.out,HYS.out]) HYO.out ?_;change wpList _ _ _ _ _ (mkV W1 ZR Y 69);rw[←HW2.out,HS1.out])
   |fail)
  refine HHD.out.mono ?_
  rintro e w3 ⟨u1,u2,rfl,r3,o1,o2,f3⟩
  obtain⟨ss,hss⟩:∃s,s=hdS g l (n,0):=⟨_,rfl⟩
  obtain⟨sa,se⟩:=ss
  rw[←hss]at r3
  obtain⟨X,hX⟩:∃X,X=blkT (hdK g l (n,0)) (hdB g l (n,0)) (hdL g l (n,0)) (hdC1 g l (n,0)) (hdC2 g l (n,0)) u1 u2:=⟨_,rfl⟩
  rw[←hX]
  have HXS:Hid (X.size=37):=Lib.hid (by rw[hX];exact blkT_size ..)
  have HXO:Hid (X.all (·.oneCell')=true):=Lib.hid (by rw[hX];exact blkT_one _ _ _ _ _ _ _ o1.one o2.one)
  have ht3:=HT2.out.fr f3 (by show¬h=h+1;omega)
  obtain⟨W4,hW4⟩:∃W,W=w3.setRow h X:=⟨_,rfl⟩
  have x4:BoxC W4 h X 28:=by rw[hW4];exact ht3.row X
  have r4:Rdr W4 (h+1) A l c (sa,se):=by rw[hW4];exact BoxC.rowO r3 (by omega) X
  have f4:Fr (At h) w3 W4:=by rw[hW4];exact Fr.row w3 h X
  have hb4:Below h w W4:=HB2.out.trans ((f3.below (B:=h) (fun j (e:j=h+1)=>by omega) (by have:=HSZ2.out;omega)).trans (f4.below (B:=h) (fun j (e:j=h)=>by omega) (by have:=f3.size;have:=HSZ2.out;omega)))
  have p1:OwnS W4 (h+2) u1 (hdY1 g l (n,0)):=by rw[HSZ2.out]at o1;exact o1.fr f4 (fun j (e:j=h)=>by omega)
  have p2:OwnS W4 (h+2) u2 (hdY2 g l (n,0)):=by rw[HSZ2.out]at o2;exact o2.fr f4 (fun j (e:j=h)=>by omega)
  have k2:W4.cell? ⟨h+1,2,none⟩=some (.int .i64 se):=r4.e
  have HT3:=Lib.hid ht3;have HW4:=Lib.hid hW4;have HX4:=Lib.hid x4;have HR4:=Lib.hid r4;have HB4:=Lib.hid hb4;have HP1:=Lib.hid p1;have HP2:=Lib.hid p2;have HSS:=Lib.hid hss;have HXE:=Lib.hid hX
  clear r3 o1 o2 f3 hss hX ht3 hW4 x4 r4 f4 hb4 p1 p2
  by_cases he:se=0
  ·have hb0:(begR g l n).2.2=0:=by
    rcases Int.decEq (begR g l n).2.2 0 with h1|h1
    ·exfalso
     have:=HIS.out.2 h1
     rw[←HSS.out]at this
     exact h1 (this.symm.trans he)
    ·exact h1
   have hst:=(HIS.out.1 hb0).1
   rw[←HSS.out]at hst
   injection hst with hsa hse
   obtain⟨of1,of2⟩:=HOF.out (h+2) W4 u1 u2 hb0 HP1.out HP2.out
   have hRb:R=begR g l n:=by rw[HRR2.out,if_neg (fun h=>h hb0)]
   rw[←hRb]at of1 of2 hsa hb0
   rw[←HXE.out]at of1
   have d0:(se==0)=true:=by rw[he];rfl
   have d1:(se !=0)=false:=by simp[bne,d0]
   have HF:=Lib.hid of1;have HI:=Lib.hid of2;have HSA:=Lib.hid hsa;have HE0:=Lib.hid hb0
   subst he
   clear hb0 hse of1 of2 hRb hsa
   go_wp2_with (first
    |(refine wpList_store_rowTo rfl _ _ _ rfl rfl h X rfl rfl 28 Z HT3.out (szBlkT _ HXS.out) (by rw[HZS.out,HXS.out]) HXO.out ?_;rw[←HW4.out])
    |fail)
   have HX5:Hid (BoxC (W4.drew) h X 28):=Lib.hid HX4.out
   have HR5:Hid (Rdr (W4.drew) (h+1) A l c (sa,0)):=Lib.hid HR4.out
   have HR6:Hid (Rdr ((W4.drew).setRow h X) (h+1) A l c (sa,0)):=Lib.hid (BoxC.rowO HR5.out (by omega) X)
   have HX6:Hid (BoxC ((W4.drew).setRow h X) h X 28):=Lib.hid (HX5.out.row X)
   refine wp_region_two 3 (twT [fun v=>v=.agg X,fun v=>v=.pointer (some ⟨h+1,1,none⟩),fun v=>v=.int .i64 (sa:Int),fun v=>v=undef,fun v=>v=.int .i64 (sa:Int),fun v=>v=.int .i64 0]) ((W4.drew).setRow h X) (by kernel_rfl) (by kernel_rfl) ?_ ?_
   case refine_1=>
    refine TwAll.cons (fun aa wv hw ha hS Kk Qq hK=>tw_val (k:=0) (s:=3) (by decide) (tab_free rfl) (.agg X) (by have e:=(show aa.eval (.tmp 4)=.pointer (some ⟨h,0,none⟩)from((ha 4 (by kernel_rfl)).trans rfl));have hx:BoxC wv h X 28:=by {rcases hw with hw|⟨hw,_,_⟩<;>first|(rw[hw];exact HX5.out)|(rw[hw];exact HX6.out)};have hl:=run_loadVar_row (P:=Tryz.prog) wv h 28 28 X (0,0) _ hx Tryz.underlying28 rfl (szBlkT _ HXS.out);unfold execOp;simp only[e,Instr.loadAt,Instr.sureAddr,Sem.run_bind,Sem.run_pure,Result.andThen_ok,hl]) hK rfl) ?_
    refine TwAll.cons (fun aa wv hw ha hS Kk Qq hK=>tw_val (k:=1) (s:=3) (by decide) (tab_free rfl) (.pointer (some ⟨h+1,1,none⟩)) (by have e:=(show aa.eval (.tmp 8)=.pointer (some ⟨h+1,0,none⟩)from((ha 8 (by kernel_rfl)).trans rfl));unfold execOp;simp only[e];go_simp) hK rfl) ?_
    refine TwAll.cons (fun aa wv hw ha hS Kk Qq hK=>tw_val (k:=2) (s:=3) (by decide) (tab_free rfl) (.int .i64 (sa:Int)) (by have e:=(show aa.eval (.tmp 27)=.pointer (some ⟨h+1,1,none⟩)from hS 1 27 (by kernel_rfl) rfl);have hc:wv.cell? ⟨h+1,1,none⟩=some (.int .i64 (sa:Int)):=by {rcases hw with hw|⟨hw,_,_⟩<;>first|(rw[hw];exact HR5.out.a)|(rw[hw];exact HR6.out.a)};unfold execOp;simp only[e];go_simp) hK rfl) ?_
    refine TwAll.cons (fun aa wv hw ha hS Kk Qq hK=>tw_store (s:=3) (tab_free rfl) rfl (by have e1:=(show aa.eval (.tmp 4)=.pointer (some ⟨h,0,none⟩)from((ha 4 (by kernel_rfl)).trans rfl));have e2:=(show aa.eval (.tmp 26)=.agg X from hS 0 26 (by kernel_rfl) rfl);have hww:wv=W4.drew:=by {rcases hw with hw|⟨_,hw,_⟩<;>first|exact hw|exact absurd rfl hw};subst hww;have hst:=run_storeVar_row (P:=Tryz.prog) (W4.drew) h 28 28 X X HX5.out (szBlkT _ HXS.out) rfl HXO.out;unfold execOp;simp only[e1,e2,Instr.storeAt,Instr.sureAddr,Sem.run_bind,Sem.run_pure,Result.andThen_ok,hst]) hK rfl) ?_
    refine TwAll.cons (fun aa wv hw ha hS Kk Qq hK=>tw_val (k:=4) (s:=3) (by decide) (tab_free rfl) (.int .i64 (sa:Int)) (by have e:=(show aa.eval (.tmp 28)=.int .i64 (sa:Int)from hS 2 28 (by kernel_rfl) rfl);unfold execOp;simp only[e];rfl) hK rfl) ?_
    refine TwAll.cons (fun aa wv hw ha hS Kk Qq hK=>tw_val (k:=5) (s:=3) (by decide) (tab_free rfl) (.int .i64 0) (by unfold execOp;rfl) hK rfl) ?_
    exact TwAll.nil
   intro vals hv
   have e3:vals 5=.int .i64 (sa:Int):=hv 4 5 rfl
   have e4:vals 6=.int .i64 0:=hv 5 6 rfl
   clear hv
   simp only[List.map_cons,List.map_nil,putL,Act.put,List.setIfInBounds_toArray,List.set_cons_zero,List.set_cons_succ,e3,e4]
   clear e3 e4
   go_wp2
   refine bodyPost_ret (v:=.tuple #[.agg X,.int .i64 (sa:Int),.int .i64 0]) ((cell_blkT2 rfl _ _ h X HXS.out rfl HX6.out).trans rfl) rfl ⟨⟨.agg X,by rw[←HSA.out,HE0.out],?_,fun _=>HI.out⟩,?_⟩
   ·obtain⟨v1,v2,e1,q1,q2⟩:=HF.out
    refine⟨v1,v2,e1,?_,?_⟩
    ·rw[←HH.out];exact ownsRow_lower (own_blk q1 fun j hj=>(setRow_other _ _ _ _ (by have:=(own_blk_lt q1 j hj).1;omega)).trans rfl) (by omega)
    ·rw[←HH.out];exact ownsRow_lower (own_blk q2 fun j hj=>(setRow_other _ _ _ _ (by have:=(own_blk_lt q2 j hj).1;omega)).trans rfl) (by omega)
   ·rw[←HH.out];exact below_rowC (Below.drew HB4.out) (Nat.le_refl _) _
  ·have hb0:(begR g l n).2.2=se:=by
    rcases Int.decEq (begR g l n).2.2 0 with h1|h1
    ·have:=HIS.out.2 h1
     rw[←HSS.out]at this
     exact this.symm
    ·exfalso
     have:=(HIS.out.1 h1).1
     rw[←HSS.out]at this
     injection this with _ h2
     exact he h2
   have hRb:R=(blk0,0,se):=by rw[HRR2.out,hb0,if_pos he]
   have d0:(se==0)=false:=beq_eq_false_iff_ne.2 he
   have d1:(se !=0)=true:=by simp[bne,d0]
   have HRB:=Lib.hid hRb;have HE:=Lib.hid he
   clear hb0 hRb he
   go_wp2_with (first
    |(refine wpList_store_rowTo rfl _ _ _ rfl rfl h X rfl rfl 28 Z HT3.out (szBlkT _ HXS.out) (by rw[HZS.out,HXS.out]) HXO.out ?_;rw[←HW4.out])
    |fail)
   have HX5:Hid (BoxC (W4.drew) h X 28):=Lib.hid HX4.out
   have HR5:Hid (Rdr (W4.drew) (h+1) A l c (sa,se)):=Lib.hid HR4.out
   have HR6:Hid (Rdr ((W4.drew).setRow h Z) (h+1) A l c (sa,se)):=Lib.hid (BoxC.rowO HR5.out (by omega) Z)
   have HX6:Hid (BoxC ((W4.drew).setRow h Z) h Z 28):=Lib.hid (HX5.out.row Z)
   refine wp_region_two 3 (twT [fun v=>v=.agg Z,fun v=>v=.pointer (some ⟨h+1,2,none⟩),fun v=>v=.int .i64 se,fun v=>v=undef,fun v=>v=.int .i64 0,fun v=>v=.int .i64 se]) ((W4.drew).setRow h Z) (by kernel_rfl) (by kernel_rfl) ?_ ?_
   case refine_1=>
    refine TwAll.cons (fun aa wv hw ha hS Kk Qq hK=>tw_val (k:=0) (s:=3) (by decide) (tab_free rfl) (.agg Z) (by have hbz:=run_build (P:=Tryz.prog) wv 28 (#[]:Array (Nat×Value)) Z HZB.out;unfold execOp;simp only[List.map_toArray,List.map_nil,Sem.run_bind,hbz,Result.andThen_ok];rfl) hK rfl) ?_
    refine TwAll.cons (fun aa wv hw ha hS Kk Qq hK=>tw_val (k:=1) (s:=3) (by decide) (tab_free rfl) (.pointer (some ⟨h+1,2,none⟩)) (by have e:=(show aa.eval (.tmp 8)=.pointer (some ⟨h+1,0,none⟩)from((ha 8 (by kernel_rfl)).trans rfl));unfold execOp;simp only[e];go_simp) hK rfl) ?_
    refine TwAll.cons (fun aa wv hw ha hS Kk Qq hK=>tw_val (k:=2) (s:=3) (by decide) (tab_free rfl) (.int .i64 se) (by have e:=(show aa.eval (.tmp 24)=.pointer (some ⟨h+1,2,none⟩)from hS 1 24 (by kernel_rfl) rfl);have hc:wv.cell? ⟨h+1,2,none⟩=some (.int .i64 se):=by {rcases hw with hw|⟨hw,_,_⟩<;>first|(rw[hw];exact HR5.out.e)|(rw[hw];exact HR6.out.e)};unfold execOp;simp only[e];go_simp) hK rfl) ?_
    refine TwAll.cons (fun aa wv hw ha hS Kk Qq hK=>tw_store (s:=3) (tab_free rfl) rfl (by have e1:=(show aa.eval (.tmp 4)=.pointer (some ⟨h,0,none⟩)from((ha 4 (by kernel_rfl)).trans rfl));have e2:=(show aa.eval (.tmp 23)=.agg Z from hS 0 23 (by kernel_rfl) rfl);have hww:wv=W4.drew:=by {rcases hw with hw|⟨_,hw,_⟩<;>first|exact hw|exact absurd rfl hw};subst hww;have hst:=run_storeVar_row (P:=Tryz.prog) (W4.drew) h 28 28 X Z HX5.out (szBlkT _ HZS.out) (by rw[HXS.out,HZS.out]) HZO.out;unfold execOp;simp only[e1,e2,Instr.storeAt,Instr.sureAddr,Sem.run_bind,Sem.run_pure,Result.andThen_ok,hst]) hK rfl) ?_
    refine TwAll.cons (fun aa wv hw ha hS Kk Qq hK=>tw_val (k:=4) (s:=3) (by decide) (tab_free rfl) (.int .i64 0) (by unfold execOp;rfl) hK rfl) ?_
    refine TwAll.cons (fun aa wv hw ha hS Kk Qq hK=>tw_val (k:=5) (s:=3) (by decide) (tab_free rfl) (.int .i64 se) (by have e:=(show aa.eval (.tmp 25)=.int .i64 se from hS 2 25 (by kernel_rfl) rfl);unfold execOp;simp only[e];rfl) hK rfl) ?_
    exact TwAll.nil
   intro vals hv
   have e3:vals 5=.int .i64 0:=hv 4 5 rfl
   have e4:vals 6=.int .i64 se:=hv 5 6 rfl
   clear hv
   simp only[List.map_cons,List.map_nil,putL,Act.put,List.setIfInBounds_toArray,List.set_cons_zero,List.set_cons_succ,e3,e4]
   clear e3 e4
   go_wp2
   refine bodyPost_ret (v:=.tuple #[.agg Z,.int .i64 0,.int .i64 se]) ((cell_blkT2 rfl _ _ h Z HZS.out rfl HX6.out).trans rfl) rfl ⟨by rw[HZE.out];exact headD_none HRB.out HE.out,by rw[←HH.out];exact below_rowC (Below.drew HB4.out) (Nat.le_refl _) _⟩
 have d0:(q==0)=false:=beq_eq_false_iff_ne.2 q0
 have d1:(q !=0)=true:=by simp[bne,d0]
 have HR2:Hid (R=(blk0,0,q)):=Lib.hid (by rw[HRR.out,if_pos q0])
 go_enter Tryz.func8,Tryz.ntmps8
 go_wp2_with (first|(rw[←HW1.out,←HH.out])|fail)
 refine HAS.out.mono ?_
 rintro e w9 ⟨rfl,rfl⟩
 go_wp2_with (first
  |(refine wpList_buildTo rfl 28 #[] rfl (some 14) rfl Z ?_ ?_;focus(simpa[Act.eval]using HZB.out))
  |(refine wpList_store_rowTo rfl _ _ _ rfl rfl h Z rfl rfl 28 Z HT1.out (szBlkT _ HZS.out) rfl HZO.out ?_)
  |fail)
 refine bodyPost_ret ((cell_blkT2 rfl _ _ h _ HZS.out rfl (setRow_heap _ _ _ _ _ _ HT1.out)).trans rfl) rfl ⟨by rw[HZE.out];exact headD_none HR2.out q0,by rw[←HH.out];exact below_rowU13 HB1.out (Nat.le_refl _) _⟩
end Go.Proofs.YtgokdgcmkcmjeaaGreat
namespace Go.Proofs.YtgokdgcmkcmjeaaGreat
open Go.RowKit
theorem seq_any(w:World)(u v:Value)(s t:List Int)(hu:RdS w w.heap.size u s)(hv:RdS w w.heap.size v t)(hs:s.length≤1000000000)(ht:t.length≤1000000000):
  Calls Tryz.prog 156 #[u,v] w fun e w'=>e=.returned (.bool (decide (s=t)))∧Below w.heap.size w w':=by
 obtain⟨A,ca,rfl,hra,_⟩:=hu
 obtain⟨B,cb,rfl,hrb,_⟩:=hv
 have HRA:=Lib.hid hra;have HRB:=Lib.hid hrb
 clear hra hrb
 obtain⟨n1,hn1⟩:∃n,n=s.length:=⟨_,rfl⟩
 obtain⟨n2,hn2⟩:∃n,n=t.length:=⟨_,rfl⟩
 rw[←hn1]at hs⊢
 rw[←hn2]at ht⊢
 obtain⟨R,hR⟩:∃R,R=decide (s=t):=⟨_,rfl⟩
 rw[←hR]
 have HN1:=Lib.hid hn1;have HN2:=Lib.hid hn2;have HR:=Lib.hid hR
 clear hn1 hn2 hR
 by_cases hl:n1=n2
 ·subst hl
  have hnn:((n1:Int) !=(n1:Int))=false:=by simp
  have hnn2:(n1 !=n1)=false:=by simp
  go_enter Tryz.func156,Tryz.ntmps156
  go_wp2
  go_loopw [13] (fun i wr=>∃k:Nat,k≤n1∧i=.int .i64 k∧Below w.heap.size w wr∧∀j,j<k→s.getD j 0=t.getD j 0) (fun i _=>n1-(intOf i).toNat)
  case atStart=>exact⟨0,Nat.zero_le _,rfl,Below.refl _ _,fun j hj=>absurd hj (by omega)⟩
  case round=>
   obtain⟨k,hk,rfl,hb,hall⟩:=hrel
   by_cases hlt:k<n1
   ·obtain⟨b1,o1,rfl,_,hc1⟩:=(HRA.out.below hb (Nat.le_refl _)).at (k:=k) (by rw[←HN1.out];exact hlt)
    obtain⟨b2,o2,rfl,_,hc2⟩:=(HRB.out.below hb (Nat.le_refl _)).at (k:=k) (by rw[←HN2.out];exact hlt)
    have e1:=hc1 k (by rw[←HN1.out];exact hlt)
    have e2:=hc2 k (by rw[←HN2.out];exact hlt)
    obtain⟨x,hx⟩:∃x,x=s.getD k 0:=⟨_,rfl⟩
    obtain⟨y,hy⟩:∃y,y=t.getD k 0:=⟨_,rfl⟩
    rw[←hx]at e1
    rw[←hy]at e2
    have HX:=Lib.hid hx;have HY:=Lib.hid hy;have HBW:=Lib.hid hb;have HALL:=Lib.hid hall
    clear hx hy hb hall hc1 hc2
    by_cases hxy:x=y
    ·subst hxy
     have hxx:(x !=x)=false:=by simp
     go_wp2
     go_quiet (fail)
     go_wp2
     go_roundw
     case rel=>
      refine⟨k+1,by omega,by go_num,below_drawN HBW.out _,fun j hj=>?_⟩
      rcases Nat.eq_or_lt_of_le (Nat.le_of_lt_succ hj)with e|e
      ·subst e;rw[←HX.out,←HY.out]
      ·exact HALL.out j e
     case measure=>simp[intOf];omega
    ·have hxx:(x !=y)=true:=by simpa using hxy
     obtain rfl:R=false:=HR.out.trans (decide_eq_false fun h=>hxy (by rw[HX.out,HY.out,h]))
     clear HR hxy
     go_wp2
     go_quiet (fail)
     go_wp2
     go_ret
     exact⟨rfl,below_drawN HBW.out _⟩
   ·obtain rfl:k=n1:=by omega
    obtain rfl:R=true:=HR.out.trans (decide_eq_true (by
     apply List.ext_getElem (by rw[←HN1.out,←HN2.out])
     intro j h1 h2
     have:=hall j (by rw[HN1.out];exact h1)
     rw[List.getD_eq_getElem?_getD,List.getD_eq_getElem?_getD,List.getElem?_eq_getElem h1,List.getElem?_eq_getElem h2]at this
     exact this))
    have HBW:=Lib.hid hb
    clear HR hb hall hlt hk
    go_wp2
    go_ret
    exact⟨rfl,HBW.out⟩
 ·have hnn:((n1:Int) !=(n2:Int))=true:=by simp;omega
  have hnn2:(n1 !=n2)=true:=by simpa using hl
  obtain rfl:R=false:=HR.out.trans (decide_eq_false fun h=>hl (by rw[HN1.out,HN2.out,h]))
  clear HR hl
  go_enter Tryz.func156,Tryz.ntmps156
  go_wp2
  go_ret
  exact⟨rfl,Below.refl _ _⟩
theorem run_eql_cnt(w:World)(c d:Nat→Int):(binOp .eql 23 (.agg (cntV c).toArray) (.agg (cntV d).toArray)).run Tryz.prog w=.ok (.bool (sameC c d)) w:=by
 obtain⟨i,hi⟩:=Option.isSome_iff_exists.1 (show(Tryz.prog.info? 3).isSome=true by kernel_rfl)
 have hce:Tryz.prog.cellsOf 3=1:=by kernel_rfl
 have h:=run_equalIn_array (P:=Tryz.prog) w 9999 (cntV c).toArray (cntV d).toArray Tryz.underlying23 hi
 rw[hce,run_eqItems_nums w 9998 Tryz.underlying3 (cntV c).toArray (cntV d).toArray c d (List.range 16) (fun i hi=>by
  have:=List.mem_range.1 hi
  simp[cntV_get,this])]at h
 have e:(binOp .eql 23 (.agg (cntV c).toArray) (.agg (cntV d).toArray)).run Tryz.prog w=((Op.equal 23 (.agg (cntV c).toArray) (.agg (cntV d).toArray)).run Tryz.prog w).andThen fun b w'=>.ok (.bool b) w':=by
  unfold binOp
  simp
 rw[e]
 unfold Op.equal Op.maxDepth
 rw[h]
 have:(∀i∈List.range 16,c i=d i)↔sameC c d=true:=by
  rw[sameC_iff];exact⟨fun h m hm=>h m (List.mem_range.2 hm),fun h m hm=>h m (List.mem_range.1 hm)⟩
 simp only[Result.andThen_ok,this]
 cases sameC c d<;>rfl
theorem wpList_eql_at{P:Program}{ops:Array Oper}{rest:List Oper}{o:Oper}{a:Act}{w:World}{Q:Exit→Act→World→Prop}(hw:Region.wanted o (yielded ops a.tmps)=true)(ty:TypeId)(x y:Operand)(ho:o.op=.binOp .eql ty x y ty)
  (u v:Value) (b:Bool) (hx:a.eval x=u) (hy:a.eval y=v) (hg:(eqGuard .eql ty x y u v).run P w=.ok () w) (hrun:(binOp .eql ty u v).run P w=.ok (.bool b) w)
  (h:wpList P ops Q rest (a.put o.dst (.bool b)) w):wpList P ops Q (o::rest) a w:=
 wpList_on hw fun K hK=>by
  unfold Oper.wp execOp
  simp only[ho,hx,hy]
  simp[hrun,hg,Sem.run_bind]
  exact hK _ _ h
theorem tsame_any(w:World)(c d:Nat→Int)(u v:Value)(s t:List Int)(hu:RdS w w.heap.size u s)(hv:RdS w w.heap.size v t)(hs:s.length≤1000000)(ht:t.length≤1000000):
  Calls Tryz.prog 112 #[.agg (trA c u),.agg (trA d v)] w fun e w'=>e=.returned (.bool (sameT c d s t))∧Below w.heap.size w w':=by
 have hg:∀(W:World) (x y:Operand) (u v:Array Value),(eqGuard .eql 23 x y (.agg u) (.agg v)).run Tryz.prog W=.ok () W:=fun W x y u v=>by
  have h:Tryz.prog.eqGuardType Tryz.prog.depth 23=false:=by kernel_rfl
  unfold eqGuard
  simp[Sem.run_bind,h]
 have HG:=Lib.hid hg
 have hb:=((Below.refl w.heap.size w).alloc (Nat.le_refl _) (.cells (trA c u) 26)).alloc (by simp) (.cells (trA d v) 26)
 have ht1:TreA ((w.alloc (.cells (trA c u) 26)).alloc (.cells (trA d v) 26)) w.heap.size c u:=heap_alloc2_old w _ _
 have ht2:TreA ((w.alloc (.cells (trA c u) 26)).alloc (.cells (trA d v) 26)) (w.heap.size+1) d v:=heap_alloc2_new w _ _
 have hq:=seq_any _ u v s t ((hu.below hb (Nat.le_refl _)).more hb.size) ((hv.below hb (Nat.le_refl _)).more hb.size) (by omega) (by omega)
 have k1:=ht1.syms
 have k2:=ht2.syms
 have HT1:=Lib.hid ht1;have HT2:=Lib.hid ht2;have HB:=Lib.hid hb;have HQ:=Lib.hid hq
 clear hg hb ht1 ht2 hq
 cases hc:sameC c d
 ·have hr:sameT c d s t=false:=by unfold sameT;rw[hc];rfl
  rw[hr]
  have hne:=Lib.hid (show∀W:World,(binOp .eql 23 (.agg (cntV c).toArray) (.agg (cntV d).toArray)).run Tryz.prog W=.ok (.bool false) W from fun W=>by rw[run_eql_cnt,hc])
  clear hc hr
  go_enter Tryz.func112,Tryz.ntmps112
  go_wp2_with (first
   |(refine wpList_load_mid rfl _ _ rfl w.heap.size 0 rfl (cntV c) _ HT1.out.range Tryz.underlying23 rfl (by rw[cntV_length];exact szCnt) ?_)
   |(refine wpList_load_mid rfl _ _ rfl (w.heap.size+1) 0 rfl (cntV d) _ HT2.out.range Tryz.underlying23 rfl (by rw[cntV_length];exact szCnt) ?_)
   |(refine wpList_eql_at (by rfl) _ _ _ rfl _ _ _ rfl rfl (HG.out _ _ _ _ _) (hne.out _) ?_))
  go_ret
  exact⟨rfl,HB.out⟩
 ·have hr:sameT c d s t=decide (s=t):=by unfold sameT;rw[hc];rfl
  rw[hr]
  have hne:=Lib.hid (show∀W:World,(binOp .eql 23 (.agg (cntV c).toArray) (.agg (cntV d).toArray)).run Tryz.prog W=.ok (.bool true) W from fun W=>by rw[run_eql_cnt,hc])
  clear hc hr
  go_enter Tryz.func112,Tryz.ntmps112
  go_wp2_with (first
   |(refine wpList_load_mid rfl _ _ rfl w.heap.size 0 rfl (cntV c) _ HT1.out.range Tryz.underlying23 rfl (by rw[cntV_length];exact szCnt) ?_)
   |(refine wpList_load_mid rfl _ _ rfl (w.heap.size+1) 0 rfl (cntV d) _ HT2.out.range Tryz.underlying23 rfl (by rw[cntV_length];exact szCnt) ?_)
   |(refine wpList_eql_at (by rfl) _ _ _ rfl _ _ _ rfl rfl (HG.out _ _ _ _ _) (hne.out _) ?_)
   |(go_at_call 156;refine HQ.out.mono ?_;rintro e w' ⟨rfl,hb'⟩))
  go_ret
  exact⟨rfl,HB.out.trans (hb'.mono HB.out.size)⟩
end Go.Proofs.YtgokdgcmkcmjeaaGreat
