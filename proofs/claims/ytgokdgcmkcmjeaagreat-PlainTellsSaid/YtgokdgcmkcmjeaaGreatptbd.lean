/-
  Words and walks.
-/
import Derived.Test.YtgokdgcmkcmjeaaGreatptab
import Derived.Test.YtgokdgcmkcmjeaaGreatptai
import Derived.Test.YtgokdgcmkcmjeaaGreatptas
import Derived.Test.YtgokdgcmkcmjeaaGreatptau
import Derived.Test.YtgokdgcmkcmjeaaGreatptbc
set_option maxRecDepth 100000
set_option maxHeartbeats 16000000
namespace Go.Proofs.YtgokdgcmkcmjeaaGreat
open Go.RowKit Go.Shelf Go.ChangeShapes Go.WideShapes Go.ChangeAt Go.Joins
attribute [local go_sem] Oper.semAt_some
attribute [local simp] wide_fn
theorem I1y.own(x:Lie)(k:Blk13)(c1 c2:Nat→Int)(v1 v2:Value)(y1 y2:List Int)(b B:Nat)(hB:x.top≤B):OwnFrom B (I1y x k c1 c2 v1 v2 y1 y2 b):=fun _ _ _ _ ⟨h1,h2,h3⟩ hg hr=>⟨h1.grown hg fun r e=>⟨Nat.le_trans hB (hr r e).1,(hr r e).2⟩,h2.grown hg fun r e=>(hr r e).2,h3⟩
theorem IeY.own(g:Nat→Nat)(x:Lie)(k:Blk13)(R:List Nat×Nat×Int)(lo B:Nat)(hB:x.top≤B):OwnFrom B (fun _:Unit=>IeY g x k R lo):=fun _ _ _ _ ⟨T,M,q,h1,h2⟩ hg hr=>⟨T,M,q,h1.grown hg fun r e=>⟨Nat.le_trans hB (hr r e).1,(hr r e).2⟩,h2⟩
theorem IsY.own(g:Nat→Nat)(x:Lie)(k:Blk13)(c1 c2:Nat→Int)(v1 v2:Value)(y1 y2:List Int)(b:Nat)(Gd:Prop)(R:List Nat×Nat×Int)(lo B:Nat)(hB:x.top≤B):OwnFrom B (fun _:Unit=>IsY g x k c1 c2 v1 v2 y1 y2 b Gd R lo):=fun _ _ _ _ ⟨T,M,q,left,h1,h2,h3⟩ hg hr=>⟨T,M,q,left,h1.grown hg fun r e=>⟨Nat.le_trans hB (hr r e).1,(hr r e).2⟩,h2.grown hg fun r e=>(hr r e).2,h3⟩
theorem steps_in(n:Nat)(p:Nat)(V:Array Value)(w:World):
  CallsIn Fence.wide n Tryz.prog 116 #[.pointer (some ⟨p,0,none⟩),.agg V] w fun e w'=>e=.returned (.func (.func 159) #[] #[.pointer (some ⟨w.heap.size,0,none⟩),.pointer (some ⟨w.heap.size+1,0,none⟩)])∧
   w'=(w.alloc (.cells #[.pointer (some ⟨p,0,none⟩)] 112)).alloc (.cells V 28):=by
 refine callsIn_of_wp Tryz.func116 rfl trivial ?_ rfl
 simp only[Tryz.ntmps116,List.size_toArray,List.length_cons,List.length_nil,Nat.reduceAdd,Nat.reduceSub,Array.replicate_succ,Array.replicate_zero,List.push_toArray,List.append_toArray,List.nil_append,List.cons_append]
 gi_wp2
 go_ret
 exact⟨rfl,rfl⟩
theorem own_cellsT{w:World}{base sz n j:Nat}{e:TypeId}{v:Value}{xs:List Value}(h:w.ownsRow base e sz v n xs)(hj:v.ownBlock=some j):∃cur,w.heap[j]?=some (.cells cur e (0,0)):=by
 rcases h.2 with⟨rfl,_⟩|⟨g,cap,cur,rfl,hg,hh,_⟩
 ·simp[Value.ownBlock]at hj
 ·simp[Value.ownBlock]at hj
  subst hj;exact⟨cur,hh⟩
theorem fr_others{p:Nat}{W W':World}{cs:Array Value}{t:TypeId}(h:BoxC W p cs t)(f:Fr (At p) W W'):KeepsOthers W W':=⟨f.size,fun k o hk hc=>(f.block k (Array.getElem?_eq_some_iff.1 hk).1 (fun(e:k=p)=>by
 subst e
 have h':W.heap[k]?=some (.cells cs t (0,0)):=h
 rw[h']at hk;cases hk;cases hc)).trans hk⟩
theorem Fr.low{S:Nat→Prop}{w a b:World}{B:Nat}(h:Fr S w a)(k:Below B a b)(hB:w.heap.size≤B):Fr S w b:=⟨k.os.trans h.os,k.tape.trans h.tape,k.output.trans h.output,Nat.le_trans h.size k.size,fun i hi hS=>(k.block i (by omega)).trans (h.block i hi hS)⟩
def markD(D:Nat):Deferred:={target:=.collected D,args:=#[]}
theorem leavesM_all{F:Fence}{n:Nat}{P:Program}{fn:Func}{tmps:Array Value}{R:Ending→World→Prop}(I:World→Prop)(B:Nat)(hI:OwnFrom B (fun _:Unit=>I))(hR:∀W,I W→LeavesIn F n P fn tmps R [] .returning W):
  ∀(Ds:List Nat) (W:World),I W→(∀D∈Ds,B≤D∧W.heap[D]?=some (.deferred (some [])))→Ds.Nodup→LeavesInM F n P fn tmps R (Ds.map markD) .returning W
 |[],W,hi,_,_=>hR W hi
 |D::Ds,W,hi,hm,hn=>by
  obtain⟨h1,h2⟩:=hm D (by simp)
  obtain⟨hn1,hn2⟩:=List.nodup_cons.1 hn
  refine⟨by simp,.inl ⟨D,_,rfl,run_takeDeferred h2,?_⟩⟩
  refine leavesM_all I B hI hR Ds _ (hI.putObj (s:=()) _ hi h1 h2 rfl) (fun D' hD'=>?_) hn2
  obtain⟨e1,e2⟩:=hm D' (by simp[hD'])
  exact⟨e1,(World.putObj_heap_other (by intro e;apply hn1;first|(rw[e];exact hD')|(rw[←e];exact hD'))).trans e2⟩
theorem tmps_lit(tm:Array Value)(h:tm.size=53):∃u:Nat→Value,tm=#[u 0,u 1,u 2,u 3,u 4,u 5,u 6,u 7,u 8,u 9,u 10,u 11,u 12,u 13,u 14,u 15,u 16,u 17,u 18,u 19,u 20,u 21,u 22,u 23,u 24,u 25,u 26,u 27,u 28,u 29,u 30,u 31,u 32,u 33,u 34,u 35,u 36,u 37,u 38,u 39,u 40,u 41,u 42,u 43,u 44,u 45,u 46,u 47,u 48,u 49,u 50,u 51,u 52]∧∀i,i<53→tm[i]?=some (u i):=by
 refine⟨fun i=>tm.getD i undef,?_,fun i hi=>?_⟩
 ·have e:tm=((List.range 53).map fun i=>tm.getD i undef).toArray:=by
   apply Array.ext
   ·simp[h]
   ·intro i h1 h2
    simp[Array.getD,h1]
  exact e.trans rfl
 ·rw[Array.getElem?_eq_getElem (by omega)]
  simp[Array.getD,h,hi]
structure FrT (x:Lie) (lb:Bool) (a:Act):Prop where
 df:a.defers=x.ds.map markD
 sz:a.tmps.size=53
 t0:a.tmps[0]?=some (.pointer (some ⟨x.p,0,none⟩))
 t1:a.tmps[1]?=some (.int .i64 (x.lim:Int))
 t2:a.tmps[2]?=some (.pointer (some ⟨x.z,0,none⟩))
 t3:a.tmps[3]?=some (.pointer (some ⟨x.z+1,0,none⟩))
 t4:a.tmps[4]?=some (.slice none 0 0)
 t5:a.tmps[5]?=some (.pointer (some ⟨x.z+2,0,none⟩))
 t6:a.tmps[6]?=some (.pointer (some ⟨x.z+3,0,none⟩))
 t7:a.tmps[7]?=some (.bool lb)
def CoT(g:Nat→Nat)(R:List Nat×Nat×Int)(x:Lie)(T:List Tok)(M:Nat)(q:Rz)(lb:Bool)(W:World):Prop:=Col x T M q W∧x.top≤W.heap.size∧x.z+4≤W.heap.size∧x.ds.Nodup∧((lb=false∧TGo g x.l x.lim R T M q none)∨TBad x.lim R T q∨(lb=true∧TFin x.lim R T q))
theorem Col.move{x:Lie}{T:List Tok}{M:Nat}{q:Rz}{W:World}(h:Col x T M q W)(ds:List Nat)(top:Nat)(ht:x.z≤top)(hd:∀D∈ds,x.z≤D∧D<top∧W.heap[D]?=some (.deferred (some []))):Col ⟨x.w0,x.p,x.A,x.l,x.c,x.z,x.lim,ds,top,x.ok,ht⟩ T M q W:=
 ⟨h.rdr,h.bp,h.bm,h.bd,h.row,h.fr,hd⟩
theorem beg_small{g:Nat→Nat}{L a:Nat}(ha:a≤8*L)(h:(begR g L a).2.2=0):(begR g L a).1.n≤320∧(begR g L a).1.m≤320:=by
 by_cases k0:(begR g L a).1.kind=0
 ·unfold begR at h k0⊢
  split at h
  ·exact absurd h (by decide)
  ·rename_i h1
   rw[if_neg h1]at k0⊢
   unfold begW at h k0⊢
   split at h
   ·exact absurd h (by decide)
   ·rename_i h2
    rw[if_neg h2]at k0⊢
    split at h
    ·rename_i h3
     rw[if_pos h3]at k0
     have:=((dy_is (g:=g) (L:=L) (a:=a+3) (last:=decide (numN g a 3%2=1)) (by omega)).1 h).2.1
     rw[k0]at this;exact absurd this (by decide)
    ·rename_i h3
     rw[if_neg h3]at k0⊢
     split at h
     ·rename_i h4
      rw[if_pos h4]at k0;exact absurd k0 (show¬(1:Nat)=0 by decide)
     ·rename_i h4
      rw[if_neg h4]
      unfold stoR at h⊢
      split at h
      ·exact absurd h (by decide)
      ·rename_i h5
       rw[if_neg h5]
       unfold stoV at h⊢
       split at h
       ·exact absurd h (by decide)
       ·rename_i h6
        rw[if_neg h6];exact⟨Nat.zero_le _,Nat.zero_le _⟩
 ·obtain⟨_,_,_,_,_,_,_,h8⟩:=(head_is (g:=g) (L:=L) ha).1 h
  obtain⟨_,_,_,_,_,c5,c6⟩:=h8 k0
  exact⟨(check_ok c5).2.2.1,(check_ok c6).2.2.1⟩
theorem hdL_le(g:Nat→Nat)(L:Nat)(s:Rz):hdL g L s≤65535∧(hdK g L s≠0→hdL g L s=0)∧hdK g L s<256:=by
 have h1:sizV g L (hdQ L s)<65536:=tkV_lt _ _ _ _
 have h2:hdK g L s<4:=tkV_lt _ _ _ _
 refine⟨?_,fun h=>?_,by omega⟩
 ·unfold hdL;split<;>omega
 ·unfold hdL;rw[if_neg h]
theorem hdS_in{g:Nat→Nat}{L:Nat}{s:Rz}(h:s.1≤8*L):(hdS g L s).1≤8*L:=by
 have hq:(hdQ L s).1≤8*L:=tkS_in (tkS_in h)
 unfold hdS
 split
 ·unfold sizS;rw[wantS_in];exact tkS_in (tkS_in (alS_in hq))
 ·split
  ·unfold gwS;rw[wantS_in,wantS_in];exact hq
  ·split
   ·have h5:=dyS5_in (g:=g) hq
    have hR:∀k made l s,s.1≤8*L→(lnS (extF 19 (dyH g L (hdQ L s))) g L made k made l s).2.1≤8*L∨True:=fun _ _ _ _ _=>.inr trivial
    have hR2:∀(F:Nat→Nat) (n k made:Nat) (l:List (Int×Int)) (s:Rz),s.1≤8*L→(lnS F g L n k made l s).2.1≤8*L:=by
     intro F n k
     induction k with
     |zero=>intro _ _ _ h;exact h
     |succ k ih=>
      intro made l s h
      unfold lnS
      split
      ·exact ih _ _ _ (ruE_in h)
      ·exact h
    unfold dyS9
    split
    ·exact hR2 _ _ _ _ _ _ h5
    ·unfold gwS;rw[wantS_in,wantS_in,wantS_in];exact hR2 _ _ _ _ _ _ h5
   ·rw[keepS_in];exact hq
theorem head_blk{g:Nat→Nat}{x:Lie}{R:List Nat×Nat×Int}{T:List Tok}{M a:Nat}(h:TGo g x.l x.lim R T M (a,0) none):∃(k:Blk13) (Gd:Prop),k.kind=hdK g x.l (a,0)∧k.last=hdB g x.l (a,0)∧k.left=hdL g x.l (a,0)∧k.n≤320∧k.m≤320∧
  (Gd→k.kind≠0→IsTree (hdC1 g x.l (a,0)) (hdY1 g x.l (a,0)) (extF k.n k.F)∧IsTree (hdC2 g x.l (a,0)) (hdY2 g x.l (a,0)) (extF k.m k.G))∧InB g x k Gd R T M (hdS g x.l (a,0)) k.left (a+1):=by
 have ha:a≤8*x.l:=h.place
 obtain⟨h1,h2⟩:=h.head
 obtain⟨i1,i2⟩:=head_is (g:=g) (L:=x.l) ha
 rcases Int.decEq (begR g x.l a).2.2 0 with e|e
 ·refine⟨⟨hdK g x.l (a,0),hdB g x.l (a,0),hdL g x.l (a,0),nof13,0,nof13,0⟩,False,rfl,rfl,rfl,Nat.zero_le _,Nat.zero_le _,fun f=>f.elim,.inr ⟨?_,hdS_in ha⟩⟩
  have:=h1 e (hdS g x.l (a,0)).1
  have e3:hdS g x.l (a,0)=((hdS g x.l (a,0)).1,(begR g x.l a).2.2):=Prod.ext rfl (i2 e)
  rw[e3];exact this
 ·obtain⟨e1,e2,e3,e4,e5,e6,e7,e8⟩:=i1 e
  obtain⟨s1,s2⟩:=beg_small ha e
  refine⟨(begR g x.l a).1,True,e2.symm,e3.symm,e4.symm,s1,s2,fun _ k0=>?_,.inl ⟨trivial,?_,?_⟩⟩
  ·obtain⟨c0,c1,c2,c3,c4,c5,c6⟩:=e8 k0
   rw[c1,c2,c3,c4]
   exact⟨grown_tree c5,grown_tree c6⟩
  ·rw[e1];exact h2 e
  ·rw[e1];have:=(beg_fwd e).1;show a+1≤(begR g x.l a).2.1;omega
def TkPost(x0:Lie)(R:List Nat×Nat×Int)(e:Ending)(w':World):Prop:=∃(T:List Tok) (q:Rz) (B:Option Addr) (n:Nat),e=.returned (.slice B T.length n)∧TkR w' w'.heap.size B T.length n T∧Rdr w' x0.p x0.A x0.l x0.c q∧Fr (At x0.p) x0.w0 w'∧(TBad x0.lim R T q∨TFin x0.lim R T q)
theorem ptokens_x(x0:Lie)(hds:x0.ds=[])(htop0:x0.top=x0.z)(g:Nat→Nat)(a:Nat)(h:Rdr x0.w0 x0.p x0.A x0.l x0.c (a,0))(hg:RdF (At x0.p) x0.w0 x0.A x0.l g)(hl:x0.l≤1000000)(ha:a≤8*x0.l)(hlim:x0.lim≤131072)(R:List Nat×Nat×Int)(hR:toldA g x0.l x0.lim none [] a=R):
  Calls Tryz.prog 77 #[.pointer (some ⟨x0.p,0,none⟩),.int .i64 (x0.lim:Int)] x0.w0 fun e w'=>TkPost x0 R e w':=by
 have hgo:TGo g x0.l x0.lim R [] 0 (a,0) none:=⟨⟨fun t ht=>by simp at ht,trivial,rfl⟩,Nat.zero_le _,rfl,ha,hR⟩
 obtain⟨W1,hW1⟩:∃W1,W1=(((x0.w0.alloc (.cells #[.pointer (some ⟨x0.p,0,none⟩)] 112)).alloc (.cells #[.int .i64 (x0.lim:Int)] 3)).alloc (.cells #[.slice none 0 0] 60)).alloc (.cells #[.int .i64 0] 3):=⟨_,rfl⟩
 have hz:=x0.ok.1
 have hb1:Below x0.w0.heap.size x0.w0 W1:=by rw[hW1];exact((((Below.refl _ _).alloc (Nat.le_refl _) _).alloc (by simp) _).alloc (by simp;omega) _).alloc (by simp;omega) _
 have hs1:W1.heap.size=x0.z+4:=by rw[hW1];simp;omega
 have hcol:Col x0 [] 0 (a,0) W1:=by
  refine⟨BoxC.below h hb1 h.lt,?_,?_,?_,⟨none,0,?_,World.ownsRow_nil _ _ _ _⟩,Fr.of hb1,fun D hD=>by rw[hds]at hD;simp at hD⟩
  ·rw[←hz,hW1];exact(((Boxed.new x0.w0 _ _).alloc _).alloc _).alloc _
  ·have:=((Boxed.new (x0.w0.alloc (.cells #[.pointer (some ⟨x0.p,0,none⟩)] 112)) 3 (.int .i64 (x0.lim:Int))).alloc (.cells #[.slice none 0 0] 60)).alloc (.cells #[.int .i64 0] 3)
   rw[World.size_alloc,hz]at this
   rw[hW1];exact this
  ·have:=Boxed.new (((x0.w0.alloc (.cells #[.pointer (some ⟨x0.p,0,none⟩)] 112)).alloc (.cells #[.int .i64 (x0.lim:Int)] 3)).alloc (.cells #[.slice none 0 0] 60)) 3 (.int .i64 0)
   rw[World.size_alloc,World.size_alloc,World.size_alloc,hz]at this
   rw[hW1];exact this
  ·have:=(Boxed.new ((x0.w0.alloc (.cells #[.pointer (some ⟨x0.p,0,none⟩)] 112)).alloc (.cells #[.int .i64 (x0.lim:Int)] 3)) 60 (.slice none 0 0)).alloc (.cells #[.int .i64 0] 3)
   rw[World.size_alloc,World.size_alloc,hz]at this
   rw[hW1];exact this
 have HG:=Lib.hid hg;have HW1:=Lib.hid hW1;have HZ:=Lib.hid hz;have HC1:=Lib.hid hcol;have HGO:=Lib.hid hgo
 have HS1:=Lib.hid hs1
 have HP:=Lib.hid x0.ok
 clear h hg hW1 hcol hgo hb1 hs1 hR
 refine(callsIn_wide (n:=9)).1 ?_
 refine callsIn_of_wp_marks Tryz.func77 rfl trivial ?_ rfl
 simp only[Tryz.ntmps77,List.size_toArray,List.length_cons,List.length_nil,Nat.reduceAdd,Nat.reduceSub,Array.replicate_succ,Array.replicate_zero,List.push_toArray,List.append_toArray,List.nil_append,List.cons_append]
 gi_wp2_with fail
 simp only[Nat.add_assoc,Nat.reduceAdd]
 rw[←HW1.out]
 refine wpIn_loop (fun a w=>∃(x:Lie) (T:List Tok) (M:Nat) (q:Rz) (lb:Bool),(x.w0=x0.w0∧x.p=x0.p∧x.A=x0.A∧x.l=x0.l∧x.c=x0.c∧x.z=x0.z∧x.lim=x0.lim)∧FrT x lb a∧CoT g R x T M q lb w)
  (fun a w=>match a.tmps.getD 7 undef,w.cell? ⟨x0.p,1,none⟩,w.cell? ⟨x0.p,2,none⟩with| .bool false,some (.int .i64 a),some (.int .i64 e)=>if e=0 then 8*x0.l+1-a.toNat else 0|_,_,_=>0) ?start ?round
 case start=>exact⟨x0,[],0,(a,0),false,⟨rfl,rfl,rfl,rfl,rfl,rfl,rfl⟩,⟨by rw[hds];rfl,rfl,rfl,rfl,rfl,rfl,rfl,rfl,rfl,rfl⟩,HC1.out,by rw[htop0,HS1.out];omega,by rw[HS1.out];exact Nat.le_refl _,by rw[hds];exact List.nodup_nil,.inl ⟨rfl,HGO.out⟩⟩
 case round=>
  rintro⟨tm,df⟩ wr ⟨x,T,M,q,lb,E,hF,hC⟩
  have hxp:=E.2.1
  have HG2:Hid (RdF (At x.p) x.w0 x.A x.l g):=Lib.hid (by rw[E.1,E.2.1,E.2.2.1,E.2.2.2.1];exact HG.out)
  have hl2:x.l≤1000000:=by rw[E.2.2.2.1];exact hl
  have hlim2:x.lim≤131072:=by rw[E.2.2.2.2.2.2];exact hlim
  have HPX:Hid (∀(W:World) (B:Option Addr) (n:Nat),Rdr W x.p x.A x.l x.c q→Fr (At x.p) x.w0 W→W.ownsRow x.u 36 3 (.slice B T.length n) T.length (toksL T)→(TBad x.lim R T q∨TFin x.lim R T q)→TkPost x0 R (Ending.returned (.slice B T.length n)) W):=Lib.hid (fun W B n h1 h2 h4 h3=>⟨T,q,B,n,rfl,TkR.of_own h4,by rw[←E.2.1,←E.2.2.1,←E.2.2.2.1,←E.2.2.2.2.1];exact h1,by rw[←E.2.1,←E.1];exact h2,by rw[←E.2.2.2.2.2.2];exact h3⟩)
  have HE:=Lib.hid E
  obtain⟨hdf,hsz53,t0,t1,t2,t3,t4,t5,t6,t7⟩:=hF
  obtain⟨u,rfl,hu⟩:=tmps_lit tm hsz53
  have hdf:df=x.ds.map markD:=hdf
  subst hdf
  have e0:=Option.some.inj ((hu 0 (by omega)).symm.trans t0);have e1:=Option.some.inj ((hu 1 (by omega)).symm.trans t1);have e2:=Option.some.inj ((hu 2 (by omega)).symm.trans t2);have e3:=Option.some.inj ((hu 3 (by omega)).symm.trans t3);have e4:=Option.some.inj ((hu 4 (by omega)).symm.trans t4);have e5:=Option.some.inj ((hu 5 (by omega)).symm.trans t5);have e6:=Option.some.inj ((hu 6 (by omega)).symm.trans t6);have e7:=Option.some.inj ((hu 7 (by omega)).symm.trans t7)
  rw[e0,e1,e2,e3,e4,e5,e6,e7]
  clear hsz53 t0 t1 t2 t3 t4 t5 t6 t7 hu e0 e1 e2 e3 e4 e5 e6 e7 E
  obtain⟨hcol0,htop,hsz,hnd,hI⟩:=hC
  have HC:=Lib.hid hcol0;have HI:=Lib.hid hI;have HND:=Lib.hid hnd
  have HP:=Lib.hid x.ok
  clear hcol0 hI hnd hxp
  obtain⟨ds,hds⟩:∃ds,ds=x.ds:=⟨_,rfl⟩
  rw[←hds]
  have HDS:=Lib.hid hds
  clear hds
  have cp:=(HC.out.bp).cell
  have ce:wr.cell? ⟨x.p,2,none⟩=some (.int .i64 q.2):=HC.out.rdr.e
  obtain⟨B,n,hbr,hown⟩:=HC.out.row
  have cl:=hbr.cell
  by_cases hgo:lb=false∧q.2=0
  ·obtain⟨rfl,hq0⟩:=hgo
   have hTG:TGo g x.l x.lim R T M q none:=by
    rcases HI.out with h|h|h
    ·exact h.2
    ·exact absurd hq0 h.err
    ·exact absurd h.1 (by decide)
   have d0:(q.2==0)=true:=by rw[hq0];rfl
   obtain⟨qa,qe⟩:=q
   have hqe:qe=0:=hq0
   subst hqe
   have HTG:=Lib.hid hTG
   clear hq0 HI hTG cl hbr hown
   have ce':wr.cell? ⟨x.p,2,none⟩=some (.int .i64 0):=ce
   clear ce
   have hsx:∀j,At x.p j→j<wr.heap.size:=fun j (e:j=x.p)=>by have:=HP.out;omega
   have hin2:(hdQ x.l (qa,0)).1≤8*x.l:=tkS_in (tkS_in HTG.out.place)
   have HHD:=Lib.hid (phead_any wr x.p x.A x.l x.c g (qa,0) HC.out.rdr (At x.p) rfl hsx (HG2.out.fr HC.out.fr) hl2 HTG.out.place (fun he=>(dy_len g x.l (hdQ x.l (qa,0)) hin2 he).1))
   obtain⟨k,Gd,hk1,hk2,hk3,hk4,hk5,hk6,hk7⟩:=head_blk HTG.out
   obtain⟨hl1,hl2,hl3⟩:=hdL_le g x.l (qa,0)
   rw[←hk1]at hl2 hl3
   rw[←hk3]at hl1 hl2
   rw[←hk1,←hk2,←hk3]at HHD
   obtain⟨C1,hC1⟩:∃c,c=hdC1 g x.l (qa,0):=⟨_,rfl⟩
   obtain⟨C2,hC2⟩:∃c,c=hdC2 g x.l (qa,0):=⟨_,rfl⟩
   obtain⟨y1,hy1⟩:∃c,c=hdY1 g x.l (qa,0):=⟨_,rfl⟩
   obtain⟨y2,hy2⟩:∃c,c=hdY2 g x.l (qa,0):=⟨_,rfl⟩
   obtain⟨q2,hq2⟩:∃c,c=hdS g x.l (qa,0):=⟨_,rfl⟩
   rw[←hC1,←hC2,←hy1,←hy2]at HHD hk6
   rw[←hq2]at HHD hk7
   have HK6:=Lib.hid hk6;have HK7:=Lib.hid hk7;have HL2:=Lib.hid hl2
   have HM1:=Lib.hid (HC.out.rdr.a);have HM2:=Lib.hid (HC.out.rdr.e)
   obtain⟨Z,hZ⟩:∃Z,Z=blkT 0 false 0 (fun _=>0) (fun _=>0) (.slice none 0 0) (.slice none 0 0):=⟨_,rfl⟩
   have hzb:∀u:World,(zeroValue 28).run Tryz.prog u=.ok (.agg Z) u:=by rw[hZ];exact(zero_of_info infoBlkT).1
   have HZS:Hid (Z.size=37):=Lib.hid (by rw[hZ];exact blkT_size ..)
   clear hsx hin2 hk1 hk2 hk3 hk6 hk7 hC1 hC2 hy1 hy2 hq2 hl2 hZ
   gi_wp2_with fail
   refine(callsIn_wide.2 HHD.out).mono ?_
   rintro e w2 ⟨u1,u2,rfl,r2,o1,o2,f2⟩
   obtain⟨V,hV⟩:∃V,V=blkT k.kind k.last k.left C1 C2 u1 u2:=⟨_,rfl⟩
   rw[←hV]
   have HVS:Hid (V.size=37):=Lib.hid (by rw[hV];exact blkT_size ..)
   have HVO:Hid (V.all (·.oneCell')=true):=Lib.hid (by rw[hV];exact blkT_one _ _ _ _ _ _ _ o1.one o2.one)
   have hV1:V[1]?=some (.bool k.last):=by rw[hV];rfl
   obtain⟨k0,hk0⟩:∃t,t=w2.heap.size:=⟨_,rfl⟩
   obtain⟨W3,hW3⟩:∃W,W=mkV w2 Z V 28:=⟨_,rfl⟩
   have hb3:Below w2.heap.size w2 W3:=by rw[hW3];exact mkV_below _ _ _ _
   have x3:BoxC W3 k0 V 28:=by rw[hW3,hk0];exact mkV_row w2 Z V _
   have hs3:W3.heap.size=k0+1:=by rw[hW3,mkV_size,hk0]
   have hc3:=(HC.out.step f2 r2).on hb3
   have hcp:=(hc3.bp).cell
   have hcl:=x3.cell (i:=1)
   rw[hV1]at hcl
   have hzk:x.z+4≤k0:=by rw[hk0];exact Nat.le_trans hsz f2.size
   have htk:x.top≤k0:=by rw[hk0];exact Nat.le_trans htop f2.size
   have p1:OwnS W3 x.u u1 y1:=ownsRow_lower (own_keepG o1 hb3) (by unfold Lie.u;exact hsz)
   have p2:OwnS W3 x.u u2 y2:=ownsRow_lower (own_keepG o2 hb3) (by unfold Lie.u;exact hsz)
   have HX3:=Lib.hid x3;have HW3:=Lib.hid hW3;have HKZ:=Lib.hid hk0;have HC3:=Lib.hid hc3;have HP1:=Lib.hid p1;have HP2:=Lib.hid p2;have HVE:=Lib.hid hV;have HS3:=Lib.hid hs3
   clear r2 o1 o2 f2 hV hV1 hk0 hW3 hb3 x3 hs3 hc3 p1 p2 HHD HC
   gi_wp2_with (first
    |(refine wpListIn_store_row rfl _ _ _ rfl rfl w2.heap.size V rfl rfl 28 Z (heap_alloc_new w2 _) (szBlkT _ HVS.out) (by rw[HZS.out,HVS.out]) HVO.out ?_;change wpListIn _ _ _ _ _ _ _ (mkV w2 Z V 28);rw[←HW3.out,←HKZ.out])
    |(refine wpListIn_load_row rfl _ _ rfl k0 rfl _ V (0,0) _ HX3.out Tryz.underlying28 rfl (szBlkT _ HVS.out) ?_)
    |(gi_at_call 116;refine(steps_in _ _ _ _).mono ?_;rintro e w' ⟨rfl,rfl⟩))
   obtain⟨W5,hW5⟩:∃W,W=(W3.alloc (.cells #[.pointer (some ⟨x.p,0,none⟩)] 112)).alloc (.cells V 28):=⟨_,rfl⟩
   have hb5:Below W3.heap.size W3 W5:=by rw[hW5];exact((Below.refl _ _).alloc (Nat.le_refl _) _).alloc (by simp) _
   have hc5:=HC3.out.on hb5
   have hs5:W5.heap.size=W3.heap.size+2:=by rw[hW5];simp
   have hblo:Blo x k C1 C2 u1 u2 y1 y2 W3.heap.size k.left W5:=by
    refine⟨?_,?_,own_keepG HP1.out hb5,own_keepG HP2.out hb5,by rw[HS3.out];unfold Lie.u;omega⟩
    ·rw[hW5];exact(Boxed.new W3 _ _).alloc _
    ·rw[hW5,←HVE.out];have:=BoxC.new (W3.alloc (.cells #[.pointer (some ⟨x.p,0,none⟩)] 112)) V 28;rwa[World.size_alloc]at this
   have his:IsY g x k C1 C2 u1 u2 y1 y2 W3.heap.size Gd R (qa+1) W5:=⟨T,M,q2,k.left,hc5,hblo,hl1,HL2.out,HK7.out⟩
   have HIS:=Lib.hid his
   obtain⟨fr,hfr⟩:∃fr:Nat→Tok→Act,fr=fun y t=>{tmps:=#[.pointer (some ⟨x.p,0,none⟩),.int .i64 (x.lim:Int),.pointer (some ⟨x.z,0,none⟩),.pointer (some ⟨x.z+1,0,none⟩),.slice none 0 0,.pointer (some ⟨x.z+2,0,none⟩),.pointer (some ⟨x.z+3,0,none⟩),.bool k.last,.pointer (some ⟨k0,0,none⟩),.pointer (some ⟨y,0,none⟩),.bool false,.bool true,.bool true,.pointer (some ⟨x.p,0,none⟩),.pointer (some ⟨x.p,0,none⟩),.pointer (some ⟨x.p,2,none⟩),.int .i64 0,.bool true,.bool true,.pointer (some ⟨x.p,0,none⟩),.agg V,.pointer (some ⟨k0,1,none⟩),.bool k.last,.pointer (some ⟨x.p,0,none⟩),.agg V,.func (.func 159) #[] #[.pointer (some ⟨W3.heap.size,0,none⟩),.pointer (some ⟨W3.heap.size+1,0,none⟩)],.agg #[.int .u8 (t.x:Int),.int .i64 t.d,.int .i64 t.n],u 27,u 28,u 29,u 30,u 31,u 32,u 33,u 34,u 35,u 36,u 37,u 38,u 39,u 40,u 41,u 42,u 43,u 44,u 45,u 46,u 47,u 48,u 49,u 50,u 51,u 52],defers:=[]}:=⟨_,rfl⟩
   have HFR:=Lib.hid hfr
   have hW5s:x.top≤W5.heap.size:=by rw[hs5,HS3.out];omega
   rw[←hW5]
   have HW5:=Lib.hid hW5;have HS5:=Lib.hid hs5
   clear hW5 hb5 hc5 hs5 hblo his hfr HC3 HX3 hcp hcl HKZ
   refine wpIn_range_st rfl (by omega) (gf:=159) (lb:=#[.pointer (some ⟨W3.heap.size,0,none⟩),.pointer (some ⟨W3.heap.size+1,0,none⟩)]) rfl trivial (enters_of Tryz.func159 (by kernel_rfl) rfl)
    encY (fun _=>rfl) (IsY g x k C1 C2 u1 u2 y1 y2 W3.heap.size Gd R (qa+1)) (IeY g x k R (qa+1)) (I0y x k C1 C2 u1 u2 y1 y2 W3.heap.size) (I1y x k C1 C2 u1 u2 y1 y2 W3.heap.size)
    (IsY.own _ _ _ _ _ _ _ _ _ _ _ _ _ _ hW5s) (I1y.own _ _ _ _ _ _ _ _ _ _ hW5s) (IeY.own _ _ _ _ _ _ hW5s)
    (fun lY X W hX hY hD hI hx=>steps1_in _ (by omega) g x HG2.out hl2 k hl3 hk4 hk5 C1 C2 u1 u2 y1 y2 W3.heap.size Gd HK6.out R (qa+1) lY X W5.heap.size (by rw[HS5.out];omega) hX hY W hD hI hx)
    HIS.out
    (fun s a₁ W=>∃y:Nat,a₁=fr y s.t∧x.z+4≤y∧BoxC W y #[.int .u8 (s.t.x:Int),.int .i64 s.t.d,.int .i64 s.t.n] 36∧I0y x k C1 C2 u1 u2 y1 y2 W3.heap.size s W)
    (fun a₁ s W W' row h hg hr=>by
     obtain⟨y,e1,e2,e3,e4,e5,e6⟩:=h
     exact⟨y,e1,e2,grown_cells e3 hg fun r e=>(hr r e).2,e4.grown hg fun r e=>⟨Nat.le_trans hW5s (hr r e).1,(hr r e).2⟩,e5.grown hg fun r e=>(hr r e).2,e6⟩)
    ?assign ?body ?done
   case assign=>
    intro l s W K hI hsz hK
    obtain⟨sT,sM,sq,sl,⟨tx,td,tn⟩⟩:=s
    have hb:Below W.heap.size W (W.alloc (.cells #[.int .u8 (tx:Int),.int .i64 td,.int .i64 tn] 36)):=(Below.refl _ _).alloc (Nat.le_refl _) _
    have hgoal:=hK (fr W.heap.size ⟨tx,td,tn⟩) _ (KeepsOthers.alloc W (.cells #[.int .u8 (tx:Int),.int .i64 td,.int .i64 tn] 36)) hb.size ⟨W.heap.size,rfl,by have:=HS5.out;have:=HS3.out;omega,BoxC.new W _ _,hI.1.on hb,hI.2.1.fr (Fr.of hb),hI.2.2⟩
    rw[HFR.out]at hgoal
    have HGOAL:=Lib.hid hgoal
    clear hgoal hK hb hI
    simp only[encY]
    gi_wp2
    exact HGOAL.out
   case body=>
    rintro l s a₁ W ⟨y,rfl,hy4,hbx,hcol,hblo,hok⟩
    obtain⟨sT,sM,sq,sl,⟨tx,td,tn⟩⟩:=s
    obtain⟨ok1,ok2,ok3,ok4,ok5,ok6⟩:=hok
    have hbx:BoxC W y #[.int .u8 (tx:Int),.int .i64 td,.int .i64 tn] 36:=hbx
    have hcol:Col x sT sM sq W:=hcol
    have hblo:Blo x k C1 C2 u1 u2 y1 y2 W3.heap.size sl W:=hblo
    have ok5:mayT ⟨tx,td,tn⟩=true:=ok5
    have ok3:sM≤x.lim:=ok3
    have ok4:sT.length≤sM:=ok4
    have ok1:sq.2=0:=ok1
    have ok2:sq.1≤8*x.l:=ok2
    have ok6:tx<256:=ok6
    obtain⟨E,hE⟩:∃E,E=lenT ⟨tx,td,tn⟩:=⟨_,rfl⟩
    have hrng:0≤td∧td≤32768∧0≤tn∧tn≤258:=by rcases mayT_is ok5 with h|h<;>(have:=h.1;dsimp only at*;omega)
    have hmx:(if tn<1 then(1:Int)else tn)=(E:Int):=by
     rw[hE];unfold lenT
     rcases mayT_is ok5 with h|h
     ·have h0:tn=0:=h.1
      rw[if_pos (show(⟨tx,td,tn⟩:Tok).n=0 from h0),if_pos (by omega)];rfl
     ·have h1:3≤tn:=h.2.2.1
      rw[if_neg (show¬(⟨tx,td,tn⟩:Tok).n=0 by show¬tn=0;omega),if_neg (by omega)]
      show tn=((tn.toNat:Nat):Int);omega
    have hE258:E≤258:=by
     rw[hE];unfold lenT;split
     ·omega
     ·show tn.toNat≤258;omega
    obtain⟨M2,hM2⟩:∃M2,M2=sM+E:=⟨_,rfl⟩
    have hsum:(sM:Int)+(E:Int)=(M2:Int):=by omega
    have hbq:bdQ x.lim sM ⟨tx,td,tn⟩ sq=wantS (wantS sq (decide (td≤(sM:Int))) 60) (decide (M2≤x.lim)) 140:=by rw[hM2,hE];rfl
    obtain⟨q3,hq3⟩:∃q,q=wantS sq (decide (td≤(sM:Int))) 60:=⟨_,rfl⟩
    obtain⟨q4,hq4⟩:∃q,q=bdQ x.lim sM ⟨tx,td,tn⟩ sq:=⟨_,rfl⟩
    rw[←hq3,←hq4]at hbq
    have hbt:bdT x.lim sM sT ⟨tx,td,tn⟩ sq=if q4.2=0 then sT++[⟨tx,td,tn⟩]else sT:=by rw[hq4];rfl
    have HEND:Hid (∀W',KeepsOthers W W'→Col x (if q4.2=0 then sT++[⟨tx,td,tn⟩]else sT) M2 q4 W'→Blo x k C1 C2 u1 u2 y1 y2 W3.heap.size sl W'→KeepsOthers W W'∧W.heap.size≤W'.heap.size∧I1y x k C1 C2 u1 u2 y1 y2 W3.heap.size ⟨sT,sM,sq,sl,⟨tx,td,tn⟩⟩ W'):=Lib.hid (fun W' k1 k2 k3=>⟨k1,k1.size,by
     refine⟨?_,k3,ok1,ok2,ok3,ok4,ok5,ok6⟩
     show Col x (bdT x.lim sM sT ⟨tx,td,tn⟩ sq) (sM+lenT ⟨tx,td,tn⟩) (bdQ x.lim sM ⟨tx,td,tn⟩ sq) W'
     rw[hbt,←hE,←hM2,←hq4];exact k2⟩)
    have cp:=hcol.bp.cell
    have cd:=hcol.bd.cell
    have cy1:W.cell? ⟨y,1,none⟩=some (.int .i64 td):=hbx.cell.trans rfl
    have HWA:=Lib.hid (pwant_any W x.p x.A x.l x.c sq hcol.rdr (decide (td≤(sM:Int))) 60)
    rw[←hq3]at HWA
    have HBX:=Lib.hid hbx;have HCO:=Lib.hid hcol;have HBL:=Lib.hid hblo;have HBQ:=Lib.hid hbq
    clear hbx hcol hblo hbq hbt hq3 hq4 hE hM2 ok1 ok2 ok5
    rw[HFR.out]
    gi_wp2_with fail
    refine((callsIn_wide.2 HWA.out).inRound l).mono ?_
    rintro e w2 ⟨rfl,r2,f2⟩
    have hn0:y≠x.p:=by have:=HP.out;omega
    have hc2:=HCO.out.step f2 r2
    have HBL2:=Lib.hid (HBL.out.fr f2)
    have HBX2:=Lib.hid (HBX.out.fr f2 (fun(e:y=x.p)=>hn0 e))
    have HKO2:=Lib.hid (fr_others HCO.out.rdr f2)
    have cd2:=hc2.bd.cell
    have fd2:=hc2.bd.frozen
    have cy2:w2.cell? ⟨y,2,none⟩=some (.int .i64 tn):=HBX2.out.cell.trans rfl
    obtain⟨U,hU⟩:∃U,U=w2.setCell ⟨x.z+3,0,none⟩ (.int .i64 (M2:Int)):=⟨_,rfl⟩
    have fU:Fr (At (x.z+3)) w2 U:=by rw[hU];exact Fr.cell _ _ _ _
    have hnz:∀i,i<3→¬At (x.z+3) (x.z+i):=fun i hi (e:x.z+i=x.z+3)=>by omega
    have hcU:Col x sT M2 q3 U:=by
     obtain⟨B',n',b',o'⟩:=hc2.row
     have hpz:=HP.out
     refine⟨hc2.rdr.fr fU (fun(e:x.p=x.z+3)=>by omega),boxed_fr hc2.bp fU (hnz 0 (by omega)),boxed_fr hc2.bm fU (hnz 1 (by omega)),?_,⟨B',n',boxed_fr b' fU (hnz 2 (by omega)),own_fr o' fU (fun j (e:j=x.z+3)=>by unfold Lie.u;omega)⟩,hc2.fr.from fU fun j (e:j=x.z+3)=>.inr (by rw[HP.out.1];omega),fun D hD=>(by
      obtain⟨d1,d2,d3⟩:=hc2.mks D hD
      exact⟨d1,d2,(fU.block D (Array.getElem?_eq_some_iff.1 d3).1 (fun(e:D=x.z+3)=>mark_ne d3 hc2.bd e)).trans d3⟩)⟩
     rw[hU];exact Boxed.set _ hc2.bd
    have hblU:Blo x k C1 C2 u1 u2 y1 y2 W3.heap.size sl U:=by
     have hb2:=HBL2.out
     have hle:=hb2.le
     unfold Lie.u at hle
     refine⟨boxed_fr hb2.bp fU (fun(e:W3.heap.size=x.z+3)=>by omega),hb2.bk.fr fU (fun(e:W3.heap.size+1=x.z+3)=>by omega),hb2.o1.fr fU (fun j (e:j=x.z+3)=>by unfold Lie.u;omega),hb2.o2.fr fU (fun j (e:j=x.z+3)=>by unfold Lie.u;omega),hb2.le⟩
    have hbxU:BoxC U y #[.int .u8 (tx:Int),.int .i64 td,.int .i64 tn] 36:=HBX2.out.fr fU (fun(e:y=x.z+3)=>by omega)
    have HKOU:Hid (KeepsOthers W U):=Lib.hid (HKO2.out.trans (by rw[hU];exact KeepsOthers.setCell _ _ _))
    have cpU:=hcU.bp.cell
    have cdU:=hcU.bd.cell
    have cmU:=hcU.bm.cell
    have cp2:=hc2.bp.cell
    have cm2:=hc2.bm.cell
    have HWB:=Lib.hid fun b=>pwant_any U x.p x.A x.l x.c q3 hcU.rdr b 140
    rw[hU]at cpU cdU cmU
    have HU:=Lib.hid hU;have HCU:=Lib.hid hcU;have HBLU:=Lib.hid hblU;have HBXU:=Lib.hid hbxU
    clear r2 f2 hc2 HBL2 HBX2 HBL HBX HCO HWA hU fU hnz hcU hblU hbxU HKO2 cp cd cy1
    gi_wp2_with fail
    rw[←HU.out]
    refine((callsIn_wide.2 (HWB.out _)).inRound l).mono ?_
    rintro e w4 ⟨rfl,r4,f4⟩
    have r4':Rdr w4 x.p x.A x.l x.c q4:=by rw[HBQ.out];simpa using r4
    have hc4:=HCU.out.step f4 r4'
    have hb4:=HBLU.out.fr f4
    have hx4:=HBXU.out.fr f4 (fun(e:y=x.p)=>hn0 e)
    have hk4':=HKOU.out.trans (fr_others HCU.out.rdr f4)
    have ce4:w4.cell? ⟨x.p,2,none⟩=some (.int .i64 q4.2):=r4'.e
    have cp4:=hc4.bp.cell
    by_cases he:q4.2=0
    ·have d4:(q4.2==0)=true:=by rw[he];rfl
     obtain⟨B4,n4,b4,o4⟩:=hc4.row
     have cl4:=b4.cell
     have hsz4:x.u≤w4.heap.size:=by
      have h1:=b4.lt;have h2:=hc4.bd.lt;unfold Lie.u;omega
     obtain⟨A',c',w5,hrun,hown5,hb5,hko5,hkk5⟩:=run_oneT_g w4 x.u B4 sT.length n4 sT o4 ⟨tx,td,tn⟩ (by omega) hsz4
     have hl5:w5.cell? ⟨x.z+2,0,none⟩=some (.slice B4 sT.length n4):=by rw[hb5.cell (p:=⟨x.z+2,0,none⟩) (by show x.z+2<x.u;unfold Lie.u;omega)];exact cl4
     have hb4':Boxed w5 (x.z+2) 60 (.slice B4 sT.length n4):=(hb5.block (x.z+2) (by unfold Lie.u;omega)).trans b4
     have fz5:=hb4'.frozen
     obtain⟨Y,hY⟩:∃Y,Y=w5.setCell ⟨x.z+2,0,none⟩ (.slice A' (sT.length+1) c'):=⟨_,rfl⟩
     have fY:Fr (At (x.z+2)) w5 Y:=by rw[hY];exact Fr.cell _ _ _ _
     have hsz5:=hb5.size
     have hpz:=HP.out
     have elen:(sT++[(⟨tx,td,tn⟩:Tok)]).length=sT.length+1:=by simp
     have hcY:Col x (sT++[⟨tx,td,tn⟩]) M2 q4 Y:=by
      have lo:∀{g:Nat} {v:Value} {t:TypeId},Boxed w4 g t v→g<x.u→g≠x.z+2→Boxed Y g t v:=fun{g v t} h h1 h2=>boxed_fr ((hb5.block g h1).trans h:Boxed w5 g t v) fY (fun(e:g=x.z+2)=>h2 e)
      refine⟨?_,lo hc4.bp (by unfold Lie.u;omega) (by omega),lo hc4.bm (by unfold Lie.u;omega) (by omega),lo hc4.bd (by unfold Lie.u;omega) (by omega),⟨A',c',?_,?_⟩,?_,fun D hD=>(by
       obtain⟨d1,d2,d3⟩:=hc4.mks D hD
       have d4:=hko5.same D _ d3 rfl
       exact⟨d1,d2,(fY.block D (Array.getElem?_eq_some_iff.1 d4).1 (fun(e:D=x.z+2)=>mark_ne d4 hb4' e)).trans d4⟩)⟩
      ·exact BoxC.fr (BoxC.below r4' hb5 (by unfold Lie.u;omega)) fY (fun(e:x.p=x.z+2)=>by omega)
      ·rw[hY,elen];exact Boxed.set _ hb4'
      ·rw[elen];exact own_fr hown5 fY (fun j (e:j=x.z+2)=>by unfold Lie.u;omega)
      ·exact(hc4.fr.low hb5 (by rw[HP.out.1];unfold Lie.u;omega)).from fY fun j (e:j=x.z+2)=>.inr (by rw[HP.out.1];omega)
     have hbY:Blo x k C1 C2 u1 u2 y1 y2 W3.heap.size sl Y:=by
      have hle:=hb4.le
      unfold Lie.u at hle
      have hi:∀{j:Nat} {cs:Array Value} {t:TypeId},w4.heap[j]?=some (.cells cs t (0,0))→(36==t)=false→w5.heap[j]?=w4.heap[j]?:=fun{j cs t} h ht=>hkk5 j (Array.getElem?_eq_some_iff.1 h).1 (own_type o4 h ht)
      have ho:∀{v:Value} {ys:List Int},OwnS w4 x.u v ys→OwnS Y x.u v ys:=fun{v ys} o=>OwnS.fr (own_blk o fun j hj=>by obtain⟨cur,hc⟩:=own_cellsT o hj;exact hi hc (by kernel_rfl)) fY (fun j (e:j=x.z+2)=>by unfold Lie.u;omega)
      exact⟨boxed_fr ((hi hb4.bp (by kernel_rfl)).trans hb4.bp:Boxed w5 _ _ _) fY (fun(e:W3.heap.size=x.z+2)=>by omega),BoxC.fr ((hi hb4.bk (by kernel_rfl)).trans hb4.bk:BoxC w5 _ _ _) fY (fun(e:W3.heap.size+1=x.z+2)=>by omega),ho hb4.o1,ho hb4.o2,hb4.le⟩
     have HFIN:=Lib.hid (HEND.out Y ((hk4'.trans hko5).trans (by rw[hY];exact KeepsOthers.setCell _ _ _)) (by rw[if_pos he];exact hcY) hbY)
     have HRUN:=Lib.hid hrun;have HY:=Lib.hid hY;have HX4:=Lib.hid hx4
     clear r4 f4 r4' hc4 hb4 hx4 hk4' he b4 o4 hrun hown5 hb5 hko5 hkk5 hb4' fY hcY hbY hY HWB hsz4 hsz5 HCU HBLU HBXU HKOU cpU cdU cmU
     gi_wp2_with (first
      |(refine wpListIn_load_row rfl _ _ rfl y rfl _ #[.int .u8 (tx:Int),.int .i64 td,.int .i64 tn] (0,0) _ HX4.out Tryz.underlying36 rfl szTok ?_)
      |(gi_at_builtin;refine wpListIn_append_run rfl (.tmp 48) (.tmp 50) 60 rfl (.slice B4 sT.length n4) (.slice (some ⟨w4.heap.size,0,none⟩) 1 1) (.slice A' (sT.length+1) c') w5 rfl rfl HRUN.out ?_))
     rw[←HY.out]
     exact⟨HFIN.out.1,by have h1:=HFIN.out.2.1;have h2:Y.heap.size=w5.heap.size:=by {rw[HY.out];simp[World.setCell]};omega,HFIN.out.2.2⟩
    ·have d4:(q4.2==0)=false:=beq_eq_false_iff_ne.2 he
     have HFIN:=Lib.hid (HEND.out w4 hk4' (by rw[if_neg he];exact hc4) hb4)
     clear r4 f4 r4' hc4 hb4 hx4 hk4' he HWB
     gi_wp2
     exact HFIN.out
   case done=>
    rintro D W hD ⟨T2,M2,q3,hcol2,hend⟩ hK
    have hDW:D<W.heap.size:=(Array.getElem?_eq_some_iff.1 hK).1
    have hzt:=x.tok
    have hs5':=HS5.out
    have hs3':=HS3.out
    have hmks:∀D'∈D::x.ds,x.z≤D'∧D'<W.heap.size∧W.heap[D']?=some (.deferred (some [])):=fun D' hD'=>by
     rcases List.mem_cons.1 hD' with e|e
     ·subst e;exact⟨by omega,hDW,hK⟩
     ·obtain⟨d1,d2,d3⟩:=hcol2.mks D' e
      exact⟨d1,by omega,d3⟩
    have hnd2:(D::x.ds).Nodup:=List.nodup_cons.2 ⟨fun e=>by have:=(hcol2.mks D e).2.1;omega,HND.out⟩
    have n1:W.cell? ⟨x0.p,1,none⟩=some (.int .i64 (q3.1:Int)):=by rw[←HE.out.2.1];exact hcol2.rdr.a
    have n2:W.cell? ⟨x0.p,2,none⟩=some (.int .i64 q3.2):=by rw[←HE.out.2.1];exact hcol2.rdr.e
    have o1:wr.cell? ⟨x0.p,1,none⟩=some (.int .i64 (qa:Int)):=by rw[←HE.out.2.1];exact HM1.out
    have o2:wr.cell? ⟨x0.p,2,none⟩=some (.int .i64 0):=by rw[←HE.out.2.1];exact HM2.out
    simp only[Exit.inBlock]
    refine⟨⟨⟨x.w0,x.p,x.A,x.l,x.c,x.z,x.lim,D::x.ds,W.heap.size,x.ok,by omega⟩,T2,M2,q3,k.last,HE.out,⟨by rw[HDS.out];rfl,rfl,rfl,rfl,rfl,rfl,rfl,rfl,rfl,rfl⟩,hcol2.move _ _ _ hmks,Nat.le_refl _,by show x.z+4≤W.heap.size;omega,hnd2,?_⟩,?_⟩
    ·rcases hend with h|⟨h,_⟩
     ·exact .inr (.inl h)
     ·cases hkl:k.last
      ·rw[hkl,if_neg (by decide)]at h;exact .inl ⟨rfl,h⟩
      ·rw[hkl,if_pos rfl]at h;exact .inr (.inr ⟨rfl,h⟩)
    ·show(match (Value.bool k.last),W.cell? ⟨x0.p,1,none⟩,W.cell? ⟨x0.p,2,none⟩with| .bool false,some (.int .i64 a),some (.int .i64 e)=>if e=0 then 8*x0.l+1-a.toNat else 0|_,_,_=>0)<(match (Value.bool false),wr.cell? ⟨x0.p,1,none⟩,wr.cell? ⟨x0.p,2,none⟩with| .bool false,some (.int .i64 a),some (.int .i64 e)=>if e=0 then 8*x0.l+1-a.toNat else 0|_,_,_=>0)
     rw[n1,n2,o1,o2]
     have hqa:qa≤8*x0.l:=by have:=HTG.out.place;rw[HE.out.2.2.2.1]at this;exact this
     have hz0:(if(0:Int)=0 then 8*x0.l+1-(qa:Int).toNat else 0)=8*x0.l+1-qa:=by rw[if_pos rfl,Int.toNat_natCast]
     cases hkl:k.last
     ·show(if q3.2=0 then 8*x0.l+1-(q3.1:Int).toNat else 0)<(if(0:Int)=0 then 8*x0.l+1-(qa:Int).toNat else 0)
      rw[hz0]
      split
      ·rename_i hq3
       rcases hend with h|⟨_,h⟩
       ·exact absurd hq3 h.err
       ·omega
      ·omega
     ·show 0<(if(0:Int)=0 then 8*x0.l+1-(qa:Int).toNat else 0)
      rw[hz0];omega
  ·have hfin:TBad x.lim R T q∨TFin x.lim R T q:=by
    rcases HI.out with h|h|h
    ·exact absurd ⟨h.1,h.2.err⟩ hgo
    ·exact .inl h
    ·exact .inr h.2
   have hmk:=HC.out.mks
   have HLV:Hid (∀tmps:Array Value,tmps.getD 4 undef=.slice B T.length n→LeavesInM Fence.wide 9 Tryz.prog Tryz.f77 tmps (fun e w'=>TkPost x0 R e w') (ds.map markD) .returning wr):=Lib.hid (fun tmps ht=>by
    rw[HDS.out]
    refine leavesM_all (fun W=>Rdr W x.p x.A x.l x.c q∧Fr (At x.p) x.w0 W∧W.ownsRow x.u 36 3 (.slice B T.length n) T.length (toksL T)) x.z ?_ ?_ x.ds wr ⟨HC.out.rdr,HC.out.fr,hown⟩ (fun D hD=>⟨(hmk D hD).1,(hmk D hD).2.2⟩) HND.out
    ·rintro _ W W' row ⟨h1,h2,h3⟩ hg hr
     exact⟨grown_cells h1 hg fun r e=>(hr r e).2,h2.grown hg fun r e=>by rw[x.ok.1];exact(hr r e).1,own_grown h3 hg fun r e=>(hr r e).2⟩
    ·rintro W ⟨h1,h2,h3⟩
     exact⟨_,(by {have ht':tmps[4]?.getD undef=.slice B T.length n:=(by simpa using ht);simp[results,Tryz.results77,go_sem,ht']}),HPX.out W B n h1 h2 h3 hfin⟩)
   cases lb
   ·have hq0:¬q.2=0:=fun e=>hgo ⟨rfl,e⟩
    have d0:(q.2==0)=false:=beq_eq_false_iff_ne.2 hq0
    clear hgo hfin hmk hown hbr
    gi_wp2
    refine HLV.out _ ?_
    rfl
   ·clear hgo hfin hmk hown hbr
    gi_wp2
    refine HLV.out _ ?_
    rfl
end Go.Proofs.YtgokdgcmkcmjeaaGreat
namespace Go.Proofs.YtgokdgcmkcmjeaaGreat
open Go.RowKit Go.ChangeShapes Go.WideShapes Go.ChangeAt Go.Joins
def rdE(A:Option Addr)(l c:Nat)(a e:Int):Array Value:=#[.slice A l c,.int .i64 a,.int .i64 e]
theorem pkeep_err(w:World)(p:Nat)(A:Option Addr)(l c:Nat)(a s:Int)(h:BoxC w p (rdE A l c a s) 69)(hs:s≠0)(x:Int):
  Calls Tryz.prog 56 #[.pointer (some ⟨p,0,none⟩),.int .i64 x] w fun e w'=>e=.returned (.tuple #[])∧w=w':=by
 have c2:w.cell? ⟨p,2,none⟩=some (.int .i64 s):=h.cell.trans rfl
 have d0:(s==0)=false:=beq_eq_false_iff_ne.2 hs
 clear h hs
 go_enter Tryz.func56,Tryz.ntmps56
 go_wp2
 go_end0
 exact⟨rfl,rfl⟩
theorem pwant_err(w:World)(p:Nat)(A:Option Addr)(l c:Nat)(a s:Int)(h:BoxC w p (rdE A l c a s) 69)(hs:s≠0)(b:Bool)(x:Int):
  Calls Tryz.prog 75 #[.pointer (some ⟨p,0,none⟩),.bool b,.int .i64 x] w fun e w'=>e=.returned (.tuple #[])∧w=w':=by
 have HK:=Lib.hid (pkeep_err w p A l c a s h hs x)
 clear h hs
 cases b
 ·go_enter Tryz.func75,Tryz.ntmps75
  go_wp2_with fail
  refine HK.out.mono ?_
  rintro e w2 ⟨rfl,rfl⟩
  go_wp2
  go_end0
  exact⟨rfl,rfl⟩
 ·go_enter Tryz.func75,Tryz.ntmps75
  go_wp2
  go_end0
  exact⟨rfl,rfl⟩
theorem ptokens_err(w:World)(p:Nat)(A:Option Addr)(l c:Nat)(a s:Int)(h:BoxC w p (rdE A l c a s) 69)(hs:s≠0)(m:Int):
  Calls Tryz.prog 77 #[.pointer (some ⟨p,0,none⟩),.int .i64 m] w fun e w'=>e=.returned (.slice none 0 0)∧Below w.heap.size w w':=by
 obtain⟨W1,hW1⟩:∃W1,W1=(((w.alloc (.cells #[.pointer (some ⟨p,0,none⟩)] 112)).alloc (.cells #[.int .i64 m] 3)).alloc (.cells #[.slice none 0 0] 60)).alloc (.cells #[.int .i64 0] 3):=⟨_,rfl⟩
 have hb1:Below w.heap.size w W1:=by rw[hW1];exact((((Below.refl _ _).alloc (Nat.le_refl _) _).alloc (by simp) _).alloc (by simp;omega) _).alloc (by simp;omega) _
 obtain⟨z,hz⟩:∃z,z=w.heap.size:=⟨_,rfl⟩
 have c2:W1.cell? ⟨p,2,none⟩=some (.int .i64 s):=(h.below hb1 h.lt).cell.trans rfl
 have cp:W1.cell? ⟨z,0,none⟩=some (.pointer (some ⟨p,0,none⟩)):=by
  have h1:Boxed W1 z 112 (.pointer (some ⟨p,0,none⟩)):=by rw[hW1,hz];exact(((Boxed.new w _ _).alloc _).alloc _).alloc _
  exact h1.cell
 have cl:W1.cell? ⟨z+2,0,none⟩=some (.slice none 0 0):=by
  have h1:Boxed W1 (z+2) 60 (.slice none 0 0):=by
   have:=(Boxed.new ((w.alloc (.cells #[.pointer (some ⟨p,0,none⟩)] 112)).alloc (.cells #[.int .i64 m] 3)) 60 (.slice none 0 0)).alloc (.cells #[.int .i64 0] 3)
   rw[World.size_alloc,World.size_alloc,←hz]at this
   rw[hW1];exact this
  exact h1.cell
 have d0:(s==0)=false:=beq_eq_false_iff_ne.2 hs
 have HB:=Lib.hid hb1;have HW1:=Lib.hid hW1;have HZ:=Lib.hid hz
 clear h hs hb1 hW1 hz
 go_enter Tryz.func77,Tryz.ntmps77
 go_wp2_with fail
 simp only[Nat.add_assoc,Nat.reduceAdd]
 rw[←HW1.out,←HZ.out]
 go_loopw [7] (fun lv wr=>lv=.bool false∧wr=W1) (fun _ _=>0)
 case atStart=>exact⟨rfl,rfl⟩
 case round=>
  obtain⟨rfl,rfl⟩:=hrel
  go_wp2
  go_ret
  exact⟨rfl,HB.out⟩
def tellE(_g:Nat→Nat)(l:Nat)(a lim:Int)(R:List Nat×Nat×Int):Int:=if asked13 l a≠0 then asked13 l a else if limE lim≠0 then limE lim else R.2.2
def tellO(_g:Nat→Nat)(l:Nat)(a lim:Int)(R:List Nat×Nat×Int):List Nat:=if asked13 l a≠0 then[]else if limE lim≠0 then[]else R.1
def TellP(w:World)(g:Nat→Nat)(l:Nat)(a lim:Int)(R:List Nat×Nat×Int)(e:Ending)(w':World):Prop:=∃(A':Option Addr) (c':Nat) (A2:Option Addr) (l2 c2:Nat) (pl:Int),
 e=.returned (.tuple #[.slice A' (tellO g l a lim R).length c',.agg (rdE A2 l2 c2 pl (tellE g l a lim R))])∧ByR w' w'.heap.size A' (tellO g l a lim R).length c' (lst (tellO g l a lim R))∧NewB w' w.heap.size A' (tellO g l a lim R).length∧Below w.heap.size w w'∧(tellE g l a lim R=0→pl=(R.2.1:Int))
theorem built_rdrE(A:Option Addr)(l c:Nat)(a e:Int):Tryz.prog.built 69 [(0,.slice A l c),(1,.int .i64 a),(2,.int .i64 e)]=some (rdE A l c a e):=by kernel_rfl
theorem rdE_one(A:Option Addr)(l c:Nat)(a e:Int):(rdE A l c a e).all (·.oneCell')=true:=by simp[rdE,Value.oneCell']
theorem cell_rdr2{fn:Func}{p u:Tmp}(h:fn.results=#[.tmp u,.cell p 69])(tmps:Array Value)(w:World)(g:Nat)(cs:Array Value)(hs:cs.size=3)(hp:tmps.getD p undef=.pointer (some ⟨g,0,none⟩))(ht:w.heap[g]?=some (.cells cs 69 (0,0))):
  (results fn tmps).run Tryz.prog w=.ok (.tuple #[tmps.getD u undef,.agg cs]) w:=by
 have hp':tmps[p]?.getD undef=.pointer (some ⟨g,0,none⟩):=by simpa using hp
 have hl:=run_loadVar_row (P:=Tryz.prog) w g 69 69 cs (0,0) _ ht Tryz.underlying69 rfl (szRdr13 hs)
 simp[results,h,hp',asAddr,hl]
theorem ptell_any(w:World)(A:Option Addr)(l c:Nat)(g:Nat→Nat)(hg:RdB w w.heap.size A l g)(a:Int)(ha1: -9223372036854775808≤a)(ha2:a≤9223372036854775807)(hl:l≤1000000)(lim:Int)(hl1: -9223372036854775808≤lim)(hl2:lim≤9223372036854775807):
  Calls Tryz.prog 35 #[.slice A l c,.int .i64 a,.int .i64 lim] w fun e w'=>TellP w g l a lim (toldA g l lim.toNat none [] a.toNat) e w':=by
 obtain⟨R,hR⟩:∃R,R=toldA g l lim.toNat none [] a.toNat:=⟨_,rfl⟩
 rw[←hR]
 obtain⟨h,hh⟩:∃h,h=w.heap.size:=⟨_,rfl⟩
 obtain⟨Z,hZ⟩:∃Z,Z=rdrA none 0 0 (0,0):=⟨_,rfl⟩
 obtain⟨W1,hW1⟩:∃W1,W1=w.alloc (.cells Z 69):=⟨_,rfl⟩
 have hb1:Below h w W1:=by rw[hW1,hh];exact(Below.refl _ _).alloc (Nat.le_refl _) _
 have t1:BoxC W1 h Z 69:=by rw[hW1,hh];exact BoxC.new w _ _
 have s1:W1.heap.size=h+1:=by rw[hW1,hh];simp
 have hzr:∀u:World,(zeroValue 69).run Tryz.prog u=.ok (.agg Z) u:=by rw[hZ];exact(zero_of_info infoRdr).1
 have HZS:Hid (Z.size=3):=Lib.hid (by rw[hZ];rfl)
 have HZE:=Lib.hid hZ
 obtain⟨q,hq⟩:∃q,q=asked13 l a:=⟨_,rfl⟩
 have hask:=pwithin_any W1 A l c a ha1 ha2 hl
 rw[←hq]at hask
 obtain⟨Y,hY⟩:∃Y,Y=rdE A l c a q:=⟨_,rfl⟩
 have HYS:Hid (Y.size=3):=Lib.hid (by rw[hY];rfl)
 have HYO:Hid (Y.all (·.oneCell')=true):=Lib.hid (by rw[hY];exact rdE_one ..)
 have HYB:Hid (Tryz.prog.built 69 [(0,.slice A l c),(1,.int .i64 a),(2,.int .i64 q)]=some Y):=Lib.hid (by rw[hY];exact built_rdrE A l c a q)
 obtain⟨W2,hW2⟩:∃W,W=mkV W1 Z Y 69:=⟨_,rfl⟩
 have hb2:Below W1.heap.size W1 W2:=by rw[hW2];exact mkV_below _ _ _ _
 have y2:BoxC W2 (h+1) Y 69:=by have:=mkV_row W1 Z Y 69;rw[s1]at this;rw[hW2];exact this
 have hB2:Below h w W2:=hb1.trans (hb2.mono (by rw[s1];omega))
 have HT2:=Lib.hid (t1.below hb2 t1.lt)
 have hsz2:W2.heap.size=h+2:=by rw[hW2,mkV_size,s1]
 obtain⟨bb,hbb⟩:∃b:Bool,b=decide (0≤lim∧lim≤131072):=⟨_,rfl⟩
 have HAS:=Lib.hid hask;have HG:=Lib.hid hg;have HH:=Lib.hid hh;have HW1:=Lib.hid hW1;have HS1:=Lib.hid s1;have HQ:=Lib.hid hq
 have HW2:=Lib.hid hW2;have HSZ2:=Lib.hid hsz2;have HB2:=Lib.hid hB2;have HY2:=Lib.hid y2;have HYE:=Lib.hid hY;have HR:=Lib.hid hR
 have HCS:Hid ((0≤lim∧lim≤131072∧bb=true)∨(0≤lim∧¬lim≤131072∧bb=false)∨(¬0≤lim∧bb=false)):=Lib.hid (by
  by_cases a1:0≤lim
  ·by_cases a2:lim≤131072
   ·exact .inl ⟨a1,a2,by rw[hbb];exact decide_eq_true ⟨a1,a2⟩⟩
   ·exact .inr (.inl ⟨a1,a2,by rw[hbb];exact decide_eq_false fun h=>a2 h.2⟩)
  ·exact .inr (.inr ⟨a1,by rw[hbb];exact decide_eq_false fun h=>a1 h.1⟩))
 clear hask hg hh hW1 t1 hb1 s1 hq hW2 hb2 y2 hB2 hsz2 hbb hZ hY hR
 by_cases q0:q=0
 ·have hl3:l≤131072∧0≤a∧a≤8*(l:Int):=by
   have:=asked_ok (L:=l) (a:=a) (HQ.out.symm.trans q0)
   omega
  obtain⟨hl131,ha0,ha8⟩:=hl3
  obtain⟨n,rfl⟩:=Int.eq_ofNat_of_zero_le ha0
  have HRR:Hid (R=toldA g l lim.toNat none [] n):=Lib.hid (by have:=HR.out;rwa[Int.toNat_natCast]at this)
  subst q0
  have HRD:Hid (Rdr W2 (h+1) A l c (n,0)):=Lib.hid (by have:=HY2.out;rw[HYE.out]at this;exact this)
  have HRF:Hid (RdF (At (h+1)) W2 A l g):=Lib.hid (by
   refine⟨(HG.out.below (HH.out▸HB2.out) (Nat.le_refl _)).more (by have:=HB2.out.size;omega),fun b o h0 e hb=>?_⟩
   obtain⟨b',o',e',hbb,_⟩:=HG.out.2 h0
   rw[e]at e';cases e'
   have:b=h+1:=hb
   have:=HH.out;omega)
  have HWA:=Lib.hid fun b=>pwant_any W2 (h+1) A l c (n,0) HRD.out b 2
  rcases HCS.out with⟨z1,z2,hb⟩|⟨z1,z2,hb⟩|⟨z1,hb⟩
  ·obtain⟨m,rfl⟩:=Int.eq_ofNat_of_zero_le z1
   have HRM:Hid (toldA g l m none [] n=R):=Lib.hid (by rw[HRR.out,Int.toNat_natCast])
   have hlimE:limE (m:Int)=0:=by unfold limE;rw[if_neg (by omega)]
   have hTE:tellE g l (n:Int) (m:Int) R=R.2.2:=by unfold tellE;rw[←HQ.out,if_neg (fun h=>h rfl),hlimE,if_neg (fun h=>h rfl)]
   have hTO:tellO g l (n:Int) (m:Int) R=R.1:=by unfold tellO;rw[←HQ.out,if_neg (fun h=>h rfl),hlimE,if_neg (fun h=>h rfl)]
   have HTE:=Lib.hid hTE;have HTO:=Lib.hid hTO
   have d1:decide ((0:Int)≤(m:Int))=true:=decY z1
   have d2:decide ((m:Int)≤131072)=true:=decY z2
   have d2':decide (m≤131072)=true:=decY0 (by omega)
   have hm:m≤131072:=by omega
   have hn8:n≤8*l:=by omega
   clear z1 z2 hlimE hTE hTO hb
   go_enter Tryz.func35,Tryz.ntmps35
   go_wp2_with (first
    |(rw[←HW1.out,←HH.out])
    |fail)
   refine HAS.out.mono ?_
   rintro e w9 ⟨rfl,rfl⟩
   go_wp2_with (first
    |(refine wpList_buildTo rfl 69 #[(0,.tmp 11),(1,.tmp 12),(2,.tmp 15)] rfl (some 16) rfl Y ?_ ?_;focus(simpa[Act.eval]using HYB.out))
    |(refine wpList_store_rowTo rfl _ _ _ rfl rfl W1.heap.size Y rfl rfl 69 Z (heap_alloc_new W1 _) (szRdr13 HYS.out) (by rw[HZS.out,HYS.out]) HYO.out ?_;change wpList _ _ _ _ _ (mkV W1 Z Y 69);rw[←HW2.out,HS1.out])
    |fail)
   refine(HWA.out true).mono ?_
   rintro e w3 ⟨rfl,r3,f3⟩
   have r3':Rdr w3 (h+1) A l c (n,0):=r3
   have ht3:=HT2.out.fr f3 (by show¬h=h+1;omega)
   have hs3:h+2≤w3.heap.size:=by have:=f3.size;have:=HSZ2.out;omega
   obtain⟨x,hx⟩:∃x:Lie,x=⟨w3,h+1,A,l,c,w3.heap.size,m,[],w3.heap.size,⟨rfl,by omega⟩,Nat.le_refl _⟩:=⟨_,rfl⟩
   have htk:=ptokens_x x (by rw[hx]) (by rw[hx]) g n (by rw[hx];exact r3') (by rw[hx];exact HRF.out.fr f3) (by rw[hx];exact hl) (by rw[hx];exact hn8) (by rw[hx];exact hm) R (by rw[hx];exact HRM.out)
   have htk2:Calls Tryz.prog 77 #[.pointer (some ⟨h+1,0,none⟩),.int .i64 (m:Int)] w3 fun e w'=>∃(T:List Tok) (qa:Nat) (qe:Int) (B:Option Addr) (k:Nat),e=.returned (.slice B T.length k)∧TkR w' w'.heap.size B T.length k T∧Rdr w' (h+1) A l c (qa,qe)∧Fr (At (h+1)) w3 w'∧(TBad m R T (qa,qe)∨TFin m R T (qa,qe)):=by
    rw[hx]at htk
    refine htk.mono ?_
    rintro e w' ⟨T,⟨qa,qe⟩,B,k,e1,e2,e3,e4,e5⟩
    exact⟨T,qa,qe,B,k,e1,e2,e3,e4,e5⟩
   have HTK:=Lib.hid htk2;have HT3:=Lib.hid ht3;have HF3:=Lib.hid f3;have HS3:=Lib.hid hs3
   clear r3 r3' f3 ht3 hs3 hx htk htk2 x HWA
   go_wp2_with fail
   refine HTK.out.mono ?_
   rintro e w4 ⟨T,qa,qe,B,k,rfl,tk4,r4,f4,hfin⟩
   have hok:∃M,TOk T M∧M≤m:=by rcases hfin with h|h;exact h.ok;exact h.ok
   obtain⟨M,hM1,hM2⟩:=hok
   have hout:T.foldl stpT []=R.1:=by rcases hfin with h|h;exact h.out;exact h.out
   have herr:qe=R.2.2:=by rcases hfin with h|h;exact h.same;exact h.err.trans h.same.symm
   have hpl:R.2.2=0→qa=R.2.1:=fun e=>by rcases hfin with h|h;exact absurd (herr.trans e) h.err;exact h.place
   have hpy:=play8_any w4 none 0 0 nof13 B T.length k T (ByR.nil _ _ _ (fun j=>by unfold nof13;omega)) tk4 (fun t ht=>by
    obtain⟨m1,m2⟩:=hM1.may t ht
    rcases mayT_is m1 with h|h
    ·exact⟨m2,by omega,by omega⟩
    ·exact⟨m2,by omega,by omega⟩)
   rw[hM1.play (by omega),hout]at hpy
   have ht4:=HT3.out.fr f4 (by show¬h=h+1;omega)
   have HPY:=Lib.hid hpy;have HT4:=Lib.hid ht4;have HR4:=Lib.hid r4;have HF4:=Lib.hid (HF3.out.trans f4);have HER:=Lib.hid herr;have HPL:=Lib.hid hpl
   have HS4:Hid (h+2≤w4.heap.size):=Lib.hid (Nat.le_trans HS3.out f4.size)
   clear tk4 r4 f4 hfin hM1 hM2 hout herr hpl hpy ht4 HTK HT3 HF3
   go_wp2_with fail
   refine HPY.out.mono ?_
   rintro e w5 ⟨A5,n5,c5,rfl,hn5,hby,hb5,hnb⟩
   have ht5:=HT4.out.below hb5 HT4.out.lt
   have hr5:BoxC w5 (h+1) (rdE A l c (qa:Int) qe) 69:=BoxC.below HR4.out hb5 HR4.out.lt
   obtain⟨S,hS⟩:∃S,S=rdE A l c (qa:Int) qe:=⟨_,rfl⟩
   rw[←hS]at hr5
   have HSS:Hid (S.size=3):=Lib.hid (by rw[hS];rfl)
   have HSO:Hid (S.all (·.oneCell')=true):=Lib.hid (by rw[hS];exact rdE_one ..)
   have HX5:Hid (BoxC w5.drew (h+1) S 69):=Lib.hid hr5
   have HX6:Hid (BoxC (w5.drew.setRow h S) (h+1) S 69):=Lib.hid (BoxC.rowO HX5.out (by omega) _)
   have HT5:Hid (BoxC w5.drew h Z 69):=Lib.hid ht5
   have HFIN:Hid (TellP w g l (n:Int) (m:Int) R (.returned (.tuple #[.slice A5 n5 c5,.agg S])) (w5.drew.setRow h S)):=Lib.hid (by
    refine⟨A5,c5,A,l,c,(qa:Int),?_,?_,?_,?_,?_⟩
    ·rw[HTO.out,HTE.out,hS,hn5,HER.out]
    ·rw[HTO.out,←hn5]
     have hd:RdF (At h) w5.drew A5 n5 (lst R.1):=⟨hby.1,fun b o h0 e (hb:b=h)=>by
      obtain⟨g0,o0,cur,e1,e2,_⟩:=hnb h0
      rw[e]at e1;cases e1
      have:=HS4.out;omega⟩
     exact⟨(hd.fr (Fr.row _ h S)).1,hby.2⟩
    ·rw[HTO.out,←hn5]
     intro h0
     obtain⟨g0,o0,cur,e1,e2,e3⟩:=hnb h0
     refine⟨g0,o0,cur,e1,by have:=HS4.out;have:=HH.out;omega,?_⟩
     exact(setRow_other _ _ _ _ (by have:=HS4.out;omega)).trans e3
    ·have b1:Below h w w5:=HB2.out.trans (((HF4.out.below (B:=h) (fun j (e:j=h+1)=>by omega) (by have:=HSZ2.out;omega))).trans (hb5.mono (by have:=HS4.out;omega)))
     rw[←HH.out];exact below_rowC (Below.drew b1) (Nat.le_refl _) _
    ·rw[HTE.out];intro e;rw[HPL.out e])
   clear hn5 hby hb5 hnb ht5 hr5 hS HPY HR4 HF4 HER HPL
   go_wp2_with fail
   refine wp_region_two 3 (twT [fun v=>v=.slice A5 n5 c5,fun v=>v=.agg S,fun v=>v=.slice A5 n5 c5,fun v=>v=undef]) ((w5.drew).setRow h S) (by kernel_rfl) (by kernel_rfl) ?_ ?_
   case refine_1=>
    refine TwAll.cons (fun aa wv hw ha hS Kk Qq hK=>tw_val (k:=0) (s:=3) (by decide) (tab_free rfl) (.slice A5 n5 c5) (by have e:=(show aa.eval (.tmp 9)=.slice A5 n5 c5 from((ha 9 (by kernel_rfl)).trans rfl));unfold execOp;simp only[e];rfl) hK rfl) ?_
    refine TwAll.cons (fun aa wv hw ha hS Kk Qq hK=>tw_val (k:=1) (s:=3) (by decide) (tab_free rfl) (.agg S) (by have e:=(show aa.eval (.tmp 8)=.pointer (some ⟨h+1,0,none⟩)from((ha 8 (by kernel_rfl)).trans rfl));have hx:BoxC wv (h+1) S 69:=by {rcases hw with hw|⟨hw,_,_⟩<;>first|(rw[hw];exact HX5.out)|(rw[hw];exact HX6.out)};have hl:=run_loadVar_row (P:=Tryz.prog) wv (h+1) 69 69 S (0,0) _ hx Tryz.underlying69 rfl (szRdr13 HSS.out);unfold execOp;simp only[e,Instr.loadAt,Instr.sureAddr,Sem.run_bind,Sem.run_pure,Result.andThen_ok,hl]) hK rfl) ?_
    refine TwAll.cons (fun aa wv hw ha hS Kk Qq hK=>tw_val (k:=2) (s:=3) (by decide) (tab_free rfl) (.slice A5 n5 c5) (by have e:=(show aa.eval (.tmp 30)=.slice A5 n5 c5 from hS 0 30 (by kernel_rfl) rfl);unfold execOp;simp only[e];rfl) hK rfl) ?_
    refine TwAll.cons (fun aa wv hw ha hS Kk Qq hK=>tw_store (s:=3) (tab_free rfl) rfl (by have e1:=(show aa.eval (.tmp 7)=.pointer (some ⟨h,0,none⟩)from((ha 7 (by kernel_rfl)).trans rfl));have e2:=(show aa.eval (.tmp 31)=.agg S from hS 1 31 (by kernel_rfl) rfl);have hww:wv=w5.drew:=by {rcases hw with hw|⟨_,hw,_⟩<;>first|exact hw|exact absurd rfl hw};subst hww;have hst:=run_storeVar_row (P:=Tryz.prog) (w5.drew) h 69 69 Z S HT5.out (szRdr13 HSS.out) (by rw[HZS.out,HSS.out]) HSO.out;unfold execOp;simp only[e1,e2,Instr.storeAt,Instr.sureAddr,Sem.run_bind,Sem.run_pure,Result.andThen_ok,hst]) hK rfl) ?_
    exact TwAll.nil
   intro vals hv
   have e3:vals 6=.slice A5 n5 c5:=hv 2 6 rfl
   clear hv
   simp only[List.map_cons,List.map_nil,putL,Act.put,List.setIfInBounds_toArray,List.set_cons_zero,List.set_cons_succ,e3]
   clear e3
   go_wp2
   refine bodyPost_ret (v:=.tuple #[.slice A5 n5 c5,.agg S]) ((cell_rdr2 rfl _ _ h S HSS.out rfl (HT5.out.row S)).trans rfl) rfl HFIN.out
  ·have hlimE:limE lim=2:=by unfold limE;rw[if_pos (by omega)]
   have HTE:Hid (tellE g l (n:Int) lim R=2):=Lib.hid (by unfold tellE;rw[←HQ.out,if_neg (fun h=>h rfl),hlimE,if_pos (by decide)])
   have HTO:Hid (tellO g l (n:Int) lim R=[]):=Lib.hid (by unfold tellO;rw[←HQ.out,if_neg (fun h=>h rfl),hlimE,if_pos (by decide)])
   have d1:decide ((0:Int)≤lim)=true:=decY z1
   have d2:decide (lim≤131072)=false:=decN z2
   clear hlimE
   go_enter Tryz.func35,Tryz.ntmps35
   go_wp2_with (first
    |(rw[←HW1.out,←HH.out])
    |fail)
   refine HAS.out.mono ?_
   rintro e w9 ⟨rfl,rfl⟩
   go_wp2_with (first
    |(refine wpList_buildTo rfl 69 #[(0,.tmp 11),(1,.tmp 12),(2,.tmp 15)] rfl (some 16) rfl Y ?_ ?_;focus(simpa[Act.eval]using HYB.out))
    |(refine wpList_store_rowTo rfl _ _ _ rfl rfl W1.heap.size Y rfl rfl 69 Z (heap_alloc_new W1 _) (szRdr13 HYS.out) (by rw[HZS.out,HYS.out]) HYO.out ?_;change wpList _ _ _ _ _ (mkV W1 Z Y 69);rw[←HW2.out,HS1.out])
    |fail)
   refine(HWA.out false).mono ?_
   rintro e w3 ⟨rfl,r3,f3⟩
   have HX3:Hid (BoxC w3 (h+1) (rdE A l c (n:Int) 2) 69):=Lib.hid r3
   have HT3:=Lib.hid (HT2.out.fr f3 (by show¬h=h+1;omega))
   have HB3:=Lib.hid (HB2.out.trans (f3.below (B:=h) (fun j (e:j=h+1)=>by omega) (by have:=HSZ2.out;omega)))
   have hE:(2:Int)≠0:=by decide
   have HE0:=Lib.hid hE
   clear r3 f3 HWA
   have HTK:=Lib.hid (ptokens_err w3 (h+1) A l c (n:Int) 2 HX3.out hE lim)
   clear hE
   go_wp2_with fail
   refine HTK.out.mono ?_
   rintro e w4 ⟨rfl,hb4⟩
   have hpy:=play8_any w4 none 0 0 nof13 none 0 0 [] (ByR.nil _ _ _ (fun j=>by unfold nof13;omega)) (TkR.nil _ _) (fun t ht=>by simp at ht)
   rw[show plyO nof13 0 []=(0,[])from rfl]at hpy
   have HPY:=Lib.hid hpy;have HT4:=Lib.hid (HT3.out.below hb4 HT3.out.lt);have HX4:=Lib.hid (HX3.out.below hb4 HX3.out.lt)
   have HB4:=Lib.hid (HB3.out.trans (hb4.mono (by have:=HX3.out.lt;omega)))
   clear hpy hb4 HTK
   go_wp2_with fail
   refine HPY.out.mono ?_
   rintro e w5 ⟨A5,n5,c5,rfl,hn5,hby,hb5,hnb⟩
   have hn0:n5=0:=hn5
   subst hn0
   obtain⟨S,hS⟩:∃S,S=rdE A l c (n:Int) 2:=⟨_,rfl⟩
   have hr5:BoxC w5 (h+1) S 69:=by rw[hS];exact HX4.out.below hb5 HX4.out.lt
   have HSS:Hid (S.size=3):=Lib.hid (by rw[hS];rfl)
   have HSO:Hid (S.all (·.oneCell')=true):=Lib.hid (by rw[hS];exact rdE_one ..)
   have HX5:Hid (BoxC w5.drew (h+1) S 69):=Lib.hid hr5
   have HX6:Hid (BoxC (w5.drew.setRow h S) (h+1) S 69):=Lib.hid (BoxC.rowO HX5.out (by omega) _)
   have ht5:BoxC w5 h Z 69:=HT4.out.below hb5 HT4.out.lt
   have HT5:Hid (BoxC w5.drew h Z 69):=Lib.hid ht5
   have HFIN:Hid (TellP w g l (n:Int) lim R (.returned (.tuple #[.slice A5 0 c5,.agg S])) (w5.drew.setRow h S)):=Lib.hid (by
    refine⟨A5,c5,A,l,c,(n:Int),?_,?_,?_,?_,?_⟩
    ·rw[HTO.out,HTE.out,hS];rfl
    ·rw[HTO.out]
     exact⟨⟨hby.1.1,fun h0=>absurd h0 (Nat.lt_irrefl 0)⟩,hby.2⟩
    ·rw[HTO.out];exact NewB.nil _ _ _
    ·have b1:Below h w w5:=HB4.out.trans (hb5.mono (by have:=HX4.out.lt;omega))
     rw[←HH.out];exact below_rowC (Below.drew b1) (Nat.le_refl _) _
    ·rw[HTE.out];intro e;exact absurd e HE0.out)
   clear hn5 hby hb5 hnb hr5 hS HPY HX4 ht5
   go_wp2_with fail
   refine wp_region_two 3 (twT [fun v=>v=.slice A5 0 c5,fun v=>v=.agg S,fun v=>v=.slice A5 0 c5,fun v=>v=undef]) ((w5.drew).setRow h S) (by kernel_rfl) (by kernel_rfl) ?_ ?_
   case refine_1=>
    refine TwAll.cons (fun aa wv hw ha hS Kk Qq hK=>tw_val (k:=0) (s:=3) (by decide) (tab_free rfl) (.slice A5 0 c5) (by have e:=(show aa.eval (.tmp 9)=.slice A5 0 c5 from((ha 9 (by kernel_rfl)).trans rfl));unfold execOp;simp only[e];rfl) hK rfl) ?_
    refine TwAll.cons (fun aa wv hw ha hS Kk Qq hK=>tw_val (k:=1) (s:=3) (by decide) (tab_free rfl) (.agg S) (by have e:=(show aa.eval (.tmp 8)=.pointer (some ⟨h+1,0,none⟩)from((ha 8 (by kernel_rfl)).trans rfl));have hx:BoxC wv (h+1) S 69:=by {rcases hw with hw|⟨hw,_,_⟩<;>first|(rw[hw];exact HX5.out)|(rw[hw];exact HX6.out)};have hl:=run_loadVar_row (P:=Tryz.prog) wv (h+1) 69 69 S (0,0) _ hx Tryz.underlying69 rfl (szRdr13 HSS.out);unfold execOp;simp only[e,Instr.loadAt,Instr.sureAddr,Sem.run_bind,Sem.run_pure,Result.andThen_ok,hl]) hK rfl) ?_
    refine TwAll.cons (fun aa wv hw ha hS Kk Qq hK=>tw_val (k:=2) (s:=3) (by decide) (tab_free rfl) (.slice A5 0 c5) (by have e:=(show aa.eval (.tmp 30)=.slice A5 0 c5 from hS 0 30 (by kernel_rfl) rfl);unfold execOp;simp only[e];rfl) hK rfl) ?_
    refine TwAll.cons (fun aa wv hw ha hS Kk Qq hK=>tw_store (s:=3) (tab_free rfl) rfl (by have e1:=(show aa.eval (.tmp 7)=.pointer (some ⟨h,0,none⟩)from((ha 7 (by kernel_rfl)).trans rfl));have e2:=(show aa.eval (.tmp 31)=.agg S from hS 1 31 (by kernel_rfl) rfl);have hww:wv=w5.drew:=by {rcases hw with hw|⟨_,hw,_⟩<;>first|exact hw|exact absurd rfl hw};subst hww;have hst:=run_storeVar_row (P:=Tryz.prog) (w5.drew) h 69 69 Z S HT5.out (szRdr13 HSS.out) (by rw[HZS.out,HSS.out]) HSO.out;unfold execOp;simp only[e1,e2,Instr.storeAt,Instr.sureAddr,Sem.run_bind,Sem.run_pure,Result.andThen_ok,hst]) hK rfl) ?_
    exact TwAll.nil
   intro vals hv
   have e3:vals 6=.slice A5 0 c5:=hv 2 6 rfl
   clear hv
   simp only[List.map_cons,List.map_nil,putL,Act.put,List.setIfInBounds_toArray,List.set_cons_zero,List.set_cons_succ,e3]
   clear e3
   go_wp2
   refine bodyPost_ret (v:=.tuple #[.slice A5 0 c5,.agg S]) ((cell_rdr2 rfl _ _ h S HSS.out rfl (HT5.out.row S)).trans rfl) rfl HFIN.out
  ·have hlimE:limE lim=2:=by unfold limE;rw[if_pos (by omega)]
   have HTE:Hid (tellE g l (n:Int) lim R=2):=Lib.hid (by unfold tellE;rw[←HQ.out,if_neg (fun h=>h rfl),hlimE,if_pos (by decide)])
   have HTO:Hid (tellO g l (n:Int) lim R=[]):=Lib.hid (by unfold tellO;rw[←HQ.out,if_neg (fun h=>h rfl),hlimE,if_pos (by decide)])
   have d1:decide ((0:Int)≤lim)=false:=decN z1
   clear hlimE
   go_enter Tryz.func35,Tryz.ntmps35
   go_wp2_with (first
    |(rw[←HW1.out,←HH.out])
    |fail)
   refine HAS.out.mono ?_
   rintro e w9 ⟨rfl,rfl⟩
   go_wp2_with (first
    |(refine wpList_buildTo rfl 69 #[(0,.tmp 11),(1,.tmp 12),(2,.tmp 15)] rfl (some 16) rfl Y ?_ ?_;focus(simpa[Act.eval]using HYB.out))
    |(refine wpList_store_rowTo rfl _ _ _ rfl rfl W1.heap.size Y rfl rfl 69 Z (heap_alloc_new W1 _) (szRdr13 HYS.out) (by rw[HZS.out,HYS.out]) HYO.out ?_;change wpList _ _ _ _ _ (mkV W1 Z Y 69);rw[←HW2.out,HS1.out])
    |fail)
   refine(HWA.out false).mono ?_
   rintro e w3 ⟨rfl,r3,f3⟩
   have HX3:Hid (BoxC w3 (h+1) (rdE A l c (n:Int) 2) 69):=Lib.hid r3
   have HT3:=Lib.hid (HT2.out.fr f3 (by show¬h=h+1;omega))
   have HB3:=Lib.hid (HB2.out.trans (f3.below (B:=h) (fun j (e:j=h+1)=>by omega) (by have:=HSZ2.out;omega)))
   have hE:(2:Int)≠0:=by decide
   have HE0:=Lib.hid hE
   clear r3 f3 HWA
   have HTK:=Lib.hid (ptokens_err w3 (h+1) A l c (n:Int) 2 HX3.out hE lim)
   clear hE
   go_wp2_with fail
   refine HTK.out.mono ?_
   rintro e w4 ⟨rfl,hb4⟩
   have hpy:=play8_any w4 none 0 0 nof13 none 0 0 [] (ByR.nil _ _ _ (fun j=>by unfold nof13;omega)) (TkR.nil _ _) (fun t ht=>by simp at ht)
   rw[show plyO nof13 0 []=(0,[])from rfl]at hpy
   have HPY:=Lib.hid hpy;have HT4:=Lib.hid (HT3.out.below hb4 HT3.out.lt);have HX4:=Lib.hid (HX3.out.below hb4 HX3.out.lt)
   have HB4:=Lib.hid (HB3.out.trans (hb4.mono (by have:=HX3.out.lt;omega)))
   clear hpy hb4 HTK
   go_wp2_with fail
   refine HPY.out.mono ?_
   rintro e w5 ⟨A5,n5,c5,rfl,hn5,hby,hb5,hnb⟩
   have hn0:n5=0:=hn5
   subst hn0
   obtain⟨S,hS⟩:∃S,S=rdE A l c (n:Int) 2:=⟨_,rfl⟩
   have hr5:BoxC w5 (h+1) S 69:=by rw[hS];exact HX4.out.below hb5 HX4.out.lt
   have HSS:Hid (S.size=3):=Lib.hid (by rw[hS];rfl)
   have HSO:Hid (S.all (·.oneCell')=true):=Lib.hid (by rw[hS];exact rdE_one ..)
   have HX5:Hid (BoxC w5.drew (h+1) S 69):=Lib.hid hr5
   have HX6:Hid (BoxC (w5.drew.setRow h S) (h+1) S 69):=Lib.hid (BoxC.rowO HX5.out (by omega) _)
   have ht5:BoxC w5 h Z 69:=HT4.out.below hb5 HT4.out.lt
   have HT5:Hid (BoxC w5.drew h Z 69):=Lib.hid ht5
   have HFIN:Hid (TellP w g l (n:Int) lim R (.returned (.tuple #[.slice A5 0 c5,.agg S])) (w5.drew.setRow h S)):=Lib.hid (by
    refine⟨A5,c5,A,l,c,(n:Int),?_,?_,?_,?_,?_⟩
    ·rw[HTO.out,HTE.out,hS];rfl
    ·rw[HTO.out]
     exact⟨⟨hby.1.1,fun h0=>absurd h0 (Nat.lt_irrefl 0)⟩,hby.2⟩
    ·rw[HTO.out];exact NewB.nil _ _ _
    ·have b1:Below h w w5:=HB4.out.trans (hb5.mono (by have:=HX4.out.lt;omega))
     rw[←HH.out];exact below_rowC (Below.drew b1) (Nat.le_refl _) _
    ·rw[HTE.out];intro e;exact absurd e HE0.out)
   clear hn5 hby hb5 hnb hr5 hS HPY HX4 ht5
   go_wp2_with fail
   refine wp_region_two 3 (twT [fun v=>v=.slice A5 0 c5,fun v=>v=.agg S,fun v=>v=.slice A5 0 c5,fun v=>v=undef]) ((w5.drew).setRow h S) (by kernel_rfl) (by kernel_rfl) ?_ ?_
   case refine_1=>
    refine TwAll.cons (fun aa wv hw ha hS Kk Qq hK=>tw_val (k:=0) (s:=3) (by decide) (tab_free rfl) (.slice A5 0 c5) (by have e:=(show aa.eval (.tmp 9)=.slice A5 0 c5 from((ha 9 (by kernel_rfl)).trans rfl));unfold execOp;simp only[e];rfl) hK rfl) ?_
    refine TwAll.cons (fun aa wv hw ha hS Kk Qq hK=>tw_val (k:=1) (s:=3) (by decide) (tab_free rfl) (.agg S) (by have e:=(show aa.eval (.tmp 8)=.pointer (some ⟨h+1,0,none⟩)from((ha 8 (by kernel_rfl)).trans rfl));have hx:BoxC wv (h+1) S 69:=by {rcases hw with hw|⟨hw,_,_⟩<;>first|(rw[hw];exact HX5.out)|(rw[hw];exact HX6.out)};have hl:=run_loadVar_row (P:=Tryz.prog) wv (h+1) 69 69 S (0,0) _ hx Tryz.underlying69 rfl (szRdr13 HSS.out);unfold execOp;simp only[e,Instr.loadAt,Instr.sureAddr,Sem.run_bind,Sem.run_pure,Result.andThen_ok,hl]) hK rfl) ?_
    refine TwAll.cons (fun aa wv hw ha hS Kk Qq hK=>tw_val (k:=2) (s:=3) (by decide) (tab_free rfl) (.slice A5 0 c5) (by have e:=(show aa.eval (.tmp 30)=.slice A5 0 c5 from hS 0 30 (by kernel_rfl) rfl);unfold execOp;simp only[e];rfl) hK rfl) ?_
    refine TwAll.cons (fun aa wv hw ha hS Kk Qq hK=>tw_store (s:=3) (tab_free rfl) rfl (by have e1:=(show aa.eval (.tmp 7)=.pointer (some ⟨h,0,none⟩)from((ha 7 (by kernel_rfl)).trans rfl));have e2:=(show aa.eval (.tmp 31)=.agg S from hS 1 31 (by kernel_rfl) rfl);have hww:wv=w5.drew:=by {rcases hw with hw|⟨_,hw,_⟩<;>first|exact hw|exact absurd rfl hw};subst hww;have hst:=run_storeVar_row (P:=Tryz.prog) (w5.drew) h 69 69 Z S HT5.out (szRdr13 HSS.out) (by rw[HZS.out,HSS.out]) HSO.out;unfold execOp;simp only[e1,e2,Instr.storeAt,Instr.sureAddr,Sem.run_bind,Sem.run_pure,Result.andThen_ok,hst]) hK rfl) ?_
    exact TwAll.nil
   intro vals hv
   have e3:vals 6=.slice A5 0 c5:=hv 2 6 rfl
   clear hv
   simp only[List.map_cons,List.map_nil,putL,Act.put,List.setIfInBounds_toArray,List.set_cons_zero,List.set_cons_succ,e3]
   clear e3
   go_wp2
   refine bodyPost_ret (v:=.tuple #[.slice A5 0 c5,.agg S]) ((cell_rdr2 rfl _ _ h S HSS.out rfl (HT5.out.row S)).trans rfl) rfl HFIN.out
 ·have HTE:Hid (tellE g l a lim R=q):=Lib.hid (by unfold tellE;rw[←HQ.out,if_pos q0])
  have HTO:Hid (tellO g l a lim R=[]):=Lib.hid (by unfold tellO;rw[←HQ.out,if_pos q0])
  have hx2:BoxC W2 (h+1) (rdE A l c a q) 69:=by rw[←HYE.out];exact HY2.out
  have HWA:=Lib.hid fun b=>pwant_err W2 (h+1) A l c a q hx2 q0 b 2
  have HX2:=Lib.hid hx2
  have HE0:=Lib.hid q0
  have hE:=q0
  clear hx2 q0
  rcases HCS.out with⟨z1,z2,hb⟩|⟨z1,z2,hb⟩|⟨z1,hb⟩
  ·have d1:decide ((0:Int)≤lim)=true:=decY z1
   have d2:decide (lim≤131072)=true:=decY z2
   go_enter Tryz.func35,Tryz.ntmps35
   go_wp2_with (first
    |(rw[←HW1.out,←HH.out])
    |fail)
   refine HAS.out.mono ?_
   rintro e w9 ⟨rfl,rfl⟩
   go_wp2_with (first
    |(refine wpList_buildTo rfl 69 #[(0,.tmp 11),(1,.tmp 12),(2,.tmp 15)] rfl (some 16) rfl Y ?_ ?_;focus(simpa[Act.eval]using HYB.out))
    |(refine wpList_store_rowTo rfl _ _ _ rfl rfl W1.heap.size Y rfl rfl 69 Z (heap_alloc_new W1 _) (szRdr13 HYS.out) (by rw[HZS.out,HYS.out]) HYO.out ?_;change wpList _ _ _ _ _ (mkV W1 Z Y 69);rw[←HW2.out,HS1.out])
    |fail)
   refine(HWA.out _).mono ?_
   rintro e w3 ⟨rfl,rfl⟩
   have HX3:=HX2
   have HT3:=HT2
   have HB3:=HB2
   have HTK:=Lib.hid (ptokens_err W2 (h+1) A l c a q HX3.out hE lim)
   clear hE
   go_wp2_with fail
   refine HTK.out.mono ?_
   rintro e w4 ⟨rfl,hb4⟩
   have hpy:=play8_any w4 none 0 0 nof13 none 0 0 [] (ByR.nil _ _ _ (fun j=>by unfold nof13;omega)) (TkR.nil _ _) (fun t ht=>by simp at ht)
   rw[show plyO nof13 0 []=(0,[])from rfl]at hpy
   have HPY:=Lib.hid hpy;have HT4:=Lib.hid (HT3.out.below hb4 HT3.out.lt);have HX4:=Lib.hid (HX3.out.below hb4 HX3.out.lt)
   have HB4:=Lib.hid (HB3.out.trans (hb4.mono (by have:=HX3.out.lt;omega)))
   clear hpy hb4 HTK
   go_wp2_with fail
   refine HPY.out.mono ?_
   rintro e w5 ⟨A5,n5,c5,rfl,hn5,hby,hb5,hnb⟩
   have hn0:n5=0:=hn5
   subst hn0
   obtain⟨S,hS⟩:∃S,S=rdE A l c a q:=⟨_,rfl⟩
   have hr5:BoxC w5 (h+1) S 69:=by rw[hS];exact HX4.out.below hb5 HX4.out.lt
   have HSS:Hid (S.size=3):=Lib.hid (by rw[hS];rfl)
   have HSO:Hid (S.all (·.oneCell')=true):=Lib.hid (by rw[hS];exact rdE_one ..)
   have HX5:Hid (BoxC w5.drew (h+1) S 69):=Lib.hid hr5
   have HX6:Hid (BoxC (w5.drew.setRow h S) (h+1) S 69):=Lib.hid (BoxC.rowO HX5.out (by omega) _)
   have ht5:BoxC w5 h Z 69:=HT4.out.below hb5 HT4.out.lt
   have HT5:Hid (BoxC w5.drew h Z 69):=Lib.hid ht5
   have HFIN:Hid (TellP w g l a lim R (.returned (.tuple #[.slice A5 0 c5,.agg S])) (w5.drew.setRow h S)):=Lib.hid (by
    refine⟨A5,c5,A,l,c,a,?_,?_,?_,?_,?_⟩
    ·rw[HTO.out,HTE.out,hS];rfl
    ·rw[HTO.out]
     exact⟨⟨hby.1.1,fun h0=>absurd h0 (Nat.lt_irrefl 0)⟩,hby.2⟩
    ·rw[HTO.out];exact NewB.nil _ _ _
    ·have b1:Below h w w5:=HB4.out.trans (hb5.mono (by have:=HX4.out.lt;omega))
     rw[←HH.out];exact below_rowC (Below.drew b1) (Nat.le_refl _) _
    ·rw[HTE.out];intro e;exact absurd e HE0.out)
   clear hn5 hby hb5 hnb hr5 hS HPY HX4 ht5
   go_wp2_with fail
   refine wp_region_two 3 (twT [fun v=>v=.slice A5 0 c5,fun v=>v=.agg S,fun v=>v=.slice A5 0 c5,fun v=>v=undef]) ((w5.drew).setRow h S) (by kernel_rfl) (by kernel_rfl) ?_ ?_
   case refine_1=>
    refine TwAll.cons (fun aa wv hw ha hS Kk Qq hK=>tw_val (k:=0) (s:=3) (by decide) (tab_free rfl) (.slice A5 0 c5) (by have e:=(show aa.eval (.tmp 9)=.slice A5 0 c5 from((ha 9 (by kernel_rfl)).trans rfl));unfold execOp;simp only[e];rfl) hK rfl) ?_
    refine TwAll.cons (fun aa wv hw ha hS Kk Qq hK=>tw_val (k:=1) (s:=3) (by decide) (tab_free rfl) (.agg S) (by have e:=(show aa.eval (.tmp 8)=.pointer (some ⟨h+1,0,none⟩)from((ha 8 (by kernel_rfl)).trans rfl));have hx:BoxC wv (h+1) S 69:=by {rcases hw with hw|⟨hw,_,_⟩<;>first|(rw[hw];exact HX5.out)|(rw[hw];exact HX6.out)};have hl:=run_loadVar_row (P:=Tryz.prog) wv (h+1) 69 69 S (0,0) _ hx Tryz.underlying69 rfl (szRdr13 HSS.out);unfold execOp;simp only[e,Instr.loadAt,Instr.sureAddr,Sem.run_bind,Sem.run_pure,Result.andThen_ok,hl]) hK rfl) ?_
    refine TwAll.cons (fun aa wv hw ha hS Kk Qq hK=>tw_val (k:=2) (s:=3) (by decide) (tab_free rfl) (.slice A5 0 c5) (by have e:=(show aa.eval (.tmp 30)=.slice A5 0 c5 from hS 0 30 (by kernel_rfl) rfl);unfold execOp;simp only[e];rfl) hK rfl) ?_
    refine TwAll.cons (fun aa wv hw ha hS Kk Qq hK=>tw_store (s:=3) (tab_free rfl) rfl (by have e1:=(show aa.eval (.tmp 7)=.pointer (some ⟨h,0,none⟩)from((ha 7 (by kernel_rfl)).trans rfl));have e2:=(show aa.eval (.tmp 31)=.agg S from hS 1 31 (by kernel_rfl) rfl);have hww:wv=w5.drew:=by {rcases hw with hw|⟨_,hw,_⟩<;>first|exact hw|exact absurd rfl hw};subst hww;have hst:=run_storeVar_row (P:=Tryz.prog) (w5.drew) h 69 69 Z S HT5.out (szRdr13 HSS.out) (by rw[HZS.out,HSS.out]) HSO.out;unfold execOp;simp only[e1,e2,Instr.storeAt,Instr.sureAddr,Sem.run_bind,Sem.run_pure,Result.andThen_ok,hst]) hK rfl) ?_
    exact TwAll.nil
   intro vals hv
   have e3:vals 6=.slice A5 0 c5:=hv 2 6 rfl
   clear hv
   simp only[List.map_cons,List.map_nil,putL,Act.put,List.setIfInBounds_toArray,List.set_cons_zero,List.set_cons_succ,e3]
   clear e3
   go_wp2
   refine bodyPost_ret (v:=.tuple #[.slice A5 0 c5,.agg S]) ((cell_rdr2 rfl _ _ h S HSS.out rfl (HT5.out.row S)).trans rfl) rfl HFIN.out
  ·have d1:decide ((0:Int)≤lim)=true:=decY z1
   have d2:decide (lim≤131072)=false:=decN z2
   go_enter Tryz.func35,Tryz.ntmps35
   go_wp2_with (first
    |(rw[←HW1.out,←HH.out])
    |fail)
   refine HAS.out.mono ?_
   rintro e w9 ⟨rfl,rfl⟩
   go_wp2_with (first
    |(refine wpList_buildTo rfl 69 #[(0,.tmp 11),(1,.tmp 12),(2,.tmp 15)] rfl (some 16) rfl Y ?_ ?_;focus(simpa[Act.eval]using HYB.out))
    |(refine wpList_store_rowTo rfl _ _ _ rfl rfl W1.heap.size Y rfl rfl 69 Z (heap_alloc_new W1 _) (szRdr13 HYS.out) (by rw[HZS.out,HYS.out]) HYO.out ?_;change wpList _ _ _ _ _ (mkV W1 Z Y 69);rw[←HW2.out,HS1.out])
    |fail)
   refine(HWA.out _).mono ?_
   rintro e w3 ⟨rfl,rfl⟩
   have HX3:=HX2
   have HT3:=HT2
   have HB3:=HB2
   have HTK:=Lib.hid (ptokens_err W2 (h+1) A l c a q HX3.out hE lim)
   clear hE
   go_wp2_with fail
   refine HTK.out.mono ?_
   rintro e w4 ⟨rfl,hb4⟩
   have hpy:=play8_any w4 none 0 0 nof13 none 0 0 [] (ByR.nil _ _ _ (fun j=>by unfold nof13;omega)) (TkR.nil _ _) (fun t ht=>by simp at ht)
   rw[show plyO nof13 0 []=(0,[])from rfl]at hpy
   have HPY:=Lib.hid hpy;have HT4:=Lib.hid (HT3.out.below hb4 HT3.out.lt);have HX4:=Lib.hid (HX3.out.below hb4 HX3.out.lt)
   have HB4:=Lib.hid (HB3.out.trans (hb4.mono (by have:=HX3.out.lt;omega)))
   clear hpy hb4 HTK
   go_wp2_with fail
   refine HPY.out.mono ?_
   rintro e w5 ⟨A5,n5,c5,rfl,hn5,hby,hb5,hnb⟩
   have hn0:n5=0:=hn5
   subst hn0
   obtain⟨S,hS⟩:∃S,S=rdE A l c a q:=⟨_,rfl⟩
   have hr5:BoxC w5 (h+1) S 69:=by rw[hS];exact HX4.out.below hb5 HX4.out.lt
   have HSS:Hid (S.size=3):=Lib.hid (by rw[hS];rfl)
   have HSO:Hid (S.all (·.oneCell')=true):=Lib.hid (by rw[hS];exact rdE_one ..)
   have HX5:Hid (BoxC w5.drew (h+1) S 69):=Lib.hid hr5
   have HX6:Hid (BoxC (w5.drew.setRow h S) (h+1) S 69):=Lib.hid (BoxC.rowO HX5.out (by omega) _)
   have ht5:BoxC w5 h Z 69:=HT4.out.below hb5 HT4.out.lt
   have HT5:Hid (BoxC w5.drew h Z 69):=Lib.hid ht5
   have HFIN:Hid (TellP w g l a lim R (.returned (.tuple #[.slice A5 0 c5,.agg S])) (w5.drew.setRow h S)):=Lib.hid (by
    refine⟨A5,c5,A,l,c,a,?_,?_,?_,?_,?_⟩
    ·rw[HTO.out,HTE.out,hS];rfl
    ·rw[HTO.out]
     exact⟨⟨hby.1.1,fun h0=>absurd h0 (Nat.lt_irrefl 0)⟩,hby.2⟩
    ·rw[HTO.out];exact NewB.nil _ _ _
    ·have b1:Below h w w5:=HB4.out.trans (hb5.mono (by have:=HX4.out.lt;omega))
     rw[←HH.out];exact below_rowC (Below.drew b1) (Nat.le_refl _) _
    ·rw[HTE.out];intro e;exact absurd e HE0.out)
   clear hn5 hby hb5 hnb hr5 hS HPY HX4 ht5
   go_wp2_with fail
   refine wp_region_two 3 (twT [fun v=>v=.slice A5 0 c5,fun v=>v=.agg S,fun v=>v=.slice A5 0 c5,fun v=>v=undef]) ((w5.drew).setRow h S) (by kernel_rfl) (by kernel_rfl) ?_ ?_
   case refine_1=>
    refine TwAll.cons (fun aa wv hw ha hS Kk Qq hK=>tw_val (k:=0) (s:=3) (by decide) (tab_free rfl) (.slice A5 0 c5) (by have e:=(show aa.eval (.tmp 9)=.slice A5 0 c5 from((ha 9 (by kernel_rfl)).trans rfl));unfold execOp;simp only[e];rfl) hK rfl) ?_
    refine TwAll.cons (fun aa wv hw ha hS Kk Qq hK=>tw_val (k:=1) (s:=3) (by decide) (tab_free rfl) (.agg S) (by have e:=(show aa.eval (.tmp 8)=.pointer (some ⟨h+1,0,none⟩)from((ha 8 (by kernel_rfl)).trans rfl));have hx:BoxC wv (h+1) S 69:=by {rcases hw with hw|⟨hw,_,_⟩<;>first|(rw[hw];exact HX5.out)|(rw[hw];exact HX6.out)};have hl:=run_loadVar_row (P:=Tryz.prog) wv (h+1) 69 69 S (0,0) _ hx Tryz.underlying69 rfl (szRdr13 HSS.out);unfold execOp;simp only[e,Instr.loadAt,Instr.sureAddr,Sem.run_bind,Sem.run_pure,Result.andThen_ok,hl]) hK rfl) ?_
    refine TwAll.cons (fun aa wv hw ha hS Kk Qq hK=>tw_val (k:=2) (s:=3) (by decide) (tab_free rfl) (.slice A5 0 c5) (by have e:=(show aa.eval (.tmp 30)=.slice A5 0 c5 from hS 0 30 (by kernel_rfl) rfl);unfold execOp;simp only[e];rfl) hK rfl) ?_
    refine TwAll.cons (fun aa wv hw ha hS Kk Qq hK=>tw_store (s:=3) (tab_free rfl) rfl (by have e1:=(show aa.eval (.tmp 7)=.pointer (some ⟨h,0,none⟩)from((ha 7 (by kernel_rfl)).trans rfl));have e2:=(show aa.eval (.tmp 31)=.agg S from hS 1 31 (by kernel_rfl) rfl);have hww:wv=w5.drew:=by {rcases hw with hw|⟨_,hw,_⟩<;>first|exact hw|exact absurd rfl hw};subst hww;have hst:=run_storeVar_row (P:=Tryz.prog) (w5.drew) h 69 69 Z S HT5.out (szRdr13 HSS.out) (by rw[HZS.out,HSS.out]) HSO.out;unfold execOp;simp only[e1,e2,Instr.storeAt,Instr.sureAddr,Sem.run_bind,Sem.run_pure,Result.andThen_ok,hst]) hK rfl) ?_
    exact TwAll.nil
   intro vals hv
   have e3:vals 6=.slice A5 0 c5:=hv 2 6 rfl
   clear hv
   simp only[List.map_cons,List.map_nil,putL,Act.put,List.setIfInBounds_toArray,List.set_cons_zero,List.set_cons_succ,e3]
   clear e3
   go_wp2
   refine bodyPost_ret (v:=.tuple #[.slice A5 0 c5,.agg S]) ((cell_rdr2 rfl _ _ h S HSS.out rfl (HT5.out.row S)).trans rfl) rfl HFIN.out
  ·have d1:decide ((0:Int)≤lim)=false:=decN z1
   go_enter Tryz.func35,Tryz.ntmps35
   go_wp2_with (first
    |(rw[←HW1.out,←HH.out])
    |fail)
   refine HAS.out.mono ?_
   rintro e w9 ⟨rfl,rfl⟩
   go_wp2_with (first
    |(refine wpList_buildTo rfl 69 #[(0,.tmp 11),(1,.tmp 12),(2,.tmp 15)] rfl (some 16) rfl Y ?_ ?_;focus(simpa[Act.eval]using HYB.out))
    |(refine wpList_store_rowTo rfl _ _ _ rfl rfl W1.heap.size Y rfl rfl 69 Z (heap_alloc_new W1 _) (szRdr13 HYS.out) (by rw[HZS.out,HYS.out]) HYO.out ?_;change wpList _ _ _ _ _ (mkV W1 Z Y 69);rw[←HW2.out,HS1.out])
    |fail)
   refine(HWA.out _).mono ?_
   rintro e w3 ⟨rfl,rfl⟩
   have HX3:=HX2
   have HT3:=HT2
   have HB3:=HB2
   have HTK:=Lib.hid (ptokens_err W2 (h+1) A l c a q HX3.out hE lim)
   clear hE
   go_wp2_with fail
   refine HTK.out.mono ?_
   rintro e w4 ⟨rfl,hb4⟩
   have hpy:=play8_any w4 none 0 0 nof13 none 0 0 [] (ByR.nil _ _ _ (fun j=>by unfold nof13;omega)) (TkR.nil _ _) (fun t ht=>by simp at ht)
   rw[show plyO nof13 0 []=(0,[])from rfl]at hpy
   have HPY:=Lib.hid hpy;have HT4:=Lib.hid (HT3.out.below hb4 HT3.out.lt);have HX4:=Lib.hid (HX3.out.below hb4 HX3.out.lt)
   have HB4:=Lib.hid (HB3.out.trans (hb4.mono (by have:=HX3.out.lt;omega)))
   clear hpy hb4 HTK
   go_wp2_with fail
   refine HPY.out.mono ?_
   rintro e w5 ⟨A5,n5,c5,rfl,hn5,hby,hb5,hnb⟩
   have hn0:n5=0:=hn5
   subst hn0
   obtain⟨S,hS⟩:∃S,S=rdE A l c a q:=⟨_,rfl⟩
   have hr5:BoxC w5 (h+1) S 69:=by rw[hS];exact HX4.out.below hb5 HX4.out.lt
   have HSS:Hid (S.size=3):=Lib.hid (by rw[hS];rfl)
   have HSO:Hid (S.all (·.oneCell')=true):=Lib.hid (by rw[hS];exact rdE_one ..)
   have HX5:Hid (BoxC w5.drew (h+1) S 69):=Lib.hid hr5
   have HX6:Hid (BoxC (w5.drew.setRow h S) (h+1) S 69):=Lib.hid (BoxC.rowO HX5.out (by omega) _)
   have ht5:BoxC w5 h Z 69:=HT4.out.below hb5 HT4.out.lt
   have HT5:Hid (BoxC w5.drew h Z 69):=Lib.hid ht5
   have HFIN:Hid (TellP w g l a lim R (.returned (.tuple #[.slice A5 0 c5,.agg S])) (w5.drew.setRow h S)):=Lib.hid (by
    refine⟨A5,c5,A,l,c,a,?_,?_,?_,?_,?_⟩
    ·rw[HTO.out,HTE.out,hS];rfl
    ·rw[HTO.out]
     exact⟨⟨hby.1.1,fun h0=>absurd h0 (Nat.lt_irrefl 0)⟩,hby.2⟩
    ·rw[HTO.out];exact NewB.nil _ _ _
    ·have b1:Below h w w5:=HB4.out.trans (hb5.mono (by have:=HX4.out.lt;omega))
     rw[←HH.out];exact below_rowC (Below.drew b1) (Nat.le_refl _) _
    ·rw[HTE.out];intro e;exact absurd e HE0.out)
   clear hn5 hby hb5 hnb hr5 hS HPY HX4 ht5
   go_wp2_with fail
   refine wp_region_two 3 (twT [fun v=>v=.slice A5 0 c5,fun v=>v=.agg S,fun v=>v=.slice A5 0 c5,fun v=>v=undef]) ((w5.drew).setRow h S) (by kernel_rfl) (by kernel_rfl) ?_ ?_
   case refine_1=>
    refine TwAll.cons (fun aa wv hw ha hS Kk Qq hK=>tw_val (k:=0) (s:=3) (by decide) (tab_free rfl) (.slice A5 0 c5) (by have e:=(show aa.eval (.tmp 9)=.slice A5 0 c5 from((ha 9 (by kernel_rfl)).trans rfl));unfold execOp;simp only[e];rfl) hK rfl) ?_
    refine TwAll.cons (fun aa wv hw ha hS Kk Qq hK=>tw_val (k:=1) (s:=3) (by decide) (tab_free rfl) (.agg S) (by have e:=(show aa.eval (.tmp 8)=.pointer (some ⟨h+1,0,none⟩)from((ha 8 (by kernel_rfl)).trans rfl));have hx:BoxC wv (h+1) S 69:=by {rcases hw with hw|⟨hw,_,_⟩<;>first|(rw[hw];exact HX5.out)|(rw[hw];exact HX6.out)};have hl:=run_loadVar_row (P:=Tryz.prog) wv (h+1) 69 69 S (0,0) _ hx Tryz.underlying69 rfl (szRdr13 HSS.out);unfold execOp;simp only[e,Instr.loadAt,Instr.sureAddr,Sem.run_bind,Sem.run_pure,Result.andThen_ok,hl]) hK rfl) ?_
    refine TwAll.cons (fun aa wv hw ha hS Kk Qq hK=>tw_val (k:=2) (s:=3) (by decide) (tab_free rfl) (.slice A5 0 c5) (by have e:=(show aa.eval (.tmp 30)=.slice A5 0 c5 from hS 0 30 (by kernel_rfl) rfl);unfold execOp;simp only[e];rfl) hK rfl) ?_
    refine TwAll.cons (fun aa wv hw ha hS Kk Qq hK=>tw_store (s:=3) (tab_free rfl) rfl (by have e1:=(show aa.eval (.tmp 7)=.pointer (some ⟨h,0,none⟩)from((ha 7 (by kernel_rfl)).trans rfl));have e2:=(show aa.eval (.tmp 31)=.agg S from hS 1 31 (by kernel_rfl) rfl);have hww:wv=w5.drew:=by {rcases hw with hw|⟨_,hw,_⟩<;>first|exact hw|exact absurd rfl hw};subst hww;have hst:=run_storeVar_row (P:=Tryz.prog) (w5.drew) h 69 69 Z S HT5.out (szRdr13 HSS.out) (by rw[HZS.out,HSS.out]) HSO.out;unfold execOp;simp only[e1,e2,Instr.storeAt,Instr.sureAddr,Sem.run_bind,Sem.run_pure,Result.andThen_ok,hst]) hK rfl) ?_
    exact TwAll.nil
   intro vals hv
   have e3:vals 6=.slice A5 0 c5:=hv 2 6 rfl
   clear hv
   simp only[List.map_cons,List.map_nil,putL,Act.put,List.setIfInBounds_toArray,List.set_cons_zero,List.set_cons_succ,e3]
   clear e3
   go_wp2
   refine bodyPost_ret (v:=.tuple #[.slice A5 0 c5,.agg S]) ((cell_rdr2 rfl _ _ h S HSS.out rfl (HT5.out.row S)).trans rfl) rfl HFIN.out
end Go.Proofs.YtgokdgcmkcmjeaaGreat
namespace Go.Proofs.YtgokdgcmkcmjeaaGreat
open Go.RowKit
theorem infl_tell{g:Nat→Nat}{L:Nat}{a lim:Int}(hL:asked13 L a=0→a.toNat≤8*L){R:List Nat×Nat×Int}(hR:R=toldA g L lim.toNat none [] a.toNat):
  (tellE g L a lim R≠0→inflR g L a lim=([],0,tellE g L a lim R))∧(tellE g L a lim R=0→inflR g L a lim=(tellO g L a lim R,R.2.1,0)):=by
 unfold tellE tellO inflR
 by_cases h1:asked13 L a≠0
 ·rw[if_pos h1,if_pos h1,if_pos h1];exact⟨fun _=>rfl,fun h=>absurd h h1⟩
 ·rw[if_neg h1,if_neg h1,if_neg h1]
  by_cases h2:limE lim≠0
  ·rw[if_pos h2,if_pos h2,if_pos h2];exact⟨fun _=>rfl,fun h=>absurd h h2⟩
  ·rw[if_neg h2,if_neg h2,if_neg h2]
   rw[told_A (hL (by omega)) (mu_le _ _ _),←hR]
   unfold inflT
   by_cases h3:R.2.2≠0
   ·rw[if_pos h3];exact⟨fun _=>rfl,fun h=>absurd h h3⟩
   ·rw[if_neg h3];exact⟨fun h=>absurd h h3,fun _=>rfl⟩
theorem pref_tell{g:Nat→Nat}{L:Nat}{lim:Int}{R:List Nat×Nat×Int}(hR:R=toldA g L lim.toNat none [] 0):
  prefR g L lim=if tellE g L 0 lim R≠0∧tellE g L 0 lim R≠10 then([],tellE g L 0 lim R)else(tellO g L 0 lim R,0):=by
 unfold tellE tellO prefR
 by_cases h1:asked13 L 0≠0
 ·have h4:asked13 L 0≠10:=by unfold asked13;split<;>(try split)<;>decide
  rw[if_pos h1,if_pos h1,if_pos h1,if_pos ⟨h1,h4⟩]
 ·rw[if_neg h1,if_neg h1,if_neg h1]
  by_cases h2:limE lim≠0
  ·have h4:limE lim≠10:=by unfold limE;split<;>decide
   rw[if_pos h2,if_pos h2,if_pos h2,if_pos ⟨h2,h4⟩]
  ·rw[if_neg h2,if_neg h2,if_neg h2]
   rw[told_A (Nat.zero_le _) (mu_le _ _ _),←hR]
   unfold prefT;rfl
def InfP(w:World)(r:List Nat×Nat×Int)(e:Ending)(w':World):Prop:=∃(A':Option Addr) (c':Nat),e=.returned (.tuple #[.slice A' r.1.length c',.int .i64 (r.2.1:Int),.int .i64 r.2.2])∧ByR w' w'.heap.size A' r.1.length c' (lst r.1)∧NewB w' w.heap.size A' r.1.length∧Below w.heap.size w w'
def PreP(w:World)(r:List Nat×Int)(e:Ending)(w':World):Prop:=∃(A':Option Addr) (c':Nat),e=.returned (.tuple #[.slice A' r.1.length c',.int .i64 r.2])∧ByR w' w'.heap.size A' r.1.length c' (lst r.1)∧NewB w' w.heap.size A' r.1.length∧Below w.heap.size w w'
theorem lst_nil_lt(j:Nat):lst [] j<256:=by unfold lst;simp
theorem pinfl_any(w:World)(A:Option Addr)(l c:Nat)(g:Nat→Nat)(hg:RdB w w.heap.size A l g)(a:Int)(ha1: -9223372036854775808≤a)(ha2:a≤9223372036854775807)(hl:l≤1000000)(lim:Int)(hl1: -9223372036854775808≤lim)(hl2:lim≤9223372036854775807):
  Calls Tryz.prog 15 #[.slice A l c,.int .i64 a,.int .i64 lim] w fun e w'=>InfP w (inflR g l a lim) e w':=by
 have hT:=ptell_any w A l c g hg a ha1 ha2 hl lim hl1 hl2
 obtain⟨R,hR⟩:∃R,R=toldA g l lim.toNat none [] a.toNat:=⟨_,rfl⟩
 obtain⟨i1,i2⟩:=infl_tell (g:=g) (L:=l) (a:=a) (lim:=lim) (fun h=>(asked_ok h).2.2) hR
 rw[←hR]at hT
 unfold TellP at hT
 obtain⟨E,hE⟩:∃E,E=tellE g l a lim R:=⟨_,rfl⟩
 obtain⟨O,hO⟩:∃E,E=tellO g l a lim R:=⟨_,rfl⟩
 rw[←hE,←hO]at hT
 rw[←hE]at i1 i2
 rw[←hO]at i2
 obtain⟨I,hI⟩:∃I,I=inflR g l a lim:=⟨_,rfl⟩
 rw[←hI]at i1 i2⊢
 have HT:=Lib.hid hT;have I1:=Lib.hid i1;have I2:=Lib.hid i2
 obtain⟨Z,hZ⟩:∃Z,Z=rdrA none 0 0 (0,0):=⟨_,rfl⟩
 have hzr:∀u:World,(zeroValue 69).run Tryz.prog u=.ok (.agg Z) u:=by rw[hZ];exact(zero_of_info infoRdr).1
 have HZS:Hid (Z.size=3):=Lib.hid (by rw[hZ];rfl)
 clear hT i1 i2 hE hO hR hg hI hZ
 go_enter Tryz.func15,Tryz.ntmps15
 go_wp2_with fail
 refine HT.out.mono ?_
 rintro e w2 ⟨A',c',A2,l2,c2,pl,rfl,hby,hnb,hb2,hpl⟩
 obtain⟨S,hS⟩:∃S,S=rdE A2 l2 c2 pl E:=⟨_,rfl⟩
 rw[←hS]
 have HSS:Hid (S.size=3):=Lib.hid (by rw[hS];rfl)
 have HSO:Hid (S.all (·.oneCell')=true):=Lib.hid (by rw[hS];exact rdE_one ..)
 obtain⟨t,ht⟩:∃t,t=w2.heap.size:=⟨_,rfl⟩
 obtain⟨W3,hW3⟩:∃W,W=mkV w2 Z S 69:=⟨_,rfl⟩
 have hb3:Below w2.heap.size w2 W3:=by rw[hW3];exact mkV_below _ _ _ _
 have x3:BoxC W3 t S 69:=by rw[hW3,ht];exact mkV_row w2 Z S _
 have ce:W3.cell? ⟨t,2,none⟩=some (.int .i64 E):=by rw[x3.cell,hS];rfl
 have ca:W3.cell? ⟨t,1,none⟩=some (.int .i64 pl):=by rw[x3.cell,hS];rfl
 have HBY:=Lib.hid (hby.below hb3 (Nat.le_refl _)|>.more hb3.size)
 have HNB:Hid (NewB W3 w.heap.size A' O.length):=Lib.hid (fun h0=>by
  obtain⟨g0,o0,cur,e1,e2,e3⟩:=hnb h0
  exact⟨g0,o0,cur,e1,e2,(hb3.block g0 (Array.getElem?_eq_some_iff.1 e3).1).trans e3⟩)
 have HB3:=Lib.hid (hb2.trans (hb3.mono hb2.size));have HW3:=Lib.hid hW3;have HTT:=Lib.hid ht;have HPL:=Lib.hid hpl
 clear hby hnb hb2 hpl hS ht hW3 hb3 x3 HT
 by_cases he:E=0
 ·have d0:(E==0)=true:=by rw[he];rfl
  have d1:(E !=0)=false:=by simp[bne,d0]
  have HI:=Lib.hid (I2.out he)
  have hpl:=HPL.out he
  subst hpl
  clear he
  go_wp2_with (first
   |(refine wpList_store_rowTo rfl _ _ _ rfl rfl w2.heap.size S rfl rfl 69 Z (heap_alloc_new w2 _) (szRdr13 HSS.out) (by rw[HZS.out,HSS.out]) HSO.out ?_;change wpList _ _ _ _ _ (mkV w2 Z S 69);rw[←HW3.out,←HTT.out])
   |fail)
  go_quiet (fail)
  go_wp2
  go_ret3
  have hb:=below_drawN HB3.out nq
  rw[HI.out]
  exact⟨A',c',rfl,HBY.out.below (below_drawN (Below.refl _ W3) nq) (Nat.le_refl _),HNB.out,hb⟩
 ·have d0:(E==0)=false:=beq_eq_false_iff_ne.2 he
  have d1:(E !=0)=true:=by simp[bne,d0]
  have HI:=Lib.hid (I1.out he)
  clear he
  go_wp2_with (first
   |(refine wpList_store_rowTo rfl _ _ _ rfl rfl w2.heap.size S rfl rfl 69 Z (heap_alloc_new w2 _) (szRdr13 HSS.out) (by rw[HZS.out,HSS.out]) HSO.out ?_;change wpList _ _ _ _ _ (mkV w2 Z S 69);rw[←HW3.out,←HTT.out])
   |fail)
  go_quiet (fail)
  go_wp2
  go_ret3
  have hb:=below_drawN HB3.out nq
  rw[HI.out]
  exact⟨none,0,rfl,ByR.nil _ _ _ lst_nil_lt,NewB.nil _ _ _,hb⟩
theorem ppref_any(w:World)(A:Option Addr)(l c:Nat)(g:Nat→Nat)(hg:RdB w w.heap.size A l g)(hl:l≤1000000)(lim:Int)(hl1: -9223372036854775808≤lim)(hl2:lim≤9223372036854775807):
  Calls Tryz.prog 17 #[.slice A l c,.int .i64 lim] w fun e w'=>PreP w (prefR g l lim) e w':=by
 have hT:=ptell_any w A l c g hg 0 (by decide) (by decide) hl lim hl1 hl2
 obtain⟨R,hR⟩:∃R,R=toldA g l lim.toNat none [] 0:=⟨_,rfl⟩
 have i1:=pref_tell (g:=g) (L:=l) (lim:=lim) hR
 rw[show(0:Int).toNat=0 from rfl,←hR]at hT
 unfold TellP at hT
 obtain⟨E,hE⟩:∃E,E=tellE g l 0 lim R:=⟨_,rfl⟩
 obtain⟨O,hO⟩:∃E,E=tellO g l 0 lim R:=⟨_,rfl⟩
 rw[←hE,←hO]at hT
 rw[←hE,←hO]at i1
 obtain⟨I,hI⟩:∃I,I=prefR g l lim:=⟨_,rfl⟩
 rw[←hI]at i1⊢
 have HT:=Lib.hid hT;have I1:=Lib.hid i1
 obtain⟨Z,hZ⟩:∃Z,Z=rdrA none 0 0 (0,0):=⟨_,rfl⟩
 have hzr:∀u:World,(zeroValue 69).run Tryz.prog u=.ok (.agg Z) u:=by rw[hZ];exact(zero_of_info infoRdr).1
 have HZS:Hid (Z.size=3):=Lib.hid (by rw[hZ];rfl)
 clear hT i1 hE hO hR hg hI hZ
 go_enter Tryz.func17,Tryz.ntmps17
 go_wp2_with fail
 refine HT.out.mono ?_
 rintro e w2 ⟨A',c',A2,l2,c2,pl,rfl,hby,hnb,hb2,hpl⟩
 obtain⟨S,hS⟩:∃S,S=rdE A2 l2 c2 pl E:=⟨_,rfl⟩
 rw[←hS]
 have HSS:Hid (S.size=3):=Lib.hid (by rw[hS];rfl)
 have HSO:Hid (S.all (·.oneCell')=true):=Lib.hid (by rw[hS];exact rdE_one ..)
 obtain⟨t,ht⟩:∃t,t=w2.heap.size:=⟨_,rfl⟩
 obtain⟨W3,hW3⟩:∃W,W=mkV w2 Z S 69:=⟨_,rfl⟩
 have hb3:Below w2.heap.size w2 W3:=by rw[hW3];exact mkV_below _ _ _ _
 have x3:BoxC W3 t S 69:=by rw[hW3,ht];exact mkV_row w2 Z S _
 have ce:W3.cell? ⟨t,2,none⟩=some (.int .i64 E):=by rw[x3.cell,hS];rfl
 have ca:W3.cell? ⟨t,1,none⟩=some (.int .i64 pl):=by rw[x3.cell,hS];rfl
 have HBY:=Lib.hid (hby.below hb3 (Nat.le_refl _)|>.more hb3.size)
 have HNB:Hid (NewB W3 w.heap.size A' O.length):=Lib.hid (fun h0=>by
  obtain⟨g0,o0,cur,e1,e2,e3⟩:=hnb h0
  exact⟨g0,o0,cur,e1,e2,(hb3.block g0 (Array.getElem?_eq_some_iff.1 e3).1).trans e3⟩)
 have HB3:=Lib.hid (hb2.trans (hb3.mono hb2.size));have HW3:=Lib.hid hW3;have HTT:=Lib.hid ht;have HPL:=Lib.hid hpl
 clear hby hnb hb2 hpl hS ht hW3 hb3 x3 HT
 by_cases he:E=0
 ·have d0:(E==0)=true:=by rw[he];rfl
  have d1:(E !=0)=false:=by simp[bne,d0]
  have HI:Hid (I=(O,0)):=Lib.hid (by rw[I1.out,if_neg (fun h=>h.1 he)])
  clear he
  go_wp2_with (first
   |(refine wpList_store_rowTo rfl _ _ _ rfl rfl w2.heap.size S rfl rfl 69 Z (heap_alloc_new w2 _) (szRdr13 HSS.out) (by rw[HZS.out,HSS.out]) HSO.out ?_;change wpList _ _ _ _ _ (mkV w2 Z S 69);rw[←HW3.out,←HTT.out])
   |fail)
  go_ret2
  rw[HI.out]
  exact⟨A',c',rfl,HBY.out,HNB.out,HB3.out⟩
 ·have d0:(E==0)=false:=beq_eq_false_iff_ne.2 he
  have d1:(E !=0)=true:=by simp[bne,d0]
  by_cases h10:E=10
  ·have d2:(E==10)=true:=by rw[h10];rfl
   have d3:(E !=10)=false:=by simp[bne,d2]
   have HI:Hid (I=(O,0)):=Lib.hid (by rw[I1.out,if_neg (fun h=>h.2 h10)])
   clear he h10
   go_wp2_with (first
   |(refine wpList_store_rowTo rfl _ _ _ rfl rfl w2.heap.size S rfl rfl 69 Z (heap_alloc_new w2 _) (szRdr13 HSS.out) (by rw[HZS.out,HSS.out]) HSO.out ?_;change wpList _ _ _ _ _ (mkV w2 Z S 69);rw[←HW3.out,←HTT.out])
   |fail)
   go_ret2
   rw[HI.out]
   exact⟨A',c',rfl,HBY.out,HNB.out,HB3.out⟩
  ·have d2:(E==10)=false:=beq_eq_false_iff_ne.2 h10
   have d3:(E !=10)=true:=by simp[bne,d2]
   have HI:Hid (I=([],E)):=Lib.hid (by rw[I1.out,if_pos ⟨he,h10⟩])
   clear he h10
   go_wp2_with (first
   |(refine wpList_store_rowTo rfl _ _ _ rfl rfl w2.heap.size S rfl rfl 69 Z (heap_alloc_new w2 _) (szRdr13 HSS.out) (by rw[HZS.out,HSS.out]) HSO.out ?_;change wpList _ _ _ _ _ (mkV w2 Z S 69);rw[←HW3.out,←HTT.out])
   |fail)
   go_quiet (fail)
   go_wp2
   go_ret2
   have hb:=below_drawN HB3.out nq
   rw[HI.out]
   exact⟨none,0,rfl,ByR.nil _ _ _ lst_nil_lt,NewB.nil _ _ _,hb⟩
end Go.Proofs.YtgokdgcmkcmjeaaGreat
namespace Go.Proofs.YtgokdgcmkcmjeaaGreat
open Go.RowKit
theorem rgreat13_any(w:World)(A:Option Addr)(l c:Nat):
  Calls Tryz.prog 7 #[.slice A l c] w fun e w'=>e=.returned (.bool (decide (400<l)))∧w=w':=by
 by_cases y0:400<l
 ·have d1:decide ((400:Int)<(l:Int))=true:=decY (by omega)
  have d2:decide (400<l)=true:=decY0 y0
  rw[d2]
  clear y0
  go_enter Tryz.func7,Tryz.ntmps7
  go_wp2
  go_ret
  exact⟨rfl,rfl⟩
 ·have d1:decide ((400:Int)<(l:Int))=false:=decN (by omega)
  have d2:decide (400<l)=false:=decN0 y0
  rw[d2]
  clear y0
  go_enter Tryz.func7,Tryz.ntmps7
  go_wp2
  go_ret
  exact⟨rfl,rfl⟩
end Go.Proofs.YtgokdgcmkcmjeaaGreat
namespace Go.Proofs.YtgokdgcmkcmjeaaGreat
open Go.RowKit Go.ChangeShapes Go.WideShapes Go.ChangeAt Go.Joins
theorem infl_as{w:World}{A:Option Addr}{l c:Nat}{g:Nat→Nat}{a lim:Int}(hg:RdB w w.heap.size A l g)(ha1: -9223372036854775808≤a)(ha2:a≤9223372036854775807)(hl:l≤1000000)(hl1: -9223372036854775808≤lim)(hl2:lim≤9223372036854775807){X:List Nat}{n p:Nat}{E:Int}(hr:inflR g l a lim=(X,p,E))(hn:n=X.length):
  Calls Tryz.prog 15 #[.slice A l c,.int .i64 a,.int .i64 lim] w fun e w'=>∃A' c',e=.returned (.tuple #[.slice A' n c',.int .i64 (p:Int),.int .i64 E])∧ByR w' w'.heap.size A' n c' (lst X)∧Below w.heap.size w w':=by
 refine(pinfl_any w A l c g hg a ha1 ha2 hl lim hl1 hl2).mono ?_
 rintro e w' h
 rw[hr]at h
 subst hn
 obtain⟨A',c',h1,h2,_,h3⟩:=h
 exact⟨A',c',h1,h2,h3⟩
theorem pref_as{w:World}{A:Option Addr}{l c:Nat}{g:Nat→Nat}{lim:Int}(hg:RdB w w.heap.size A l g)(hl:l≤1000000)(hl1: -9223372036854775808≤lim)(hl2:lim≤9223372036854775807){X:List Nat}{n:Nat}{E:Int}(hr:prefR g l lim=(X,E))(hn:n=X.length):
  Calls Tryz.prog 17 #[.slice A l c,.int .i64 lim] w fun e w'=>∃A' c',e=.returned (.tuple #[.slice A' n c',.int .i64 E])∧ByR w' w'.heap.size A' n c' (lst X)∧Below w.heap.size w w':=by
 refine(ppref_any w A l c g hg hl lim hl1 hl2).mono ?_
 rintro e w' h
 rw[hr]at h
 subst hn
 obtain⟨A',c',h1,h2,_,h3⟩:=h
 exact⟨A',c',h1,h2,h3⟩
theorem decT{p:Prop}[Decidable p](h:p):decide p=true:=by simp[h]
theorem decF{p:Prop}[Decidable p](h:¬p):decide p=false:=by simp[h]
end Go.Proofs.YtgokdgcmkcmjeaaGreat
