/-
  Words and walks.
-/
import Derived.Test.YtcmpmighjglnpaaGreattaan
import Derived.Test.YtcmpmighjglnpaaGreattaaq
import Derived.Test.YtcmpmighjglnpaaGreattaar
import Derived.Test.YtcmpmighjglnpaaGreattaas
set_option maxRecDepth 100000
set_option maxHeartbeats 16000000
namespace Go.Proofs.YtcmpmighjglnpaaGreat
open Go.RowKit Go.Shelf Go.ChangeShapes Go.WideShapes Go.ChangeAt Go.Joins
attribute [local go_sem] Oper.semAt_some
attribute [local simp] wide_fn
theorem I1y.own(x:Lie)(k:Blk13)(c1 c2:Nat→Int)(v1 v2:Value)(y1 y2:List Int)(b B:Nat)(hB:x.top≤B):OwnFrom B (I1y x k c1 c2 v1 v2 y1 y2 b):=fun _ _ _ _ ⟨h1,h2,h3⟩ hg hr=>⟨h1.grown hg fun r e=>⟨Nat.le_trans hB (hr r e).1,(hr r e).2⟩,h2.grown hg fun r e=>(hr r e).2,h3⟩
theorem IeY.own(g:Nat→Nat)(x:Lie)(k:Blk13)(R:List Nat×Nat×Int)(lo B:Nat)(hB:x.top≤B):OwnFrom B (fun _:Unit=>IeY g x k R lo):=fun _ _ _ _ ⟨T,M,q,h1,h2⟩ hg hr=>⟨T,M,q,h1.grown hg fun r e=>⟨Nat.le_trans hB (hr r e).1,(hr r e).2⟩,h2⟩
theorem IsY.own(g:Nat→Nat)(x:Lie)(k:Blk13)(c1 c2:Nat→Int)(v1 v2:Value)(y1 y2:List Int)(b:Nat)(Gd:Prop)(R:List Nat×Nat×Int)(lo B:Nat)(hB:x.top≤B):OwnFrom B (fun _:Unit=>IsY g x k c1 c2 v1 v2 y1 y2 b Gd R lo):=fun _ _ _ _ ⟨T,M,q,left,h1,h2,h3⟩ hg hr=>⟨T,M,q,left,h1.grown hg fun r e=>⟨Nat.le_trans hB (hr r e).1,(hr r e).2⟩,h2.grown hg fun r e=>(hr r e).2,h3⟩
theorem steps_in(n:Nat)(p:Nat)(V:Array Value)(w:World):
  CallsIn Fence.wide n Tryz.prog 82 #[.pointer (some ⟨p,0,none⟩),.agg V] w fun e w'=>e=.returned (.func (.func 102) #[] #[.pointer (some ⟨w.heap.size,0,none⟩),.pointer (some ⟨w.heap.size+1,0,none⟩)])∧
   w'=(w.alloc (.cells #[.pointer (some ⟨p,0,none⟩)] 123)).alloc (.cells V 28):=by
 refine callsIn_of_wp Tryz.func82 rfl trivial ?_ rfl
 simp only[Tryz.ntmps82,List.size_toArray,List.length_cons,List.length_nil,Nat.reduceAdd,Nat.reduceSub,Array.replicate_succ,Array.replicate_zero,List.push_toArray,List.append_toArray,List.nil_append,List.cons_append]
 gi_wp2
 go_ret
 exact⟨rfl,rfl⟩
theorem own_cellsT{w:World}{base sz n j:Nat}{e:TypeId}{v:Value}{xs:List Value}(h:w.ownsRow base e sz v n xs)(hj:v.ownBlock=some j):∃cur,w.heap[j]?=some (.cells cur e (0,0)):=by
 rcases h.2 with⟨rfl,_⟩|⟨g,cap,cur,rfl,hg,hh,_⟩
 ·simp[Value.ownBlock]at hj
 ·simp[Value.ownBlock]at hj
  subst hj;exact⟨cur,hh⟩
theorem fr_others{p:Nat}{W W':World}{cs:Array Value}{t:TypeId}(h:BoxC W p cs t)(f:Fr (At p) W W'):KeepsOthers W W':=⟨f.size,fun k o hk hc=>(f.block k (Array.getElem?_eq_some_iff.1 hk).1 (fun(e:k=p)=>by
 subst e
 have h':W.heap[k]?=some (.cells cs t (0,0)):=h
 rw[h']at hk;cases hk;cases hc)).trans hk⟩
theorem Fr.low{S:Nat→Prop}{w a b:World}{B:Nat}(h:Fr S w a)(k:Below B a b)(hB:w.heap.size≤B):Fr S w b:=⟨k.os.trans h.os,k.tape.trans h.tape,k.output.trans h.output,Nat.le_trans h.size k.size,fun i hi hS=>(k.block i (by omega)).trans (h.block i hi hS)⟩
def markD(D:Nat):Deferred:={target:=.collected D,args:=#[]}
theorem leavesM_all{F:Fence}{n:Nat}{P:Program}{fn:Func}{tmps:Array Value}{R:Ending→World→Prop}(I:World→Prop)(B:Nat)(hI:OwnFrom B (fun _:Unit=>I))(hR:∀W,I W→LeavesIn F n P fn tmps R [] .returning W):
  ∀(Ds:List Nat) (W:World),I W→(∀D∈Ds,B≤D∧W.heap[D]?=some (.deferred (some [])))→Ds.Nodup→LeavesInM F n P fn tmps R (Ds.map markD) .returning W
 |[],W,hi,_,_=>hR W hi
 |D::Ds,W,hi,hm,hn=>by
  obtain⟨h1,h2⟩:=hm D (by simp)
  obtain⟨hn1,hn2⟩:=List.nodup_cons.1 hn
  refine⟨by simp,.inl ⟨D,_,rfl,run_takeDeferred h2,?_⟩⟩
  refine leavesM_all I B hI hR Ds _ (hI.putObj (s:=()) _ hi h1 h2 rfl) (fun D' hD'=>?_) hn2
  obtain⟨e1,e2⟩:=hm D' (by simp[hD'])
  exact⟨e1,(World.putObj_heap_other (by intro e;apply hn1;first|(rw[e];exact hD')|(rw[←e];exact hD'))).trans e2⟩
theorem tmps_lit(tm:Array Value)(h:tm.size=53):∃u:Nat→Value,tm=#[u 0,u 1,u 2,u 3,u 4,u 5,u 6,u 7,u 8,u 9,u 10,u 11,u 12,u 13,u 14,u 15,u 16,u 17,u 18,u 19,u 20,u 21,u 22,u 23,u 24,u 25,u 26,u 27,u 28,u 29,u 30,u 31,u 32,u 33,u 34,u 35,u 36,u 37,u 38,u 39,u 40,u 41,u 42,u 43,u 44,u 45,u 46,u 47,u 48,u 49,u 50,u 51,u 52]∧∀i,i<53→tm[i]?=some (u i):=by
 refine⟨fun i=>tm.getD i undef,?_,fun i hi=>?_⟩
 ·have e:tm=((List.range 53).map fun i=>tm.getD i undef).toArray:=by
   apply Array.ext
   ·simp[h]
   ·intro i h1 h2
    simp[Array.getD,h1]
  exact e.trans rfl
 ·rw[Array.getElem?_eq_getElem (by omega)]
  simp[Array.getD,h,hi]
structure FrT (x:Lie) (lb:Bool) (a:Act):Prop where
 df:a.defers=x.ds.map markD
 sz:a.tmps.size=53
 t0:a.tmps[0]?=some (.pointer (some ⟨x.p,0,none⟩))
 t1:a.tmps[1]?=some (.int .i64 (x.lim:Int))
 t2:a.tmps[2]?=some (.pointer (some ⟨x.z,0,none⟩))
 t3:a.tmps[3]?=some (.pointer (some ⟨x.z+1,0,none⟩))
 t4:a.tmps[4]?=some (.slice none 0 0)
 t5:a.tmps[5]?=some (.pointer (some ⟨x.z+2,0,none⟩))
 t6:a.tmps[6]?=some (.pointer (some ⟨x.z+3,0,none⟩))
 t7:a.tmps[7]?=some (.bool lb)
def CoT(g:Nat→Nat)(R:List Nat×Nat×Int)(x:Lie)(T:List Tok)(M:Nat)(q:Rz)(lb:Bool)(W:World):Prop:=Col x T M q W∧x.top≤W.heap.size∧x.z+4≤W.heap.size∧x.ds.Nodup∧((lb=false∧TGo g x.l x.lim R T M q none)∨TBad x.lim R T q∨(lb=true∧TFin x.lim R T q))
theorem Col.move{x:Lie}{T:List Tok}{M:Nat}{q:Rz}{W:World}(h:Col x T M q W)(ds:List Nat)(top:Nat)(ht:x.z≤top)(hd:∀D∈ds,x.z≤D∧D<top∧W.heap[D]?=some (.deferred (some []))):Col ⟨x.w0,x.p,x.A,x.l,x.c,x.z,x.lim,ds,top,x.ok,ht⟩ T M q W:=
 ⟨h.rdr,h.bp,h.bm,h.bd,h.row,h.fr,hd⟩
theorem beg_small{g:Nat→Nat}{L a:Nat}(ha:a≤8*L)(h:(begR g L a).2.2=0):(begR g L a).1.n≤320∧(begR g L a).1.m≤320:=by
 by_cases k0:(begR g L a).1.kind=0
 ·unfold begR at h k0⊢
  split at h
  ·exact absurd h (by decide)
  ·rename_i h1
   rw[if_neg h1]at k0⊢
   unfold begW at h k0⊢
   split at h
   ·exact absurd h (by decide)
   ·rename_i h2
    rw[if_neg h2]at k0⊢
    split at h
    ·rename_i h3
     rw[if_pos h3]at k0
     have:=((dy_is (g:=g) (L:=L) (a:=a+3) (last:=decide (numN g a 3%2=1)) (by omega)).1 h).2.1
     rw[k0]at this;exact absurd this (by decide)
    ·rename_i h3
     rw[if_neg h3]at k0⊢
     split at h
     ·rename_i h4
      rw[if_pos h4]at k0;exact absurd k0 (show¬(1:Nat)=0 by decide)
     ·rename_i h4
      rw[if_neg h4]
      unfold stoR at h⊢
      split at h
      ·exact absurd h (by decide)
      ·rename_i h5
       rw[if_neg h5]
       unfold stoV at h⊢
       split at h
       ·exact absurd h (by decide)
       ·rename_i h6
        rw[if_neg h6];exact⟨Nat.zero_le _,Nat.zero_le _⟩
 ·obtain⟨_,_,_,_,_,_,_,h8⟩:=(head_is (g:=g) (L:=L) ha).1 h
  obtain⟨_,_,_,_,_,c5,c6⟩:=h8 k0
  exact⟨(check_ok c5).2.2.1,(check_ok c6).2.2.1⟩
theorem hdL_le(g:Nat→Nat)(L:Nat)(s:Rz):hdL g L s≤65535∧(hdK g L s≠0→hdL g L s=0)∧hdK g L s<256:=by
 have h1:sizV g L (hdQ L s)<65536:=tkV_lt _ _ _ _
 have h2:hdK g L s<4:=tkV_lt _ _ _ _
 refine⟨?_,fun h=>?_,by omega⟩
 ·unfold hdL;split<;>omega
 ·unfold hdL;rw[if_neg h]
theorem hdS_in{g:Nat→Nat}{L:Nat}{s:Rz}(h:s.1≤8*L):(hdS g L s).1≤8*L:=by
 have hq:(hdQ L s).1≤8*L:=tkS_in (tkS_in h)
 unfold hdS
 split
 ·unfold sizS;rw[wantS_in];exact tkS_in (tkS_in (alS_in hq))
 ·split
  ·unfold gwS;rw[wantS_in,wantS_in];exact hq
  ·split
   ·have h5:=dyS5_in (g:=g) hq
    have hR:∀k made l s,s.1≤8*L→(lnS (extF 19 (dyH g L (hdQ L s))) g L made k made l s).2.1≤8*L∨True:=fun _ _ _ _ _=>.inr trivial
    have hR2:∀(F:Nat→Nat) (n k made:Nat) (l:List (Int×Int)) (s:Rz),s.1≤8*L→(lnS F g L n k made l s).2.1≤8*L:=by
     intro F n k
     induction k with
     |zero=>intro _ _ _ h;exact h
     |succ k ih=>
      intro made l s h
      unfold lnS
      split
      ·exact ih _ _ _ (ruE_in h)
      ·exact h
    unfold dyS9
    split
    ·exact hR2 _ _ _ _ _ _ h5
    ·unfold gwS;rw[wantS_in,wantS_in,wantS_in];exact hR2 _ _ _ _ _ _ h5
   ·rw[keepS_in];exact hq
theorem head_blk{g:Nat→Nat}{x:Lie}{R:List Nat×Nat×Int}{T:List Tok}{M a:Nat}(h:TGo g x.l x.lim R T M (a,0) none):∃(k:Blk13) (Gd:Prop),k.kind=hdK g x.l (a,0)∧k.last=hdB g x.l (a,0)∧k.left=hdL g x.l (a,0)∧k.n≤320∧k.m≤320∧
  (Gd→k.kind≠0→IsTree (hdC1 g x.l (a,0)) (hdY1 g x.l (a,0)) (extF k.n k.F)∧IsTree (hdC2 g x.l (a,0)) (hdY2 g x.l (a,0)) (extF k.m k.G))∧InB g x k Gd R T M (hdS g x.l (a,0)) k.left (a+1):=by
 have ha:a≤8*x.l:=h.place
 obtain⟨h1,h2⟩:=h.head
 obtain⟨i1,i2⟩:=head_is (g:=g) (L:=x.l) ha
 rcases Int.decEq (begR g x.l a).2.2 0 with e|e
 ·refine⟨⟨hdK g x.l (a,0),hdB g x.l (a,0),hdL g x.l (a,0),nof13,0,nof13,0⟩,False,rfl,rfl,rfl,Nat.zero_le _,Nat.zero_le _,fun f=>f.elim,.inr ⟨?_,hdS_in ha⟩⟩
  have:=h1 e (hdS g x.l (a,0)).1
  have e3:hdS g x.l (a,0)=((hdS g x.l (a,0)).1,(begR g x.l a).2.2):=Prod.ext rfl (i2 e)
  rw[e3];exact this
 ·obtain⟨e1,e2,e3,e4,e5,e6,e7,e8⟩:=i1 e
  obtain⟨s1,s2⟩:=beg_small ha e
  refine⟨(begR g x.l a).1,True,e2.symm,e3.symm,e4.symm,s1,s2,fun _ k0=>?_,.inl ⟨trivial,?_,?_⟩⟩
  ·obtain⟨c0,c1,c2,c3,c4,c5,c6⟩:=e8 k0
   rw[c1,c2,c3,c4]
   exact⟨grown_tree c5,grown_tree c6⟩
  ·rw[e1];exact h2 e
  ·rw[e1];have:=(beg_fwd e).1;show a+1≤(begR g x.l a).2.1;omega
def TkPost(x0:Lie)(R:List Nat×Nat×Int)(e:Ending)(w':World):Prop:=∃(T:List Tok) (q:Rz) (B:Option Addr) (n:Nat),e=.returned (.slice B T.length n)∧TkR w' w'.heap.size B T.length n T∧Rdr w' x0.p x0.A x0.l x0.c q∧Fr (At x0.p) x0.w0 w'∧(TBad x0.lim R T q∨TFin x0.lim R T q)
theorem ptokens_x(x0:Lie)(hds:x0.ds=[])(htop0:x0.top=x0.z)(g:Nat→Nat)(a:Nat)(h:Rdr x0.w0 x0.p x0.A x0.l x0.c (a,0))(hg:RdF (At x0.p) x0.w0 x0.A x0.l g)(hl:x0.l≤1000000)(ha:a≤8*x0.l)(hlim:x0.lim≤131072)(R:List Nat×Nat×Int)(hR:toldA g x0.l x0.lim none [] a=R):
  Calls Tryz.prog 56 #[.pointer (some ⟨x0.p,0,none⟩),.int .i64 (x0.lim:Int)] x0.w0 fun e w'=>TkPost x0 R e w':=by
 have hgo:TGo g x0.l x0.lim R [] 0 (a,0) none:=⟨⟨fun t ht=>by simp at ht,trivial,rfl⟩,Nat.zero_le _,rfl,ha,hR⟩
 obtain⟨W1,hW1⟩:∃W1,W1=(((x0.w0.alloc (.cells #[.pointer (some ⟨x0.p,0,none⟩)] 123)).alloc (.cells #[.int .i64 (x0.lim:Int)] 3)).alloc (.cells #[.slice none 0 0] 94)).alloc (.cells #[.int .i64 0] 3):=⟨_,rfl⟩
 have hz:=x0.ok.1
 have hb1:Below x0.w0.heap.size x0.w0 W1:=by rw[hW1];exact((((Below.refl _ _).alloc (Nat.le_refl _) _).alloc (by simp) _).alloc (by simp;omega) _).alloc (by simp;omega) _
 have hs1:W1.heap.size=x0.z+4:=by rw[hW1];simp;omega
 have hcol:Col x0 [] 0 (a,0) W1:=by
  refine⟨BoxC.below h hb1 h.lt,?_,?_,?_,⟨none,0,?_,World.ownsRow_nil _ _ _ _⟩,Fr.of hb1,fun D hD=>by rw[hds]at hD;simp at hD⟩
  ·rw[←hz,hW1];exact(((Boxed.new x0.w0 _ _).alloc _).alloc _).alloc _
  ·have:=((Boxed.new (x0.w0.alloc (.cells #[.pointer (some ⟨x0.p,0,none⟩)] 123)) 3 (.int .i64 (x0.lim:Int))).alloc (.cells #[.slice none 0 0] 94)).alloc (.cells #[.int .i64 0] 3)
   rw[World.size_alloc,hz]at this
   rw[hW1];exact this
  ·have:=Boxed.new (((x0.w0.alloc (.cells #[.pointer (some ⟨x0.p,0,none⟩)] 123)).alloc (.cells #[.int .i64 (x0.lim:Int)] 3)).alloc (.cells #[.slice none 0 0] 94)) 3 (.int .i64 0)
   rw[World.size_alloc,World.size_alloc,World.size_alloc,hz]at this
   rw[hW1];exact this
  ·have:=(Boxed.new ((x0.w0.alloc (.cells #[.pointer (some ⟨x0.p,0,none⟩)] 123)).alloc (.cells #[.int .i64 (x0.lim:Int)] 3)) 94 (.slice none 0 0)).alloc (.cells #[.int .i64 0] 3)
   rw[World.size_alloc,World.size_alloc,hz]at this
   rw[hW1];exact this
 have HG:=Lib.hid hg;have HW1:=Lib.hid hW1;have HZ:=Lib.hid hz;have HC1:=Lib.hid hcol;have HGO:=Lib.hid hgo
 have HS1:=Lib.hid hs1
 have HP:=Lib.hid x0.ok
 clear h hg hW1 hcol hgo hb1 hs1 hR
 refine(callsIn_wide (n:=9)).1 ?_
 refine callsIn_of_wp_marks Tryz.func56 rfl trivial ?_ rfl
 simp only[Tryz.ntmps56,List.size_toArray,List.length_cons,List.length_nil,Nat.reduceAdd,Nat.reduceSub,Array.replicate_succ,Array.replicate_zero,List.push_toArray,List.append_toArray,List.nil_append,List.cons_append]
 gi_wp2_with fail
 simp only[Nat.add_assoc,Nat.reduceAdd]
 rw[←HW1.out]
 refine wpIn_loop (fun a w=>∃(x:Lie) (T:List Tok) (M:Nat) (q:Rz) (lb:Bool),(x.w0=x0.w0∧x.p=x0.p∧x.A=x0.A∧x.l=x0.l∧x.c=x0.c∧x.z=x0.z∧x.lim=x0.lim)∧FrT x lb a∧CoT g R x T M q lb w)
  (fun a w=>match a.tmps.getD 7 undef,w.cell? ⟨x0.p,1,none⟩,w.cell? ⟨x0.p,2,none⟩with| .bool false,some (.int .i64 a),some (.int .i64 e)=>if e=0 then 8*x0.l+1-a.toNat else 0|_,_,_=>0) ?start ?round
 case start=>exact⟨x0,[],0,(a,0),false,⟨rfl,rfl,rfl,rfl,rfl,rfl,rfl⟩,⟨by rw[hds];rfl,rfl,rfl,rfl,rfl,rfl,rfl,rfl,rfl,rfl⟩,HC1.out,by rw[htop0,HS1.out];omega,by rw[HS1.out];exact Nat.le_refl _,by rw[hds];exact List.nodup_nil,.inl ⟨rfl,HGO.out⟩⟩
 case round=>
  rintro⟨tm,df⟩ wr ⟨x,T,M,q,lb,E,hF,hC⟩
  have hxp:=E.2.1
  have HG2:Hid (RdF (At x.p) x.w0 x.A x.l g):=Lib.hid (by rw[E.1,E.2.1,E.2.2.1,E.2.2.2.1];exact HG.out)
  have hl2:x.l≤1000000:=by rw[E.2.2.2.1];exact hl
  have hlim2:x.lim≤131072:=by rw[E.2.2.2.2.2.2];exact hlim
  have HPX:Hid (∀(W:World) (B:Option Addr) (n:Nat),Rdr W x.p x.A x.l x.c q→Fr (At x.p) x.w0 W→W.ownsRow x.u 82 3 (.slice B T.length n) T.length (toksL T)→(TBad x.lim R T q∨TFin x.lim R T q)→TkPost x0 R (Ending.returned (.slice B T.length n)) W):=Lib.hid (fun W B n h1 h2 h4 h3=>⟨T,q,B,n,rfl,TkR.of_own h4,by rw[←E.2.1,←E.2.2.1,←E.2.2.2.1,←E.2.2.2.2.1];exact h1,by rw[←E.2.1,←E.1];exact h2,by rw[←E.2.2.2.2.2.2];exact h3⟩)
  have HE:=Lib.hid E
  obtain⟨hdf,hsz53,t0,t1,t2,t3,t4,t5,t6,t7⟩:=hF
  obtain⟨u,rfl,hu⟩:=tmps_lit tm hsz53
  have hdf:df=x.ds.map markD:=hdf
  subst hdf
  have e0:=Option.some.inj ((hu 0 (by omega)).symm.trans t0);have e1:=Option.some.inj ((hu 1 (by omega)).symm.trans t1);have e2:=Option.some.inj ((hu 2 (by omega)).symm.trans t2);have e3:=Option.some.inj ((hu 3 (by omega)).symm.trans t3);have e4:=Option.some.inj ((hu 4 (by omega)).symm.trans t4);have e5:=Option.some.inj ((hu 5 (by omega)).symm.trans t5);have e6:=Option.some.inj ((hu 6 (by omega)).symm.trans t6);have e7:=Option.some.inj ((hu 7 (by omega)).symm.trans t7)
  rw[e0,e1,e2,e3,e4,e5,e6,e7]
  clear hsz53 t0 t1 t2 t3 t4 t5 t6 t7 hu e0 e1 e2 e3 e4 e5 e6 e7 E
  obtain⟨hcol0,htop,hsz,hnd,hI⟩:=hC
  have HC:=Lib.hid hcol0;have HI:=Lib.hid hI;have HND:=Lib.hid hnd
  have HP:=Lib.hid x.ok
  clear hcol0 hI hnd hxp
  obtain⟨ds,hds⟩:∃ds,ds=x.ds:=⟨_,rfl⟩
  rw[←hds]
  have HDS:=Lib.hid hds
  clear hds
  have cp:=(HC.out.bp).cell
  have ce:wr.cell? ⟨x.p,2,none⟩=some (.int .i64 q.2):=HC.out.rdr.e
  obtain⟨B,n,hbr,hown⟩:=HC.out.row
  have cl:=hbr.cell
  by_cases hgo:lb=false∧q.2=0
  ·obtain⟨rfl,hq0⟩:=hgo
   have hTG:TGo g x.l x.lim R T M q none:=by
    rcases HI.out with h|h|h
    ·exact h.2
    ·exact absurd hq0 h.err
    ·exact absurd h.1 (by decide)
   have d0:(q.2==0)=true:=by rw[hq0];rfl
   obtain⟨qa,qe⟩:=q
   have hqe:qe=0:=hq0
   subst hqe
   have HTG:=Lib.hid hTG
   clear hq0 HI hTG cl hbr hown
   have ce':wr.cell? ⟨x.p,2,none⟩=some (.int .i64 0):=ce
   clear ce
   have hsx:∀j,At x.p j→j<wr.heap.size:=fun j (e:j=x.p)=>by have:=HP.out;omega
   have hin2:(hdQ x.l (qa,0)).1≤8*x.l:=tkS_in (tkS_in HTG.out.place)
   have HHD:=Lib.hid (phead_any wr x.p x.A x.l x.c g (qa,0) HC.out.rdr (At x.p) rfl hsx (HG2.out.fr HC.out.fr) hl2 HTG.out.place (fun he=>(dy_len g x.l (hdQ x.l (qa,0)) hin2 he).1))
   obtain⟨k,Gd,hk1,hk2,hk3,hk4,hk5,hk6,hk7⟩:=head_blk HTG.out
   obtain⟨hl1,hl2,hl3⟩:=hdL_le g x.l (qa,0)
   rw[←hk1]at hl2 hl3
   rw[←hk3]at hl1 hl2
   rw[←hk1,←hk2,←hk3]at HHD
   obtain⟨C1,hC1⟩:∃c,c=hdC1 g x.l (qa,0):=⟨_,rfl⟩
   obtain⟨C2,hC2⟩:∃c,c=hdC2 g x.l (qa,0):=⟨_,rfl⟩
   obtain⟨y1,hy1⟩:∃c,c=hdY1 g x.l (qa,0):=⟨_,rfl⟩
   obtain⟨y2,hy2⟩:∃c,c=hdY2 g x.l (qa,0):=⟨_,rfl⟩
   obtain⟨q2,hq2⟩:∃c,c=hdS g x.l (qa,0):=⟨_,rfl⟩
   rw[←hC1,←hC2,←hy1,←hy2]at HHD hk6
   rw[←hq2]at HHD hk7
   have HK6:=Lib.hid hk6;have HK7:=Lib.hid hk7;have HL2:=Lib.hid hl2
   have HM1:=Lib.hid (HC.out.rdr.a);have HM2:=Lib.hid (HC.out.rdr.e)
   obtain⟨Z,hZ⟩:∃Z,Z=blkT 0 false 0 (fun _=>0) (fun _=>0) (.slice none 0 0) (.slice none 0 0):=⟨_,rfl⟩
   have hzb:∀u:World,(zeroValue 28).run Tryz.prog u=.ok (.agg Z) u:=by rw[hZ];exact(zero_of_info infoBlkT).1
   have HZS:Hid (Z.size=37):=Lib.hid (by rw[hZ];exact blkT_size ..)
   clear hsx hin2 hk1 hk2 hk3 hk6 hk7 hC1 hC2 hy1 hy2 hq2 hl2 hZ
   gi_wp2_with fail
   refine(callsIn_wide.2 HHD.out).mono ?_
   rintro e w2 ⟨u1,u2,rfl,r2,o1,o2,f2⟩
   obtain⟨V,hV⟩:∃V,V=blkT k.kind k.last k.left C1 C2 u1 u2:=⟨_,rfl⟩
   rw[←hV]
   have HVS:Hid (V.size=37):=Lib.hid (by rw[hV];exact blkT_size ..)
   have HVO:Hid (V.all (·.oneCell')=true):=Lib.hid (by rw[hV];exact blkT_one _ _ _ _ _ _ _ o1.one o2.one)
   have hV1:V[1]?=some (.bool k.last):=by rw[hV];rfl
   obtain⟨k0,hk0⟩:∃t,t=w2.heap.size:=⟨_,rfl⟩
   obtain⟨W3,hW3⟩:∃W,W=mkV w2 Z V 28:=⟨_,rfl⟩
   have hb3:Below w2.heap.size w2 W3:=by rw[hW3];exact mkV_below _ _ _ _
   have x3:BoxC W3 k0 V 28:=by rw[hW3,hk0];exact mkV_row w2 Z V _
   have hs3:W3.heap.size=k0+1:=by rw[hW3,mkV_size,hk0]
   have hc3:=(HC.out.step f2 r2).on hb3
   have hcp:=(hc3.bp).cell
   have hcl:=x3.cell (i:=1)
   rw[hV1]at hcl
   have hzk:x.z+4≤k0:=by rw[hk0];exact Nat.le_trans hsz f2.size
   have htk:x.top≤k0:=by rw[hk0];exact Nat.le_trans htop f2.size
   have p1:OwnS W3 x.u u1 y1:=ownsRow_lower (own_keepG o1 hb3) (by unfold Lie.u;exact hsz)
   have p2:OwnS W3 x.u u2 y2:=ownsRow_lower (own_keepG o2 hb3) (by unfold Lie.u;exact hsz)
   have HX3:=Lib.hid x3;have HW3:=Lib.hid hW3;have HKZ:=Lib.hid hk0;have HC3:=Lib.hid hc3;have HP1:=Lib.hid p1;have HP2:=Lib.hid p2;have HVE:=Lib.hid hV;have HS3:=Lib.hid hs3
   clear r2 o1 o2 f2 hV hV1 hk0 hW3 hb3 x3 hs3 hc3 p1 p2 HHD HC
   gi_wp2_with (first
    |(refine wpListIn_store_row rfl _ _ _ rfl rfl w2.heap.size V rfl rfl 28 Z (heap_alloc_new w2 _) (szBlkT _ HVS.out) (by rw[HZS.out,HVS.out]) HVO.out ?_;change wpListIn _ _ _ _ _ _ _ (mkV w2 Z V 28);rw[←HW3.out,←HKZ.out])
    |(refine wpListIn_load_row rfl _ _ rfl k0 rfl _ V (0,0) _ HX3.out Tryz.underlying28 rfl (szBlkT _ HVS.out) ?_)
    |(gi_at_call 82;refine(steps_in _ _ _ _).mono ?_;rintro e w' ⟨rfl,rfl⟩))
   obtain⟨W5,hW5⟩:∃W,W=(W3.alloc (.cells #[.pointer (some ⟨x.p,0,none⟩)] 123)).alloc (.cells V 28):=⟨_,rfl⟩
   have hb5:Below W3.heap.size W3 W5:=by rw[hW5];exact((Below.refl _ _).alloc (Nat.le_refl _) _).alloc (by simp) _
   have hc5:=HC3.out.on hb5
   have hs5:W5.heap.size=W3.heap.size+2:=by rw[hW5];simp
   have hblo:Blo x k C1 C2 u1 u2 y1 y2 W3.heap.size k.left W5:=by
    refine⟨?_,?_,own_keepG HP1.out hb5,own_keepG HP2.out hb5,by rw[HS3.out];unfold Lie.u;omega⟩
    ·rw[hW5];exact(Boxed.new W3 _ _).alloc _
    ·rw[hW5,←HVE.out];have:=BoxC.new (W3.alloc (.cells #[.pointer (some ⟨x.p,0,none⟩)] 123)) V 28;rwa[World.size_alloc]at this
   have his:IsY g x k C1 C2 u1 u2 y1 y2 W3.heap.size Gd R (qa+1) W5:=⟨T,M,q2,k.left,hc5,hblo,hl1,HL2.out,HK7.out⟩
   have HIS:=Lib.hid his
   obtain⟨fr,hfr⟩:∃fr:Nat→Tok→Act,fr=fun y t=>{tmps:=#[.pointer (some ⟨x.p,0,none⟩),.int .i64 (x.lim:Int),.pointer (some ⟨x.z,0,none⟩),.pointer (some ⟨x.z+1,0,none⟩),.slice none 0 0,.pointer (some ⟨x.z+2,0,none⟩),.pointer (some ⟨x.z+3,0,none⟩),.bool k.last,.pointer (some ⟨k0,0,none⟩),.pointer (some ⟨y,0,none⟩),.bool false,.bool true,.bool true,.pointer (some ⟨x.p,0,none⟩),.pointer (some ⟨x.p,0,none⟩),.pointer (some ⟨x.p,2,none⟩),.int .i64 0,.bool true,.bool true,.pointer (some ⟨x.p,0,none⟩),.agg V,.pointer (some ⟨k0,1,none⟩),.bool k.last,.pointer (some ⟨x.p,0,none⟩),.agg V,.func (.func 102) #[] #[.pointer (some ⟨W3.heap.size,0,none⟩),.pointer (some ⟨W3.heap.size+1,0,none⟩)],.agg #[.int .u8 (t.x:Int),.int .i64 t.d,.int .i64 t.n],u 27,u 28,u 29,u 30,u 31,u 32,u 33,u 34,u 35,u 36,u 37,u 38,u 39,u 40,u 41,u 42,u 43,u 44,u 45,u 46,u 47,u 48,u 49,u 50,u 51,u 52],defers:=[]}:=⟨_,rfl⟩
   have HFR:=Lib.hid hfr
   have hW5s:x.top≤W5.heap.size:=by rw[hs5,HS3.out];omega
   rw[←hW5]
   have HW5:=Lib.hid hW5;have HS5:=Lib.hid hs5
   clear hW5 hb5 hc5 hs5 hblo his hfr HC3 HX3 hcp hcl HKZ
   refine wpIn_range_st rfl (by omega) (gf:=102) (lb:=#[.pointer (some ⟨W3.heap.size,0,none⟩),.pointer (some ⟨W3.heap.size+1,0,none⟩)]) rfl trivial (enters_of Tryz.func102 (by kernel_rfl) rfl)
    encY (fun _=>rfl) (IsY g x k C1 C2 u1 u2 y1 y2 W3.heap.size Gd R (qa+1)) (IeY g x k R (qa+1)) (I0y x k C1 C2 u1 u2 y1 y2 W3.heap.size) (I1y x k C1 C2 u1 u2 y1 y2 W3.heap.size)
    (IsY.own _ _ _ _ _ _ _ _ _ _ _ _ _ _ hW5s) (I1y.own _ _ _ _ _ _ _ _ _ _ hW5s) (IeY.own _ _ _ _ _ _ hW5s)
    (fun lY X W hX hY hD hI hx=>steps1_in _ (by omega) g x HG2.out hl2 k hl3 hk4 hk5 C1 C2 u1 u2 y1 y2 W3.heap.size Gd HK6.out R (qa+1) lY X W5.heap.size (by rw[HS5.out];omega) hX hY W hD hI hx)
    HIS.out
    (fun s a₁ W=>∃y:Nat,a₁=fr y s.t∧x.z+4≤y∧BoxC W y #[.int .u8 (s.t.x:Int),.int .i64 s.t.d,.int .i64 s.t.n] 82∧I0y x k C1 C2 u1 u2 y1 y2 W3.heap.size s W)
    (fun a₁ s W W' row h hg hr=>by
     obtain⟨y,e1,e2,e3,e4,e5,e6⟩:=h
     exact⟨y,e1,e2,grown_cells e3 hg fun r e=>(hr r e).2,e4.grown hg fun r e=>⟨Nat.le_trans hW5s (hr r e).1,(hr r e).2⟩,e5.grown hg fun r e=>(hr r e).2,e6⟩)
    ?assign ?body ?done
   case assign=>
    intro l s W K hI hsz hK
    obtain⟨sT,sM,sq,sl,⟨tx,td,tn⟩⟩:=s
    have hb:Below W.heap.size W (W.alloc (.cells #[.int .u8 (tx:Int),.int .i64 td,.int .i64 tn] 82)):=(Below.refl _ _).alloc (Nat.le_refl _) _
    have hgoal:=hK (fr W.heap.size ⟨tx,td,tn⟩) _ (KeepsOthers.alloc W (.cells #[.int .u8 (tx:Int),.int .i64 td,.int .i64 tn] 82)) hb.size ⟨W.heap.size,rfl,by have:=HS5.out;have:=HS3.out;omega,BoxC.new W _ _,hI.1.on hb,hI.2.1.fr (Fr.of hb),hI.2.2⟩
    rw[HFR.out]at hgoal
    have HGOAL:=Lib.hid hgoal
    clear hgoal hK hb hI
    simp only[encY]
    gi_wp2
    exact HGOAL.out
   case body=>
    rintro l s a₁ W ⟨y,rfl,hy4,hbx,hcol,hblo,hok⟩
    obtain⟨sT,sM,sq,sl,⟨tx,td,tn⟩⟩:=s
    obtain⟨ok1,ok2,ok3,ok4,ok5,ok6⟩:=hok
    have hbx:BoxC W y #[.int .u8 (tx:Int),.int .i64 td,.int .i64 tn] 82:=hbx
    have hcol:Col x sT sM sq W:=hcol
    have hblo:Blo x k C1 C2 u1 u2 y1 y2 W3.heap.size sl W:=hblo
    have ok5:mayT ⟨tx,td,tn⟩=true:=ok5
    have ok3:sM≤x.lim:=ok3
    have ok4:sT.length≤sM:=ok4
    have ok1:sq.2=0:=ok1
    have ok2:sq.1≤8*x.l:=ok2
    have ok6:tx<256:=ok6
    obtain⟨E,hE⟩:∃E,E=lenT ⟨tx,td,tn⟩:=⟨_,rfl⟩
    have hrng:0≤td∧td≤32768∧0≤tn∧tn≤258:=by rcases mayT_is ok5 with h|h<;>(have:=h.1;dsimp only at*;omega)
    have hmx:(if tn<1 then(1:Int)else tn)=(E:Int):=by
     rw[hE];unfold lenT
     rcases mayT_is ok5 with h|h
     ·have h0:tn=0:=h.1
      rw[if_pos (show(⟨tx,td,tn⟩:Tok).n=0 from h0),if_pos (by omega)];rfl
     ·have h1:3≤tn:=h.2.2.1
      rw[if_neg (show¬(⟨tx,td,tn⟩:Tok).n=0 by show¬tn=0;omega),if_neg (by omega)]
      show tn=((tn.toNat:Nat):Int);omega
    have hE258:E≤258:=by
     rw[hE];unfold lenT;split
     ·omega
     ·show tn.toNat≤258;omega
    obtain⟨M2,hM2⟩:∃M2,M2=sM+E:=⟨_,rfl⟩
    have hsum:(sM:Int)+(E:Int)=(M2:Int):=by omega
    have hbq:bdQ x.lim sM ⟨tx,td,tn⟩ sq=wantS (wantS sq (decide (td≤(sM:Int))) 60) (decide (M2≤x.lim)) 140:=by rw[hM2,hE];rfl
    obtain⟨q3,hq3⟩:∃q,q=wantS sq (decide (td≤(sM:Int))) 60:=⟨_,rfl⟩
    obtain⟨q4,hq4⟩:∃q,q=bdQ x.lim sM ⟨tx,td,tn⟩ sq:=⟨_,rfl⟩
    rw[←hq3,←hq4]at hbq
    have hbt:bdT x.lim sM sT ⟨tx,td,tn⟩ sq=if q4.2=0 then sT++[⟨tx,td,tn⟩]else sT:=by rw[hq4];rfl
    have HEND:Hid (∀W',KeepsOthers W W'→Col x (if q4.2=0 then sT++[⟨tx,td,tn⟩]else sT) M2 q4 W'→Blo x k C1 C2 u1 u2 y1 y2 W3.heap.size sl W'→KeepsOthers W W'∧W.heap.size≤W'.heap.size∧I1y x k C1 C2 u1 u2 y1 y2 W3.heap.size ⟨sT,sM,sq,sl,⟨tx,td,tn⟩⟩ W'):=Lib.hid (fun W' k1 k2 k3=>⟨k1,k1.size,by
     refine⟨?_,k3,ok1,ok2,ok3,ok4,ok5,ok6⟩
     show Col x (bdT x.lim sM sT ⟨tx,td,tn⟩ sq) (sM+lenT ⟨tx,td,tn⟩) (bdQ x.lim sM ⟨tx,td,tn⟩ sq) W'
     rw[hbt,←hE,←hM2,←hq4];exact k2⟩)
    have cp:=hcol.bp.cell
    have cd:=hcol.bd.cell
    have cy1:W.cell? ⟨y,1,none⟩=some (.int .i64 td):=hbx.cell.trans rfl
    have HWA:=Lib.hid (pwant_any W x.p x.A x.l x.c sq hcol.rdr (decide (td≤(sM:Int))) 60)
    rw[←hq3]at HWA
    have HBX:=Lib.hid hbx;have HCO:=Lib.hid hcol;have HBL:=Lib.hid hblo;have HBQ:=Lib.hid hbq
    clear hbx hcol hblo hbq hbt hq3 hq4 hE hM2 ok1 ok2 ok5
    rw[HFR.out]
    gi_wp2_with fail
    refine((callsIn_wide.2 HWA.out).inRound l).mono ?_
    rintro e w2 ⟨rfl,r2,f2⟩
    have hn0:y≠x.p:=by have:=HP.out;omega
    have hc2:=HCO.out.step f2 r2
    have HBL2:=Lib.hid (HBL.out.fr f2)
    have HBX2:=Lib.hid (HBX.out.fr f2 (fun(e:y=x.p)=>hn0 e))
    have HKO2:=Lib.hid (fr_others HCO.out.rdr f2)
    have cd2:=hc2.bd.cell
    have fd2:=hc2.bd.frozen
    have cy2:w2.cell? ⟨y,2,none⟩=some (.int .i64 tn):=HBX2.out.cell.trans rfl
    obtain⟨U,hU⟩:∃U,U=w2.setCell ⟨x.z+3,0,none⟩ (.int .i64 (M2:Int)):=⟨_,rfl⟩
    have fU:Fr (At (x.z+3)) w2 U:=by rw[hU];exact Fr.cell _ _ _ _
    have hnz:∀i,i<3→¬At (x.z+3) (x.z+i):=fun i hi (e:x.z+i=x.z+3)=>by omega
    have hcU:Col x sT M2 q3 U:=by
     obtain⟨B',n',b',o'⟩:=hc2.row
     have hpz:=HP.out
     refine⟨hc2.rdr.fr fU (fun(e:x.p=x.z+3)=>by omega),boxed_fr hc2.bp fU (hnz 0 (by omega)),boxed_fr hc2.bm fU (hnz 1 (by omega)),?_,⟨B',n',boxed_fr b' fU (hnz 2 (by omega)),own_fr o' fU (fun j (e:j=x.z+3)=>by unfold Lie.u;omega)⟩,hc2.fr.from fU fun j (e:j=x.z+3)=>.inr (by rw[HP.out.1];omega),fun D hD=>(by
      obtain⟨d1,d2,d3⟩:=hc2.mks D hD
      exact⟨d1,d2,(fU.block D (Array.getElem?_eq_some_iff.1 d3).1 (fun(e:D=x.z+3)=>mark_ne d3 hc2.bd e)).trans d3⟩)⟩
     rw[hU];exact Boxed.set _ hc2.bd
    have hblU:Blo x k C1 C2 u1 u2 y1 y2 W3.heap.size sl U:=by
     have hb2:=HBL2.out
     have hle:=hb2.le
     unfold Lie.u at hle
     refine⟨boxed_fr hb2.bp fU (fun(e:W3.heap.size=x.z+3)=>by omega),hb2.bk.fr fU (fun(e:W3.heap.size+1=x.z+3)=>by omega),hb2.o1.fr fU (fun j (e:j=x.z+3)=>by unfold Lie.u;omega),hb2.o2.fr fU (fun j (e:j=x.z+3)=>by unfold Lie.u;omega),hb2.le⟩
    have hbxU:BoxC U y #[.int .u8 (tx:Int),.int .i64 td,.int .i64 tn] 82:=HBX2.out.fr fU (fun(e:y=x.z+3)=>by omega)
    have HKOU:Hid (KeepsOthers W U):=Lib.hid (HKO2.out.trans (by rw[hU];exact KeepsOthers.setCell _ _ _))
    have cpU:=hcU.bp.cell
    have cdU:=hcU.bd.cell
    have cmU:=hcU.bm.cell
    have cp2:=hc2.bp.cell
    have cm2:=hc2.bm.cell
    have HWB:=Lib.hid fun b=>pwant_any U x.p x.A x.l x.c q3 hcU.rdr b 140
    rw[hU]at cpU cdU cmU
    have HU:=Lib.hid hU;have HCU:=Lib.hid hcU;have HBLU:=Lib.hid hblU;have HBXU:=Lib.hid hbxU
    clear r2 f2 hc2 HBL2 HBX2 HBL HBX HCO HWA hU fU hnz hcU hblU hbxU HKO2 cp cd cy1
    gi_wp2_with fail
    rw[←HU.out]
    refine((callsIn_wide.2 (HWB.out _)).inRound l).mono ?_
    rintro e w4 ⟨rfl,r4,f4⟩
    have r4':Rdr w4 x.p x.A x.l x.c q4:=by rw[HBQ.out];simpa using r4
    have hc4:=HCU.out.step f4 r4'
    have hb4:=HBLU.out.fr f4
    have hx4:=HBXU.out.fr f4 (fun(e:y=x.p)=>hn0 e)
    have hk4':=HKOU.out.trans (fr_others HCU.out.rdr f4)
    have ce4:w4.cell? ⟨x.p,2,none⟩=some (.int .i64 q4.2):=r4'.e
    have cp4:=hc4.bp.cell
    by_cases he:q4.2=0
    ·have d4:(q4.2==0)=true:=by rw[he];rfl
     obtain⟨B4,n4,b4,o4⟩:=hc4.row
     have cl4:=b4.cell
     have hsz4:x.u≤w4.heap.size:=by
      have h1:=b4.lt;have h2:=hc4.bd.lt;unfold Lie.u;omega
     obtain⟨A',c',w5,hrun,hown5,hb5,hko5,hkk5⟩:=run_oneT_g w4 x.u B4 sT.length n4 sT o4 ⟨tx,td,tn⟩ (by omega) hsz4
     have hl5:w5.cell? ⟨x.z+2,0,none⟩=some (.slice B4 sT.length n4):=by rw[hb5.cell (p:=⟨x.z+2,0,none⟩) (by show x.z+2<x.u;unfold Lie.u;omega)];exact cl4
     have hb4':Boxed w5 (x.z+2) 94 (.slice B4 sT.length n4):=(hb5.block (x.z+2) (by unfold Lie.u;omega)).trans b4
     have fz5:=hb4'.frozen
     obtain⟨Y,hY⟩:∃Y,Y=w5.setCell ⟨x.z+2,0,none⟩ (.slice A' (sT.length+1) c'):=⟨_,rfl⟩
     have fY:Fr (At (x.z+2)) w5 Y:=by rw[hY];exact Fr.cell _ _ _ _
     have hsz5:=hb5.size
     have hpz:=HP.out
     have elen:(sT++[(⟨tx,td,tn⟩:Tok)]).length=sT.length+1:=by simp
     have hcY:Col x (sT++[⟨tx,td,tn⟩]) M2 q4 Y:=by
      have lo:∀{g:Nat} {v:Value} {t:TypeId},Boxed w4 g t v→g<x.u→g≠x.z+2→Boxed Y g t v:=fun{g v t} h h1 h2=>boxed_fr ((hb5.block g h1).trans h:Boxed w5 g t v) fY (fun(e:g=x.z+2)=>h2 e)
      refine⟨?_,lo hc4.bp (by unfold Lie.u;omega) (by omega),lo hc4.bm (by unfold Lie.u;omega) (by omega),lo hc4.bd (by unfold Lie.u;omega) (by omega),⟨A',c',?_,?_⟩,?_,fun D hD=>(by
       obtain⟨d1,d2,d3⟩:=hc4.mks D hD
       have d4:=hko5.same D _ d3 rfl
       exact⟨d1,d2,(fY.block D (Array.getElem?_eq_some_iff.1 d4).1 (fun(e:D=x.z+2)=>mark_ne d4 hb4' e)).trans d4⟩)⟩
      ·exact BoxC.fr (BoxC.below r4' hb5 (by unfold Lie.u;omega)) fY (fun(e:x.p=x.z+2)=>by omega)
      ·rw[hY,elen];exact Boxed.set _ hb4'
      ·rw[elen];exact own_fr hown5 fY (fun j (e:j=x.z+2)=>by unfold Lie.u;omega)
      ·exact(hc4.fr.low hb5 (by rw[HP.out.1];unfold Lie.u;omega)).from fY fun j (e:j=x.z+2)=>.inr (by rw[HP.out.1];omega)
     have hbY:Blo x k C1 C2 u1 u2 y1 y2 W3.heap.size sl Y:=by
      have hle:=hb4.le
      unfold Lie.u at hle
      have hi:∀{j:Nat} {cs:Array Value} {t:TypeId},w4.heap[j]?=some (.cells cs t (0,0))→(82==t)=false→w5.heap[j]?=w4.heap[j]?:=fun{j cs t} h ht=>hkk5 j (Array.getElem?_eq_some_iff.1 h).1 (own_type o4 h ht)
      have ho:∀{v:Value} {ys:List Int},OwnS w4 x.u v ys→OwnS Y x.u v ys:=fun{v ys} o=>OwnS.fr (own_blk o fun j hj=>by obtain⟨cur,hc⟩:=own_cellsT o hj;exact hi hc (by kernel_rfl)) fY (fun j (e:j=x.z+2)=>by unfold Lie.u;omega)
      exact⟨boxed_fr ((hi hb4.bp (by kernel_rfl)).trans hb4.bp:Boxed w5 _ _ _) fY (fun(e:W3.heap.size=x.z+2)=>by omega),BoxC.fr ((hi hb4.bk (by kernel_rfl)).trans hb4.bk:BoxC w5 _ _ _) fY (fun(e:W3.heap.size+1=x.z+2)=>by omega),ho hb4.o1,ho hb4.o2,hb4.le⟩
     have HFIN:=Lib.hid (HEND.out Y ((hk4'.trans hko5).trans (by rw[hY];exact KeepsOthers.setCell _ _ _)) (by rw[if_pos he];exact hcY) hbY)
     have HRUN:=Lib.hid hrun;have HY:=Lib.hid hY;have HX4:=Lib.hid hx4
     clear r4 f4 r4' hc4 hb4 hx4 hk4' he b4 o4 hrun hown5 hb5 hko5 hkk5 hb4' fY hcY hbY hY HWB hsz4 hsz5 HCU HBLU HBXU HKOU cpU cdU cmU
     gi_wp2_with (first
      |(refine wpListIn_load_row rfl _ _ rfl y rfl _ #[.int .u8 (tx:Int),.int .i64 td,.int .i64 tn] (0,0) _ HX4.out Tryz.underlying82 rfl szTok ?_)
      |(gi_at_builtin;refine wpListIn_append_run rfl (.tmp 48) (.tmp 50) 94 rfl (.slice B4 sT.length n4) (.slice (some ⟨w4.heap.size,0,none⟩) 1 1) (.slice A' (sT.length+1) c') w5 rfl rfl HRUN.out ?_))
     rw[←HY.out]
     exact⟨HFIN.out.1,by have h1:=HFIN.out.2.1;have h2:Y.heap.size=w5.heap.size:=by {rw[HY.out];simp[World.setCell]};omega,HFIN.out.2.2⟩
    ·have d4:(q4.2==0)=false:=beq_eq_false_iff_ne.2 he
     have HFIN:=Lib.hid (HEND.out w4 hk4' (by rw[if_neg he];exact hc4) hb4)
     clear r4 f4 r4' hc4 hb4 hx4 hk4' he HWB
     gi_wp2
     exact HFIN.out
   case done=>
    rintro D W hD ⟨T2,M2,q3,hcol2,hend⟩ hK
    have hDW:D<W.heap.size:=(Array.getElem?_eq_some_iff.1 hK).1
    have hzt:=x.tok
    have hs5':=HS5.out
    have hs3':=HS3.out
    have hmks:∀D'∈D::x.ds,x.z≤D'∧D'<W.heap.size∧W.heap[D']?=some (.deferred (some [])):=fun D' hD'=>by
     rcases List.mem_cons.1 hD' with e|e
     ·subst e;exact⟨by omega,hDW,hK⟩
     ·obtain⟨d1,d2,d3⟩:=hcol2.mks D' e
      exact⟨d1,by omega,d3⟩
    have hnd2:(D::x.ds).Nodup:=List.nodup_cons.2 ⟨fun e=>by have:=(hcol2.mks D e).2.1;omega,HND.out⟩
    have n1:W.cell? ⟨x0.p,1,none⟩=some (.int .i64 (q3.1:Int)):=by rw[←HE.out.2.1];exact hcol2.rdr.a
    have n2:W.cell? ⟨x0.p,2,none⟩=some (.int .i64 q3.2):=by rw[←HE.out.2.1];exact hcol2.rdr.e
    have o1:wr.cell? ⟨x0.p,1,none⟩=some (.int .i64 (qa:Int)):=by rw[←HE.out.2.1];exact HM1.out
    have o2:wr.cell? ⟨x0.p,2,none⟩=some (.int .i64 0):=by rw[←HE.out.2.1];exact HM2.out
    simp only[Exit.inBlock]
    refine⟨⟨⟨x.w0,x.p,x.A,x.l,x.c,x.z,x.lim,D::x.ds,W.heap.size,x.ok,by omega⟩,T2,M2,q3,k.last,HE.out,⟨by rw[HDS.out];rfl,rfl,rfl,rfl,rfl,rfl,rfl,rfl,rfl,rfl⟩,hcol2.move _ _ _ hmks,Nat.le_refl _,by show x.z+4≤W.heap.size;omega,hnd2,?_⟩,?_⟩
    ·rcases hend with h|⟨h,_⟩
     ·exact .inr (.inl h)
     ·cases hkl:k.last
      ·rw[hkl,if_neg (by decide)]at h;exact .inl ⟨rfl,h⟩
      ·rw[hkl,if_pos rfl]at h;exact .inr (.inr ⟨rfl,h⟩)
    ·show(match (Value.bool k.last),W.cell? ⟨x0.p,1,none⟩,W.cell? ⟨x0.p,2,none⟩with| .bool false,some (.int .i64 a),some (.int .i64 e)=>if e=0 then 8*x0.l+1-a.toNat else 0|_,_,_=>0)<(match (Value.bool false),wr.cell? ⟨x0.p,1,none⟩,wr.cell? ⟨x0.p,2,none⟩with| .bool false,some (.int .i64 a),some (.int .i64 e)=>if e=0 then 8*x0.l+1-a.toNat else 0|_,_,_=>0)
     rw[n1,n2,o1,o2]
     have hqa:qa≤8*x0.l:=by have:=HTG.out.place;rw[HE.out.2.2.2.1]at this;exact this
     have hz0:(if(0:Int)=0 then 8*x0.l+1-(qa:Int).toNat else 0)=8*x0.l+1-qa:=by rw[if_pos rfl,Int.toNat_natCast]
     cases hkl:k.last
     ·show(if q3.2=0 then 8*x0.l+1-(q3.1:Int).toNat else 0)<(if(0:Int)=0 then 8*x0.l+1-(qa:Int).toNat else 0)
      rw[hz0]
      split
      ·rename_i hq3
       rcases hend with h|⟨_,h⟩
       ·exact absurd hq3 h.err
       ·omega
      ·omega
     ·show 0<(if(0:Int)=0 then 8*x0.l+1-(qa:Int).toNat else 0)
      rw[hz0];omega
  ·have hfin:TBad x.lim R T q∨TFin x.lim R T q:=by
    rcases HI.out with h|h|h
    ·exact absurd ⟨h.1,h.2.err⟩ hgo
    ·exact .inl h
    ·exact .inr h.2
   have hmk:=HC.out.mks
   have HLV:Hid (∀tmps:Array Value,tmps.getD 4 undef=.slice B T.length n→LeavesInM Fence.wide 9 Tryz.prog Tryz.f56 tmps (fun e w'=>TkPost x0 R e w') (ds.map markD) .returning wr):=Lib.hid (fun tmps ht=>by
    rw[HDS.out]
    refine leavesM_all (fun W=>Rdr W x.p x.A x.l x.c q∧Fr (At x.p) x.w0 W∧W.ownsRow x.u 82 3 (.slice B T.length n) T.length (toksL T)) x.z ?_ ?_ x.ds wr ⟨HC.out.rdr,HC.out.fr,hown⟩ (fun D hD=>⟨(hmk D hD).1,(hmk D hD).2.2⟩) HND.out
    ·rintro _ W W' row ⟨h1,h2,h3⟩ hg hr
     exact⟨grown_cells h1 hg fun r e=>(hr r e).2,h2.grown hg fun r e=>by rw[x.ok.1];exact(hr r e).1,own_grown h3 hg fun r e=>(hr r e).2⟩
    ·rintro W ⟨h1,h2,h3⟩
     exact⟨_,(by {have ht':tmps[4]?.getD undef=.slice B T.length n:=(by simpa using ht);simp[results,Tryz.results56,go_sem,ht']}),HPX.out W B n h1 h2 h3 hfin⟩)
   cases lb
   ·have hq0:¬q.2=0:=fun e=>hgo ⟨rfl,e⟩
    have d0:(q.2==0)=false:=beq_eq_false_iff_ne.2 hq0
    clear hgo hfin hmk hown hbr
    gi_wp2
    refine HLV.out _ ?_
    rfl
   ·clear hgo hfin hmk hown hbr
    gi_wp2
    refine HLV.out _ ?_
    rfl
end Go.Proofs.YtcmpmighjglnpaaGreat
namespace Go.Proofs.YtcmpmighjglnpaaGreat
open Go.RowKit
def offK(l:List Oper)(k:Nat)(t:Tmp):Bool:=(List.range l.length).all fun j=>match (l[j]?).bind (·.dst)with
 |some d=>d !=t||j==k||Region.waitsFor .any l.toArray j k
 |none=>true
theorem offK_is{l:List Oper}{k:Nat}{t:Tmp}(h:offK l k t=true){j:Nat}{d:Tmp}(hd:(l[j]?).bind (·.dst)=some d)(e:d=t):j=k∨Region.waitsFor .any l.toArray j k=true:=by
 have hj:j<l.length:=by
  cases hl:l[j]? with
  |none=>rw[hl]at hd;cases hd
  |some y=>exact(List.getElem?_eq_some_iff.1 hl).1
 have h1:=List.all_eq_true.1 h j (List.mem_range.2 hj)
 rw[hd]at h1
 simp only[Bool.or_eq_true,bne_iff_ne,ne_eq,beq_iff_eq]at h1
 rcases h1 with(h1|h1)|h1
 ·exact absurd e h1
 ·exact .inl h1
 ·exact .inr h1
def TwStepK(P:Program)(l:List Oper)(T:Nat→Value→Prop)(a0:Act)(W0 W1:World)(s k:Nat)(o:Oper):Prop:=
 ∀(a:Act) (w:World),(w=W0∨(w=W1∧k≠s∧Region.waitsFor .any l.toArray s k=false))→(∀t,offK l k t=true→a.eval (.tmp t)=a0.eval (.tmp t))→(∀j d,Region.waitsFor .any l.toArray k j=true→(l[j]?).bind (·.dst)=some d→T j (a.eval (.tmp d)))→
  ∀(K:Act→World→Prop) (Q:Exit→Act→World→Prop),(∀v,T k v→K (a.put o.dst v) (if k=s then W1 else w))→if Region.wanted o (yielded l.toArray a.tmps)=true then Oper.wp P o a w K Q else K (a.put o.dst undef) w
def TwAllK(P:Program)(l:List Oper)(T:Nat→Value→Prop)(a0:Act)(W0 W1:World)(s:Nat):Nat→List Oper→Prop
 |_,[]=>True
 |k,o::r=>TwStepK P l T a0 W0 W1 s k o∧TwAllK P l T a0 W0 W1 s (k+1) r
theorem TwAllK.get{P:Program}{l:List Oper}{T:Nat→Value→Prop}{a0:Act}{W0 W1:World}{s:Nat}:∀{r:List Oper} {k:Nat},TwAllK P l T a0 W0 W1 s k r→∀{j:Nat} {o:Oper},r[j]?=some o→TwStepK P l T a0 W0 W1 s (k+j) o
 |[],_,_,_,_,h=>by cases h
 |_::_,k,hA,0,_,h=>by cases h;exact hA.1
 |_::r,k,hA,j+1,o,h=>by
  have:=TwAllK.get (r:=r) hA.2 (j:=j) (by simpa using h)
  rw[show k+1+j=k+(j+1) by omega]at this
  exact this
theorem tw_anyK{P:Program}{Q:Exit→Act→World→Prop}{a0:Act}{W0 W1:World}{l:List Oper}{T:Nat→Value→Prop}{s:Nat}(hs:s<l.length)(hB:tabB l a0.tmps.size=true)(hstep:TwAllK P l T a0 W0 W1 s 0 l)
  (hend:∀listed a w,TwInv l T a0 W0 W1 s listed a w→(∀i,i<l.length→listed.getD i false=true)→Q .normal a w):
  ∀(f:Nat) (listed:Array Bool) (a:Act) (w:World),((List.range l.length).filter fun i=> !listed.getD i false).length=f→TwInv l T a0 W0 W1 s listed a w→wpAny P .any l.toArray Q f listed a w:=by
 have hB':=hB
 simp only[tabB,Bool.and_eq_true,decide_eq_true_eq]at hB'
 obtain⟨⟨hnd,hin⟩,hlow⟩:=hB'
 have hall:∀(listed:Array Bool),listed.size=l.length→Region.ready .any l.toArray listed=[]→∀i,i<l.length→listed.getD i false=true:=fun listed hsz hr i=>by
  induction i using Nat.strongRecOn with
  |_ i ih=>
   intro hi
   cases hu:listed.getD i false with
   |true=>rfl
   |false=>
    exfalso
    have h1:=List.all_eq_true.1 hlow i (List.mem_range.2 hi)
    have hoi:l[i]?=some l[i]:=List.getElem?_eq_getElem hi
    simp only[hoi]at h1
    have:i∈Region.ready .any l.toArray listed:=mem_ready.2 ⟨getD_in (by omega) hu,l[i],by simp[hi],fun e he hb=>by
     have h2:=Array.all_eq_true_iff_forall_mem.1 h1 e he
     simp only[hb,Bool.not_true,Bool.false_or,decide_eq_true_eq]at h2
     exact ih e.on h2 (by omega)⟩
    rw[hr]at this;cases this
 intro f
 induction f with
 |zero=>
  intro listed a w hf inv
  have hup:∀i,i<l.length→listed.getD i false=true:=fun i hi=>by
   have h0:=List.length_eq_zero_iff.1 hf
   have h1:=List.filter_eq_nil_iff.1 h0 i (List.mem_range.2 hi)
   simpa using h1
  refine⟨?_,hend listed a w inv hup⟩
  apply List.eq_nil_iff_forall_not_mem.2
  intro i hi
  obtain⟨h0,o,ho,_⟩:=mem_ready.1 hi
  have hlt:i<l.length:=by have:=(Array.getElem?_eq_some_iff.1 ho).1;simpa using this
  have h1:=hup i hlt
  rw[getD_both h0]at h1;cases h1
 |succ f ih=>
  intro listed a w hf inv
  refine⟨fun h0=>hend listed a w inv (hall listed inv.size h0),fun k hk=>?_⟩
  obtain⟨h0,o,ho,hafter⟩:=mem_ready.1 hk
  have hol:l[k]?=some o:=by simpa using ho
  have hlt:k<l.length:=(List.getElem?_eq_some_iff.1 hol).1
  have hst:TwStepK P l T a0 W0 W1 s k o:=by have:=hstep.get hol;rwa[Nat.zero_add]at this
  have heval:∀t,offK l k t=true→a.eval (.tmp t)=a0.eval (.tmp t):=fun t ht=>by
   show a.tmps.getD t undef=a0.tmps.getD t undef
   rw[Array.getD_eq_getD_getElem?,Array.getD_eq_getD_getElem?,inv.off t (fun j d hl hd e=>?_)]
   rcases offK_is ht hd e with e1|hw
   ·subst e1;rw[getD_both h0]at hl;cases hl
   ·obtain⟨oj,hoj,e,he,hb,hon⟩:=Region.waitsFor_spec hw
    have:=inv.closed j oj (by simpa using hoj) hl e he hb
    rw[hon,getD_both h0]at this;cases this
  have hfacts:∀j d,Region.waitsFor .any l.toArray k j=true→(l[j]?).bind (·.dst)=some d→T j (a.eval (.tmp d)):=fun j d hw hd=>by
   obtain⟨ok,hok,e,he,hb,hon⟩:=Region.waitsFor_spec hw
   rw[ho]at hok;cases hok
   exact inv.told j d (by have:=hafter e he hb;rwa[hon]at this) hd
  have hdlt:∀d,o.dst=some d→d<a.tmps.size:=fun d hd=>by
   have h1:=List.all_eq_true.1 hin o (List.mem_of_getElem? hol)
   simp only[hd,decide_eq_true_eq]at h1
   rw[inv.tmps];exact h1
  have hw01:w=W0∨(w=W1∧k≠s∧Region.waitsFor .any l.toArray s k=false):=by
   cases hls:listed.getD s false with
   |false=>left;have:=inv.world;rw[hls]at this;simpa using this
   |true=>
    right
    refine⟨by have:=inv.world;rw[hls]at this;simpa using this,fun e=>?_,?_⟩
    ·subst e;rw[getD_both h0]at hls;cases hls
    ·cases hw:Region.waitsFor .any l.toArray s k with
     |false=>rfl
     |true=>
      exfalso
      obtain⟨os,hos,e,he,hb,hon⟩:=Region.waitsFor_spec hw
      have:=inv.closed s os (by simpa using hos) hls e he hb
      rw[hon,getD_both h0]at this;cases this
  have hgo:=hst a w hw01 heval hfacts (wpAny P .any l.toArray Q f (listed.setIfInBounds k true)) Q (fun v hv=>by
   refine ih _ _ _ ?_ ⟨by simp[inv.size],?_,?_,fun t ht=>?_,fun j d hl hd=>?_,fun j oj hj hl e he hb=>?_,?_⟩
   ·have hfe:((List.range l.length).filter fun i=> !(listed.setIfInBounds k true).getD i false)=((List.range l.length).filter fun i=> !listed.getD i false).erase k:=by
     rw[List.Nodup.erase_eq_filter (List.nodup_range.filter _),List.filter_filter]
     apply List.filter_congr
     intro x hx
     by_cases e:x=k
     ·subst e
      have:x<listed.size:=by rw[inv.size];exact hlt
      simp[this]
     ·rw[getD_set_ne false (Ne.symm e)];simp[e]
    rw[hfe,List.length_erase_of_mem (List.mem_filter.2 ⟨List.mem_range.2 hlt,by rw[getD_both h0];rfl⟩),hf];rfl
   ·unfold Act.put;cases o.dst<;>simp[inv.tmps]
   ·unfold Act.put;cases o.dst<;>exact inv.defers
   ·rw[←inv.off t (fun j d hl hd=>ht j d (getD_set_true hl) hd)]
    unfold Act.put
    cases hd:o.dst with
    |none=>rfl
    |some d=>
     have e:d≠t:=ht k d (by have:k<listed.size:=(by rw[inv.size];exact hlt);simp[this]) (by rw[hol];simpa using hd)
     simp[Array.getElem?_setIfInBounds_ne e]
   ·by_cases e:j=k
    ·subst e
     rw[hol]at hd
     have hd':o.dst=some d:=by simpa using hd
     have hlt2:=hdlt d hd'
     have he:(a.put o.dst v).eval (.tmp d)=v:=by rw[hd'];simp[Act.put,Act.eval,hlt2]
     rw[he];exact hv
    ·rw[getD_set_ne false (Ne.symm e)]at hl
     have h1:=inv.told j d hl hd
     have he:(a.put o.dst v).eval (.tmp d)=a.eval (.tmp d):=Act.eval_put fun d' hd' hx=>by
      cases hx
      cases hj:l[j]? with
      |none=>rw[hj]at hd;cases hd
      |some y=>
       rw[hj]at hd
       exact e (tab_dst hnd hj hol (by simpa using hd) hd')
     rw[he];exact h1
   ·by_cases e':j=k
    ·subst e'
     rw[hol]at hj;cases hj
     exact getD_set_true (hafter e he hb)
    ·rw[getD_set_ne false (Ne.symm e')]at hl
     exact getD_set_true (inv.closed j oj hj hl e he hb)
   ·by_cases e:k=s
    ·subst e
     have:k<listed.size:=by rw[inv.size];exact hlt
     rw[if_pos rfl];simp[this]
    ·rw[if_neg e,getD_set_ne false e];exact inv.world)
  unfold wpOp
  simp only[ho]
  split at hgo
  ·rename_i hw;rw[if_pos hw];exact .inl hgo
  ·rename_i hw;rw[if_neg hw];exact hgo
theorem wp_region_twoK{P:Program}{id:Nat}{Q:Exit→Act→World→Prop}{a0:Act}{w0:World}{l:List Oper}(s:Nat)(T:Nat→Value→Prop)(W1:World)(hm:P.follows .mixedOrders=true)(hs:(decide (s<l.length)&&tabB l a0.tmps.size)=true)
  (hstep:TwAllK P l T a0 w0.drew W1 s 0 l)
  (hend:∀(vals:Tmp→Value),(∀j d,(l[j]?).bind (·.dst)=some d→T j (vals d))→Q .normal (putL (l.map (·.dst)) vals a0) W1):(Code.region id l.toArray true).wp P Q a0 w0:=by
 simp only[Bool.and_eq_true,decide_eq_true_eq]at hs
 obtain⟨hsl,hB⟩:=hs
 refine wp_region_any hm ?_
 have hl0:∀i,(Array.replicate l.toArray.size false).getD i false=false:=fun i=>getD_replicate_false _ _
 refine tw_anyK (T:=T) hsl hB hstep (fun listed a w inv hup=>?_) l.toArray.size _ _ _ ?_ ⟨by simp,rfl,rfl,fun _ _=>rfl,(fun j d h _=>by rw[hl0]at h;cases h),(fun j oj _ h=>by rw[hl0]at h;cases h),by rw[hl0];rfl⟩
 ·have ha:a=putL (l.map (·.dst)) (fun d=>a.eval (.tmp d)) a0:=by
   have ht:a.tmps=(putL (l.map (·.dst)) (fun d=>a.eval (.tmp d)) a0).tmps:=by
    apply Array.ext_getElem?
    intro t
    by_cases ht:some t∈l.map (·.dst)
    ·obtain⟨o,ho,hd⟩:=List.mem_map.1 ht
     simp only[tabB,Bool.and_eq_true,decide_eq_true_eq]at hB
     have h1:=List.all_eq_true.1 hB.1.2 o ho
     simp only[hd,decide_eq_true_eq]at h1
     rw[putL_in _ _ _ t (.inl ht) h1]
     have h2:t<a.tmps.size:=by rw[inv.tmps];exact h1
     simp[Act.eval,h2]
    ·rw[putL_out _ _ _ t ht]
     refine inv.off t (fun j d _ hd e=>ht ?_)
     cases hj:l[j]? with
     |none=>rw[hj]at hd;cases hd
     |some y=>
      rw[hj]at hd
      exact List.mem_map.2 ⟨y,List.mem_of_getElem? hj,by rw[←e];simpa using hd⟩
   have hdf:a.defers=(putL (l.map (·.dst)) (fun d=>a.eval (.tmp d)) a0).defers:=by rw[putL_defers];exact inv.defers
   cases a with
   |mk t df=>
    generalize hp:putL (l.map (·.dst)) (fun d=>(Act.mk t df).eval (.tmp d)) a0=p at*
    cases p with
    |mk t2 df2=>simp only at ht hdf;rw[ht,hdf]
  have hw:=inv.world
  rw[if_pos (hup s hsl)]at hw
  rw[ha,hw]
  refine hend _ fun j d hd=>?_
  refine inv.told j d (hup j ?_) hd
  cases hj:l[j]? with
  |none=>rw[hj]at hd;cases hd
  |some _=>exact(List.getElem?_eq_some_iff.1 hj).1
 ·rw[List.filter_eq_self.2 (fun i _=>by rw[hl0];rfl)];simp
theorem TwAllK.nil{P:Program}{l:List Oper}{T:Nat→Value→Prop}{a0:Act}{W0 W1:World}{s k:Nat}:TwAllK P l T a0 W0 W1 s k []:=trivial
theorem TwAllK.cons{P:Program}{l:List Oper}{T:Nat→Value→Prop}{a0:Act}{W0 W1:World}{s k:Nat}{o:Oper}{r:List Oper}(h:TwStepK P l T a0 W0 W1 s k o)(hr:TwAllK P l T a0 W0 W1 s (k+1) r):TwAllK P l T a0 W0 W1 s k (o::r):=⟨h,hr⟩
end Go.Proofs.YtcmpmighjglnpaaGreat
namespace Go.Proofs.YtcmpmighjglnpaaGreat
open Go.RowKit
def ReadsB(k:Blk13)(kd:Nat)(last:Bool)(left:Int)(c1:Nat→Int)(s1:List Int)(c2:Nat→Int)(s2:List Int):Prop:=
 k.kind=kd∧k.last=last∧(k.left:Int)=left∧k.left≤65535∧k.n≤320∧k.m≤320∧(kd≠0→IsTree c1 s1 (extF k.n k.F)∧IsTree c2 s2 (extF k.m k.G))
def stpQ(g:Nat→Nat)(l:Nat)(a:Int)(r:Bool)(k:Blk13):Tok×Bool×Nat×Int:=
 if asked13 l a≠0 then(tokZ,false,0,asked13 l a)else if r=false then(tokZ,false,0,8)else nextR k g l a.toNat
theorem infoTokZ:(Tryz.prog.info? 82).map (fun i=>(i.zero,i.size))=some (some (.agg #[.int .u8 0,.int .i64 0,.int .i64 0]),3):=by kernel_rfl
theorem cell_tok4{fn:Func}{p u v x:Tmp}(h:fn.results=#[.cell p 82,.tmp u,.tmp v,.tmp x])(tmps:Array Value)(w:World)(g:Nat)(cs:Array Value)(hs:cs.size=3)(hp:tmps.getD p undef=.pointer (some ⟨g,0,none⟩))(ht:w.heap[g]?=some (.cells cs 82 (0,0))):
  (results fn tmps).run Tryz.prog w=.ok (.tuple #[.agg cs,tmps.getD u undef,tmps.getD v undef,tmps.getD x undef]) w:=by
 have hp':tmps[p]?.getD undef=.pointer (some ⟨g,0,none⟩):=by simpa using hp
 have hl:=run_loadVar_row (P:=Tryz.prog) w g 82 82 cs (0,0) _ ht Tryz.underlying82 rfl (by rw[hs];exact szTok)
 simp[results,h,hp',asAddr,hl]
theorem nxt_errD{n:Int}{y:Int×Nat×Int}(h:(nxtD n y).2.2.2≠0):nxtD n y=(tokZ,false,0,(nxtD n y).2.2.2):=by
 unfold nxtD at h⊢
 by_cases h1:y.2.2≠0
 ·rw[if_pos h1]
 ·rw[if_neg h1]at h;exact absurd rfl h
theorem nxt_errC{n:Int}{r:Nat×Nat×Int}{g:Nat→Nat}{L:Nat}(h:(nxtC n r g L).2.2.2≠0):nxtC n r g L=(tokZ,false,0,(nxtC n r g L).2.2.2):=by
 unfold nxtC at h⊢
 by_cases h1:r.2.2≠0
 ·rw[if_pos h1]
 ·rw[if_neg h1]at h⊢;exact nxt_errD h
theorem nxt_errB{k:Blk13}{x:Int×Nat×Int}{g:Nat→Nat}{L:Nat}(h:(nxtB k x g L).2.2.2≠0):nxtB k x g L=(tokZ,false,0,(nxtB k x g L).2.2.2):=by
 unfold nxtB at h⊢
 by_cases h1:x.2.2≠0
 ·rw[if_pos h1]
 ·rw[if_neg h1]at h⊢;exact nxt_errC h
theorem nxt_errA{k:Blk13}{r:Nat×Nat×Int}{g:Nat→Nat}{L:Nat}(h:(nxtA k r g L).2.2.2≠0):nxtA k r g L=(tokZ,false,0,(nxtA k r g L).2.2.2):=by
 unfold nxtA at h⊢
 by_cases h1:r.2.2≠0
 ·rw[if_pos h1]
 ·rw[if_neg h1]at h⊢
  by_cases h2:r.1<256
  ·rw[if_pos h2]at h;exact absurd rfl h
  ·rw[if_neg h2]at h⊢
   by_cases h3:r.1=256
   ·rw[if_pos h3]at h;exact absurd rfl h
   ·rw[if_neg h3]at h⊢;exact nxt_errB h
theorem nxt_err{k:Blk13}{g:Nat→Nat}{L a:Nat}(h:(nextR k g L a).2.2.2≠0):nextR k g L a=(tokZ,false,0,(nextR k g L a).2.2.2):=by
 unfold nextR at h⊢
 by_cases h0:k.kind=0
 ·rw[if_pos h0]at h⊢
  unfold nxtS at h⊢
  by_cases h1:k.left=0
  ·rw[if_pos h1]at h;exact absurd rfl h
  ·rw[if_neg h1]at h⊢
   by_cases h2:8*L<a+8
   ·rw[if_pos h2]
   ·rw[if_neg h2]at h;exact absurd rfl h
 ·rw[if_neg h0]at h⊢
  exact nxt_errA h
theorem riF_of{w:World}{v:Value}{s:List Int}{p:Nat}(h:RdS w p v s)(hp:p≤w.heap.size):RiF (At p) w v s:=by
 refine⟨h.more hp,fun A n c b o e h0 e2 hb=>?_⟩
 obtain⟨A',cap,e3,hr,_⟩:=h
 obtain⟨b',o',e4,hbb,_⟩:=hr.at h0
 rw[e3]at e;cases e
 rw[e4]at e2;cases e2
 have:b=p:=hb
 omega
theorem pstep13_any(w:World)(A:Option Addr)(l c:Nat)(g:Nat→Nat)(hg:RdB w w.heap.size A l g)(a:Int)(ha1: -9223372036854775808≤a)(ha2:a≤9223372036854775807)(hl:l≤1000000)
  (kd:Nat) (hkd:kd<256) (last:Bool) (left:Int) (c1 c2:Nat→Int) (v1 v2:Value) (s1 s2:List Int) (h1:RdS w w.heap.size v1 s1) (h2:RdS w w.heap.size v2 s2) (n1:s1.length≤1000000) (n2:s2.length≤1000000)
  (r:Bool) (hr:r=true↔MayI kd left c1 s1 c2 s2) (k:Blk13) (hk:r=true→ReadsB k kd last left c1 s1 c2 s2):
  Calls Tryz.prog 60 #[.agg (blkI kd last left c1 c2 v1 v2),.slice A l c,.int .i64 a] w fun e w'=>e=.returned (nxtV (stpQ g l a r k))∧Below w.heap.size w w':=by
 obtain⟨h,hh⟩:∃h,h=w.heap.size:=⟨_,rfl⟩
 obtain⟨X,hX⟩:∃X,X=blkI kd last left c1 c2 v1 v2:=⟨_,rfl⟩
 have hXS:X.size=37:=by rw[hX];exact blkI_size ..
 obtain⟨Z,hZ⟩:∃Z:Array Value,Z=#[.int .u8 0,.int .i64 0,.int .i64 0]:=⟨_,rfl⟩
 have hZS:Z.size=3:=by rw[hZ];rfl
 have hZO:Z.all (·.oneCell')=true:=by rw[hZ];exact oneTok _ _ _
 have hZB:Tryz.prog.built 82 []=some Z:=by rw[hZ];exact built_tok0
 obtain⟨W1,hW1⟩:∃W1,W1=(w.alloc (.cells X 28)).alloc (.cells Z 82):=⟨_,rfl⟩
 have hb1:Below h w W1:=by rw[hW1,hh];exact((Below.refl _ _).alloc (Nat.le_refl _) _).alloc (by simp) _
 have hsz1:W1.heap.size=h+2:=by rw[hW1,hh];simp
 have x1:BoxC W1 h X 28:=by rw[hW1,hh];exact(BoxC.new w _ _).old _
 have t1:BoxC W1 (h+1) Z 82:=by rw[hW1,hh];have:=BoxC.new (w.alloc (.cells X 28)) Z 82;rwa[World.size_alloc]at this
 obtain⟨q,hq⟩:∃q,q=asked13 l a:=⟨_,rfl⟩
 obtain⟨R,hR⟩:∃R,R=stpQ g l a r k:=⟨_,rfl⟩
 have hrr:=hR
 unfold stpQ at hrr
 rw[←hq]at hrr
 rw[←hR]
 have hask:=pwithin_any W1 A l c a ha1 ha2 hl
 rw[←hq]at hask
 have hchk:=pcheck13_any W1 kd last left c1 c2 v1 v2 s1 s2 ((h1.below (hh▸hb1) (Nat.le_refl _)).more (hh▸hb1.size)) ((h2.below (hh▸hb1) (Nat.le_refl _)).more (hh▸hb1.size)) n1 n2 r hr
 rw[←hX]at hchk⊢
 have hzt:∀u:World,(zeroValue 82).run Tryz.prog u=.ok (.agg Z) u:=by rw[hZ];exact(zero_of_info infoTokZ).1
 obtain⟨ZR,hZR⟩:∃Z,Z=rdrA none 0 0 (0,0):=⟨_,rfl⟩
 have hzr:∀u:World,(zeroValue 70).run Tryz.prog u=.ok (.agg ZR) u:=by rw[hZR];exact(zero_of_info infoRdr).1
 have HZRS:Hid (ZR.size=3):=Lib.hid (by rw[hZR];rfl)
 have HAS:=Lib.hid hask;have HCH:=Lib.hid hchk;have HG:=Lib.hid hg;have HX1:=Lib.hid x1;have HT1:=Lib.hid t1;have HB1:=Lib.hid hb1;have HH:=Lib.hid hh;have HW1:=Lib.hid hW1;have HS1:=Lib.hid hsz1;have HRR:=Lib.hid hrr;have HQ:=Lib.hid hq;have HZE:=Lib.hid hZ;have HXE:=Lib.hid hX
 have HXS:=Lib.hid hXS;have HZS:=Lib.hid hZS;have HZO:=Lib.hid hZO;have HZB:=Lib.hid hZB;have HV1:=Lib.hid h1;have HV2:=Lib.hid h2;have HK:=Lib.hid hk
 clear hask hchk hg x1 t1 hb1 hh hW1 hsz1 hrr hq hR hZ hZR hX hXS hZS hZO hZB h1 h2 hk hr
 by_cases q0:q=0
 ·have hl3:l≤131072:=by
   have:=HQ.out;rw[q0]at this;unfold asked13 at this
   split at this
   ·omega
   ·omega
  have ha:0≤a∧a≤8*(l:Int):=by
   have:=HQ.out;rw[q0]at this;unfold asked13 at this
   rw[if_neg (by omega)]at this
   split at this
   ·omega
   ·omega
  obtain⟨n,rfl⟩:=Int.eq_ofNat_of_zero_le ha.1
  have hn8:n≤8*l:=by omega
  subst q0
  rcases Bool.eq_false_or_eq_true r with hrt|hrf
  ·subst hrt
   have HRR2:Hid (R=nextR k g l n):=Lib.hid (by rw[HRR.out,if_neg (fun h=>h rfl),if_neg (by decide),Int.toNat_natCast])
   obtain⟨k1,k2,k3,k4,k5,k6,k7⟩:=HK.out rfl
   obtain⟨Y,hY⟩:∃Y,Y=rdrA A l c (n,0):=⟨_,rfl⟩
   have HYS:Hid (Y.size=3):=Lib.hid (by rw[hY];rfl)
   have HYO:Hid (Y.all (·.oneCell')=true):=Lib.hid (by rw[hY];simp[rdrA,Value.oneCell'])
   have HYB:Hid (Tryz.prog.built 70 [(0,.slice A l c),(1,.int .i64 (n:Int))]=some Y):=Lib.hid (by rw[hY];exact built_rdr13 A l c n)
   have HXK:Hid (X=blkT k.kind k.last k.left c1 c2 v1 v2):=Lib.hid (by rw[HXE.out,blkT_I,k1,k2,k3])
   have HKP:Hid (k.kind<256∧k.left≤65535∧k.n≤320∧k.m≤320∧(k.kind≠0→IsTree c1 s1 (extF k.n k.F)∧IsTree c2 s2 (extF k.m k.G))):=Lib.hid ⟨by rw[k1];exact hkd,k4,k5,k6,fun h=>k7 (k1▸h)⟩
   have HYE:=Lib.hid hY
   clear ha k1 k2 k3 k4 k5 k6 k7 hY HK HRR HXE
   go_enter Tryz.func60,Tryz.ntmps60
   go_wp2_with (first|(rw[←HW1.out,←HH.out])|fail)
   refine HAS.out.mono ?_
   rintro e w9 ⟨rfl,rfl⟩
   go_wp2_with (first
    |(refine wpList_load_row rfl _ _ rfl h rfl _ X (0,0) _ HX1.out Tryz.underlying28 rfl (szBlkT X HXS.out) ?_)
    |fail)
   refine HCH.out.mono ?_
   unfold chkI
   rw[if_pos rfl]
   rintro e w3 ⟨rfl,hb3⟩
   have hS3:=hb3.size
   have hX3:=HX1.out.below hb3 (by rw[HS1.out];omega)
   have hT3:=HT1.out.below hb3 (by rw[HS1.out];omega)
   obtain⟨p,hp⟩:∃p,p=w3.heap.size:=⟨_,rfl⟩
   have hpl:h+2≤p:=by rw[hp,←HS1.out];exact hS3
   obtain⟨W2,hW2⟩:∃W,W=mkV w3 ZR Y 70:=⟨_,rfl⟩
   have hb2:Below w3.heap.size w3 W2:=by rw[hW2];exact mkV_below _ _ _ _
   have y2:Rdr W2 p A l c (n,0):=by have:=mkV_row w3 ZR Y 70;rw[←hp,HYE.out]at this;rw[hW2,HYE.out];exact this
   have hsz2:W2.heap.size=p+1:=by rw[hW2,mkV_size,hp]
   have hB3:Below h w w3:=HB1.out.trans (hb3.mono (by rw[HS1.out];omega))
   have hB2:Below h w W2:=hB3.trans (hb2.mono (by omega))
   have hg2:RdF (At p) W2 A l g:=by
    refine⟨(HG.out.below (HH.out▸hB2) (Nat.le_refl _)).more (HH.out▸hB2.size),fun b o h0 e hb=>?_⟩
    obtain⟨b',o',e',hbb,_⟩:=HG.out.2 h0
    rw[e]at e';cases e'
    have:b=p:=hb
    have:=HH.out;omega
   have hv1:=riF_of (p:=p) ((HV1.out.below (HH.out▸hB2) (Nat.le_refl _)).more (show w.heap.size≤p by have:=HH.out;omega)) (by omega)
   have hv2:=riF_of (p:=p) ((HV2.out.below (HH.out▸hB2) (Nat.le_refl _)).more (show w.heap.size≤p by have:=HH.out;omega)) (by omega)
   obtain⟨kp1,kp2,kp3,kp4,kp5⟩:=HKP.out
   have hstp:=pstep_any W2 p A l c g (n,0) y2 (At p) rfl (fun j (e:j=p)=>by omega) hg2 (by omega) hn8 k kp1 kp2 kp3 kp4 c1 c2 v1 v2 HV1.out.one HV2.out.one (fun _ h0=>⟨⟨s1,hv1,(kp5 h0).1⟩,⟨s2,hv2,(kp5 h0).2⟩⟩)
   rw[←HXK.out]at hstp
   have HX2:=Lib.hid (hX3.below hb2 hX3.lt);have HT2:=Lib.hid (hT3.below hb2 hT3.lt)
   have HIS:=Lib.hid (stT_is (k:=k) (g:=g) (L:=l) (a:=n))
   obtain⟨⟨tk,en,sa,se⟩,hss⟩:∃s,s=stT k g l (n,0):=⟨_,rfl⟩
   rw[←hss]at hstp
   rw[←hss]at HIS
   have HST:=Lib.hid hstp;have HW2:=Lib.hid hW2;have HSZ2:=Lib.hid hsz2;have HP:=Lib.hid hp;have HBB:=Lib.hid hB2
   clear hb3 hX3 hT3 hp hb2 y2 hsz2 hB3 hB2 hg2 hv1 hv2 kp1 kp2 kp3 kp4 kp5 hstp hss hW2 hS3
   go_wp2_with (first
    |(refine wpList_buildTo rfl 70 #[(0,.tmp 26),(1,.tmp 27)] rfl (some 28) rfl Y ?_ ?_;focus(simpa[Act.eval]using HYB.out))
    |(refine wpList_store_rowTo rfl _ _ _ rfl rfl w3.heap.size Y rfl rfl 70 ZR (heap_alloc_new w3 _) (szRdr13 HYS.out) (by rw[HZRS.out,HYS.out]) HYO.out ?_;change wpList _ _ _ _ _ (mkV w3 ZR Y 70);rw[←HW2.out,←HP.out])
    |(refine wpList_load_row rfl _ _ rfl h rfl _ X (0,0) _ HX2.out Tryz.underlying28 rfl (szBlkT X HXS.out) ?_)
    |fail)
   refine HST.out.mono ?_
   rintro e w4 ⟨rfl,r4,f4⟩
   obtain⟨T,hT⟩:∃T,T=tkA3 tk:=⟨_,rfl⟩
   have HTS:Hid (T.size=3):=Lib.hid (by rw[hT];rfl)
   have HTO:Hid (T.all (·.oneCell')=true):=Lib.hid (by rw[hT];exact tkA3_one _)
   unfold stpV
   dsimp only
   rw[←hT]
   have hT4:=HT2.out.fr f4 (by show¬h+1=p;omega)
   obtain⟨W4,hW4⟩:∃W,W=w4.setRow (h+1) T:=⟨_,rfl⟩
   have x4:BoxC W4 (h+1) T 82:=by rw[hW4];exact hT4.row T
   have r5:Rdr W4 p A l c (sa,se):=by rw[hW4];exact BoxC.rowO r4 (by omega) T
   have f5:Fr (At (h+1)) w4 W4:=by rw[hW4];exact Fr.row w4 (h+1) T
   have hb4:Below h w W4:=HBB.out.trans ((f4.below (B:=h) (fun j (e:j=p)=>by omega) (by have:=HSZ2.out;omega)).trans (f5.below (B:=h) (fun j (e:j=h+1)=>by omega) (by have:=f4.size;have:=HSZ2.out;omega)))
   have k2:W4.cell? ⟨p,2,none⟩=some (.int .i64 se):=r5.e
   have HT4:=Lib.hid hT4;have HW4:=Lib.hid hW4;have HX4:=Lib.hid x4;have HR4:=Lib.hid r5;have HB4:=Lib.hid hb4;have HTE:=Lib.hid hT
   clear r4 f4 hT hT4 hW4 x4 r5 f5 hb4 HST
   by_cases he:se=0
   ·have hn0:(nextR k g l n).2.2.2=0:=by
     rcases Int.decEq (nextR k g l n).2.2.2 0 with h1|h1
     ·exfalso
      have:=HIS.out.2 h1
      exact h1 (this.symm.trans he)
     ·exact h1
    have hst:=HIS.out.1 hn0
    have hRe:R=(tk,en,sa,0):=by
     rw[HRR2.out]
     have e1:(nextR k g l n).1=tk:=congrArg (fun x=>x.1) hst.symm
     have e2:(nextR k g l n).2.1=en:=congrArg (fun x=>x.2.1) hst.symm
     have e3:(nextR k g l n).2.2.1=sa:=congrArg (fun x=>x.2.2.1) hst.symm
     rw[←e1,←e2,←e3,←hn0]
    have d0:(se==0)=true:=by rw[he];rfl
    have d1:(se !=0)=false:=by simp[bne,d0]
    have HRE:=Lib.hid hRe
    subst he
    clear hn0 hst hRe HIS
    go_wp2_with (first
     |(refine wpList_store_rowTo rfl _ _ _ rfl rfl (h+1) T rfl rfl 82 Z HT4.out (by rw[HTS.out];exact szTok) (by rw[HZS.out,HTS.out]) HTO.out ?_;rw[←HW4.out])
     |fail)
    have HX5:Hid (BoxC (W4.drew) (h+1) T 82):=Lib.hid HX4.out
    have HR5:Hid (Rdr (W4.drew) p A l c (sa,0)):=Lib.hid HR4.out
    have HR6:Hid (Rdr ((W4.drew).setRow (h+1) T) p A l c (sa,0)):=Lib.hid (BoxC.rowO HR5.out (by omega) T)
    have HX6:Hid (BoxC ((W4.drew).setRow (h+1) T) (h+1) T 82):=Lib.hid (HX5.out.row T)
    refine wp_region_twoK 4 (twT [fun v=>v=.agg T,fun v=>v=.bool en,fun v=>v=.pointer (some ⟨p,1,none⟩),fun v=>v=.int .i64 (sa:Int),fun v=>v=undef,fun v=>v=.bool en,fun v=>v=.int .i64 (sa:Int),fun v=>v=.int .i64 0]) ((W4.drew).setRow (h+1) T) (by kernel_rfl) (by kernel_rfl) ?_ ?_
    case refine_1=>
     refine TwAllK.cons (fun aa wv hw ha hS Kk Qq hK=>tw_val (k:=0) (s:=4) (by decide) (tab_free rfl) (.agg T) (by have e:=(show aa.eval (.tmp 6)=.pointer (some ⟨h+1,0,none⟩)from((ha 6 (by kernel_rfl)).trans rfl));have hx:BoxC wv (h+1) T 82:=by {rcases hw with hw|⟨hw,_,_⟩<;>first|(rw[hw];exact HX5.out)|(rw[hw];exact HX6.out)};have hl:=run_loadVar_row (P:=Tryz.prog) wv (h+1) 82 82 T (0,0) _ hx Tryz.underlying82 rfl (by rw[HTS.out];exact szTok);unfold execOp;simp only[e,Instr.loadAt,Instr.sureAddr,Sem.run_bind,Sem.run_pure,Result.andThen_ok,hl]) hK rfl) ?_
     refine TwAllK.cons (fun aa wv hw ha hS Kk Qq hK=>tw_val (k:=1) (s:=4) (by decide) (tab_free rfl) (.bool en) (by have e:=(show aa.eval (.tmp 7)=.bool en from((ha 7 (by kernel_rfl)).trans rfl));unfold execOp;simp only[e];rfl) hK rfl) ?_
     refine TwAllK.cons (fun aa wv hw ha hS Kk Qq hK=>tw_val (k:=2) (s:=4) (by decide) (tab_free rfl) (.pointer (some ⟨p,1,none⟩)) (by have e:=(show aa.eval (.tmp 12)=.pointer (some ⟨p,0,none⟩)from((ha 12 (by kernel_rfl)).trans rfl));unfold execOp;simp only[e];go_simp) hK rfl) ?_
     refine TwAllK.cons (fun aa wv hw ha hS Kk Qq hK=>tw_val (k:=3) (s:=4) (by decide) (tab_free rfl) (.int .i64 (sa:Int)) (by have e:=(show aa.eval (.tmp 42)=.pointer (some ⟨p,1,none⟩)from hS 2 42 (by kernel_rfl) rfl);have hc:wv.cell? ⟨p,1,none⟩=some (.int .i64 (sa:Int)):=by {rcases hw with hw|⟨hw,_,_⟩<;>first|(rw[hw];exact HR5.out.a)|(rw[hw];exact HR6.out.a)};unfold execOp;simp only[e];go_simp) hK rfl) ?_
     refine TwAllK.cons (fun aa wv hw ha hS Kk Qq hK=>tw_store (s:=4) (tab_free rfl) rfl (by have e1:=(show aa.eval (.tmp 6)=.pointer (some ⟨h+1,0,none⟩)from((ha 6 (by kernel_rfl)).trans rfl));have e2:=(show aa.eval (.tmp 40)=.agg T from hS 0 40 (by kernel_rfl) rfl);have hww:wv=W4.drew:=by {rcases hw with hw|⟨_,hw,_⟩<;>first|exact hw|exact absurd rfl hw};subst hww;have hst:=run_storeVar_row (P:=Tryz.prog) (W4.drew) (h+1) 82 82 T T HX5.out (by rw[HTS.out];exact szTok) (HTS.out.trans HTS.out.symm) HTO.out;unfold execOp;simp only[e1,e2,Instr.storeAt,Instr.sureAddr,Sem.run_bind,Sem.run_pure,Result.andThen_ok,hst]) hK rfl) ?_
     refine TwAllK.cons (fun aa wv hw ha hS Kk Qq hK=>tw_val (k:=5) (s:=4) (by decide) (tab_free rfl) (.bool en) (by have e:=(show aa.eval (.tmp 41)=.bool en from hS 1 41 (by kernel_rfl) rfl);unfold execOp;simp only[e];rfl) hK rfl) ?_
     refine TwAllK.cons (fun aa wv hw ha hS Kk Qq hK=>tw_val (k:=6) (s:=4) (by decide) (tab_free rfl) (.int .i64 (sa:Int)) (by have e:=(show aa.eval (.tmp 43)=.int .i64 (sa:Int)from hS 3 43 (by kernel_rfl) rfl);unfold execOp;simp only[e];rfl) hK rfl) ?_
     refine TwAllK.cons (fun aa wv hw ha hS Kk Qq hK=>tw_val (k:=7) (s:=4) (by decide) (tab_free rfl) (.int .i64 0) (by unfold execOp;rfl) hK rfl) ?_
     exact TwAllK.nil
    intro vals hv
    have e1:vals 7=.bool en:=hv 5 7 rfl
    have e2:vals 8=.int .i64 (sa:Int):=hv 6 8 rfl
    have e3:vals 9=.int .i64 0:=hv 7 9 rfl
    clear hv
    simp only[List.map_cons,List.map_nil,putL,Act.put,List.setIfInBounds_toArray,List.set_cons_zero,List.set_cons_succ,e1,e2,e3]
    clear e1 e2 e3
    go_wp2
    refine bodyPost_ret (v:=.tuple #[.agg T,.bool en,.int .i64 (sa:Int),.int .i64 0]) ((cell_tok4 rfl _ _ (h+1) T HTS.out rfl HX6.out).trans rfl) rfl ⟨by rw[HRE.out,HTE.out];rfl,?_⟩
    rw[←HH.out];exact below_rowC (Below.drew HB4.out) (by omega) _
   ·have hn0:(nextR k g l n).2.2.2=se:=by
     rcases Int.decEq (nextR k g l n).2.2.2 0 with h1|h1
     ·exact(HIS.out.2 h1).symm
     ·exfalso
      have:=congrArg (fun x=>x.2.2.2) (HIS.out.1 h1)
      exact he this
    have hRe:R=(tokZ,false,0,se):=by rw[HRR2.out,nxt_err (by rw[hn0];exact he),hn0]
    have d0:(se==0)=false:=beq_eq_false_iff_ne.2 he
    have d1:(se !=0)=true:=by simp[bne,d0]
    have HRE:=Lib.hid hRe
    clear hn0 hRe HIS he
    go_wp2_with (first
     |(refine wpList_store_rowTo rfl _ _ _ rfl rfl (h+1) T rfl rfl 82 Z HT4.out (by rw[HTS.out];exact szTok) (by rw[HZS.out,HTS.out]) HTO.out ?_;rw[←HW4.out])
     |fail)
    have HX5:Hid (BoxC (W4.drew) (h+1) T 82):=Lib.hid HX4.out
    have HR5:Hid (Rdr (W4.drew) p A l c (sa,se)):=Lib.hid HR4.out
    have HR6:Hid (Rdr ((W4.drew).setRow (h+1) Z) p A l c (sa,se)):=Lib.hid (BoxC.rowO HR5.out (by omega) Z)
    have HX6:Hid (BoxC ((W4.drew).setRow (h+1) Z) (h+1) Z 82):=Lib.hid (HX5.out.row Z)
    refine wp_region_two 3 (twT [fun v=>v=.agg Z,fun v=>v=.pointer (some ⟨p,2,none⟩),fun v=>v=.int .i64 se,fun v=>v=undef,fun v=>v=.bool false,fun v=>v=.int .i64 0,fun v=>v=.int .i64 se]) ((W4.drew).setRow (h+1) Z) (by kernel_rfl) (by kernel_rfl) ?_ ?_
    case refine_1=>
     refine TwAll.cons (fun aa wv hw ha hS Kk Qq hK=>tw_val (k:=0) (s:=3) (by decide) (tab_free rfl) (.agg Z) (by have hbz:=run_build (P:=Tryz.prog) wv 82 (#[]:Array (Nat×Value)) Z HZB.out;unfold execOp;simp only[List.map_toArray,List.map_nil,Sem.run_bind,hbz,Result.andThen_ok];rfl) hK rfl) ?_
     refine TwAll.cons (fun aa wv hw ha hS Kk Qq hK=>tw_val (k:=1) (s:=3) (by decide) (tab_free rfl) (.pointer (some ⟨p,2,none⟩)) (by have e:=(show aa.eval (.tmp 12)=.pointer (some ⟨p,0,none⟩)from((ha 12 (by kernel_rfl)).trans rfl));unfold execOp;simp only[e];go_simp) hK rfl) ?_
     refine TwAll.cons (fun aa wv hw ha hS Kk Qq hK=>tw_val (k:=2) (s:=3) (by decide) (tab_free rfl) (.int .i64 se) (by have e:=(show aa.eval (.tmp 38)=.pointer (some ⟨p,2,none⟩)from hS 1 38 (by kernel_rfl) rfl);have hc:wv.cell? ⟨p,2,none⟩=some (.int .i64 se):=by {rcases hw with hw|⟨hw,_,_⟩<;>first|(rw[hw];exact HR5.out.e)|(rw[hw];exact HR6.out.e)};unfold execOp;simp only[e];go_simp) hK rfl) ?_
     refine TwAll.cons (fun aa wv hw ha hS Kk Qq hK=>tw_store (s:=3) (tab_free rfl) rfl (by have e1:=(show aa.eval (.tmp 6)=.pointer (some ⟨h+1,0,none⟩)from((ha 6 (by kernel_rfl)).trans rfl));have e2:=(show aa.eval (.tmp 37)=.agg Z from hS 0 37 (by kernel_rfl) rfl);have hww:wv=W4.drew:=by {rcases hw with hw|⟨_,hw,_⟩<;>first|exact hw|exact absurd rfl hw};subst hww;have hst:=run_storeVar_row (P:=Tryz.prog) (W4.drew) (h+1) 82 82 T Z HX5.out (by rw[HZS.out];exact szTok) (HTS.out.trans HZS.out.symm) HZO.out;unfold execOp;simp only[e1,e2,Instr.storeAt,Instr.sureAddr,Sem.run_bind,Sem.run_pure,Result.andThen_ok,hst]) hK rfl) ?_
     refine TwAll.cons (fun aa wv hw ha hS Kk Qq hK=>tw_val (k:=4) (s:=3) (by decide) (tab_free rfl) (.bool false) (by unfold execOp;rfl) hK rfl) ?_
     refine TwAll.cons (fun aa wv hw ha hS Kk Qq hK=>tw_val (k:=5) (s:=3) (by decide) (tab_free rfl) (.int .i64 0) (by unfold execOp;rfl) hK rfl) ?_
     refine TwAll.cons (fun aa wv hw ha hS Kk Qq hK=>tw_val (k:=6) (s:=3) (by decide) (tab_free rfl) (.int .i64 se) (by have e:=(show aa.eval (.tmp 39)=.int .i64 se from hS 2 39 (by kernel_rfl) rfl);unfold execOp;simp only[e];rfl) hK rfl) ?_
     exact TwAll.nil
    intro vals hv
    have e1:vals 7=.bool false:=hv 4 7 rfl
    have e2:vals 8=.int .i64 0:=hv 5 8 rfl
    have e3:vals 9=.int .i64 se:=hv 6 9 rfl
    clear hv
    simp only[List.map_cons,List.map_nil,putL,Act.put,List.setIfInBounds_toArray,List.set_cons_zero,List.set_cons_succ,e1,e2,e3]
    clear e1 e2 e3
    go_wp2
    refine bodyPost_ret (v:=.tuple #[.agg Z,.bool false,.int .i64 0,.int .i64 se]) ((cell_tok4 rfl _ _ (h+1) Z HZS.out rfl HX6.out).trans rfl) rfl ⟨by rw[HRE.out,HZE.out];rfl,?_⟩
    rw[←HH.out];exact below_rowC (Below.drew HB4.out) (by omega) _
  ·subst hrf
   have HRE:Hid (R=(tokZ,false,0,8)):=Lib.hid (by rw[HRR.out,if_neg (fun h=>h rfl),if_pos rfl])
   clear ha HK HRR HXE
   go_enter Tryz.func60,Tryz.ntmps60
   go_wp2_with (first|(rw[←HW1.out,←HH.out])|fail)
   refine HAS.out.mono ?_
   rintro e w9 ⟨rfl,rfl⟩
   go_wp2_with (first
    |(refine wpList_load_row rfl _ _ rfl h rfl _ X (0,0) _ HX1.out Tryz.underlying28 rfl (szBlkT X HXS.out) ?_)
    |fail)
   refine HCH.out.mono ?_
   unfold chkI
   rw[if_neg (by decide)]
   rintro e w3 ⟨rfl,hb3⟩
   have HT3:=Lib.hid (HT1.out.below hb3 (by rw[HS1.out];omega))
   have HB3:=Lib.hid (HB1.out.trans (hb3.mono (by rw[HS1.out];omega)))
   have d8:((8:Int) !=0)=true:=rfl
   clear hb3
   go_wp2_with (first
    |(refine wpList_buildTo rfl 82 #[] rfl (some 24) rfl Z ?_ ?_;focus(simpa[Act.eval]using HZB.out))
    |(refine wpList_store_rowTo rfl _ _ _ rfl rfl (h+1) Z rfl rfl 82 Z HT3.out (by rw[HZS.out];exact szTok) rfl HZO.out ?_)
    |fail)
   refine bodyPost_ret ((cell_tok4 rfl _ _ (h+1) _ HZS.out rfl (setRow_heap _ _ _ _ _ _ HT3.out)).trans rfl) rfl ⟨by rw[HRE.out,HZE.out];rfl,?_⟩
   rw[←HH.out];exact below_rowC HB3.out (by omega) _
 have d0:(q==0)=false:=beq_eq_false_iff_ne.2 q0
 have d1:(q !=0)=true:=by simp[bne,d0]
 have HRE:Hid (R=(tokZ,false,0,q)):=Lib.hid (by rw[HRR.out,if_pos q0])
 clear HK HRR HXE
 go_enter Tryz.func60,Tryz.ntmps60
 go_wp2_with (first|(rw[←HW1.out,←HH.out])|fail)
 refine HAS.out.mono ?_
 rintro e w9 ⟨rfl,rfl⟩
 go_wp2_with (first
  |(refine wpList_buildTo rfl 82 #[] rfl (some 18) rfl Z ?_ ?_;focus(simpa[Act.eval]using HZB.out))
  |(refine wpList_store_rowTo rfl _ _ _ rfl rfl (h+1) Z rfl rfl 82 Z HT1.out (by rw[HZS.out];exact szTok) rfl HZO.out ?_)
  |fail)
 refine bodyPost_ret ((cell_tok4 rfl _ _ (h+1) _ HZS.out rfl (setRow_heap _ _ _ _ _ _ HT1.out)).trans rfl) rfl ⟨by rw[HRE.out,HZE.out];rfl,?_⟩
 rw[←HH.out];exact below_rowC HB1.out (by omega) _
end Go.Proofs.YtcmpmighjglnpaaGreat
namespace Go.Proofs.YtcmpmighjglnpaaGreat
theorem ahead_cut(g:Nat→Nat){m L:Nat}(h:m≤L):Ahead g m g L:=⟨h,fun _ _=>rfl⟩
theorem next_piece{k:Blk13}{g:Nat→Nat}{L a:Nat}(hk:BlkIn k)(ha:a≤8*L):nextR k g L a=upN (8*(a/8)) (nextR k (dropG g (a/8)) (min 600 (L-a/8)) (a%8)):=by
 have e:a=8*(a/8)+a%8:=by omega
 have h1:nextR k g L a=nextR k g L (8*(a/8)+a%8):=by rw[←e]
 rw[h1,next_drop (s:=a/8) (by omega)]
 by_cases h2:L-a/8≤600
 ·rw[Nat.min_eq_right h2]
 ·rw[Nat.min_eq_left (by omega)]
  rw[(ahead_cut (dropG g (a/8)) (m:=600) (L:=L-a/8) (by omega)).next fun h=>?_]
  have:=next_room hk h
  omega
theorem beg_piece{g:Nat→Nat}{L a:Nat}(ha:a≤8*L):begR g L a=upR (8*(a/8)) (begR (dropG g (a/8)) (min 600 (L-a/8)) (a%8)):=by
 have e:a=8*(a/8)+a%8:=by omega
 have h1:begR g L a=begR g L (8*(a/8)+a%8):=by rw[←e]
 rw[h1,beg_drop (s:=a/8) (by omega)]
 by_cases h2:L-a/8≤600
 ·rw[Nat.min_eq_right h2]
 ·rw[Nat.min_eq_left (by omega)]
  rw[(ahead_cut (dropG g (a/8)) (m:=600) (L:=L-a/8) (by omega)).beg fun h=>?_]
  have:=beg_room h
  omega
theorem piece_asked{L a:Nat}(ha:a≤8*L):asked13 (min 600 (L-a/8)) ((a%8:Nat):Int)=0:=by
 unfold asked13
 rw[if_neg (by omega),if_neg (by omega)]
theorem head_reads14{g:Nat→Nat}{L a:Nat}(ha:a≤8*L)(h:(begR g L a).2.2=0){k:Blk13}(hk:(begR g L a).1=k):
  MayI k.kind (k.left:Int) (tcO k.kind k.F k.n) (syO k.kind k.F k.n) (tcO k.kind k.G k.m) (syO k.kind k.G k.m)∧
  ReadsB k k.kind k.last (k.left:Int) (tcO k.kind k.F k.n) (syO k.kind k.F k.n) (tcO k.kind k.G k.m) (syO k.kind k.G k.m)∧(syO k.kind k.F k.n).length≤320∧(syO k.kind k.G k.m).length≤320:=by
 obtain⟨e1,e2,e3,e4,e5,e6,e7,e8⟩:=(head_is (g:=g) (L:=L) ha).1 h
 obtain⟨s1,s2⟩:=beg_small ha h
 rw[hk]at e5 e6 e8 s1 s2
 by_cases k0:k.kind=0
 ·have t1:∀F n,tcO k.kind F n=fun _=>0:=fun F n=>by unfold tcO;rw[if_pos k0]
  have t2:∀F n,syO k.kind F n=[]:=fun F n=>by unfold syO;rw[if_pos k0]
  rw[t1,t1,t2,t2]
  refine⟨.inl ⟨k0,by omega,by omega,by decide+kernel,by decide+kernel⟩,⟨rfl,rfl,rfl,e6,s1,s2,fun h=>absurd k0 h⟩,by decide,by decide⟩
 ·obtain⟨c0,_,_,_,_,c5,c6⟩:=e8 k0
  have q1:tcO k.kind k.F k.n=grC k.F k.n 15:=by unfold tcO;rw[if_neg k0];funext m;unfold grC;rw[if_pos c5]
  have q2:tcO k.kind k.G k.m=grC k.G k.m 15:=by unfold tcO;rw[if_neg k0];funext m;unfold grC;rw[if_pos c6]
  have q3:syO k.kind k.F k.n=grS k.F k.n 15:=by unfold syO grS;rw[if_neg k0,if_pos c5]
  have q4:syO k.kind k.G k.m=grS k.G k.m 15:=by unfold syO grS;rw[if_neg k0,if_pos c6]
  have g1:=grown_tree c5
  have g2:=grown_tree c6
  rw[q1,q2,q3,q4,c0]
  refine⟨.inr ⟨by omega,rfl,⟨_,g1⟩,⟨_,g2⟩⟩,⟨rfl,rfl,by rw[c0],by omega,s1,s2,fun _=>⟨g1,g2⟩⟩,by have:=(isTree_length g1).2;omega,by have:=(isTree_length g2).2;omega⟩
end Go.Proofs.YtcmpmighjglnpaaGreat
namespace Go.Proofs.YtcmpmighjglnpaaGreat
structure GoodK (k:Blk13):Prop where
 kind:k.kind≤2
 left:k.left≤65535
 n:k.n≤320
 m:k.m≤320
 code:k.kind≠0→k.left=0∧checkE k.F k.n 15=0∧checkE k.G k.m 15=0
theorem GoodK.into{k:Blk13}(h:GoodK k):BlkIn k:=⟨h.kind,h.left,fun h0=>CodeOk.of (h.code h0).2.1,fun h0=>CodeOk.of (h.code h0).2.2⟩
theorem GoodK.less{k:Blk13}(h:GoodK k):GoodK (lessK k):=
 ⟨h.kind,by show k.left-1≤65535;have:=h.left;omega,h.n,h.m,fun h0=>⟨by show k.left-1=0;have:=(h.code h0).1;omega,(h.code h0).2⟩⟩
theorem beg_goodK{g:Nat→Nat}{L a:Nat}(ha:a≤8*L)(h:(begR g L a).2.2=0):GoodK (begR g L a).1:=by
 obtain⟨_,_,_,_,h5,h6,_,h8⟩:=(head_is (g:=g) (L:=L) ha).1 h
 obtain⟨b1,b2⟩:=beg_small ha h
 exact⟨h5,h6,b1,b2,fun h0=>by obtain⟨c0,_,_,_,_,c5,c6⟩:=h8 h0;exact⟨c0,c5,c6⟩⟩
def addO(o:List Nat)(r:SwR):SwR:=if r.err=0 then{r with out:=o++r.out}else r
theorem addO_ok{o:List Nat}{st:Option Blk13}{ov:Bool}{win:List Nat}{made:Nat}{out:List Nat}{a:Nat}:addO o ⟨0,st,ov,win,made,out,a⟩=⟨0,st,ov,win,made,o++out,a⟩:=if_pos rfl
theorem addO_err{o:List Nat}{e:Int}(h:e≠0):addO o (swE e)=swE e:=if_neg h
theorem fed_out{g:Nat→Nat}{L most:Nat}(o:List Nat):∀f st win made out a,fedR g L most f st win made (o++out) a=addO o (fedR g L most f st win made out a)
 |0,st,win,made,out,a=>by unfold fedR;rw[addO_ok]
 |f+1,none,win,made,out,a=>by
  rw[fed_n,fed_n]
  by_cases h0:(begR g L a).2.2=10
  ·rw[if_pos h0,if_pos h0,addO_ok]
  ·rw[if_neg h0,if_neg h0]
   by_cases h1:(begR g L a).2.2≠0
   ·rw[if_pos h1,if_pos h1,addO_err h1]
   ·rw[if_neg h1,if_neg h1];exact fed_out o f _ _ _ _ _
 |f+1,some k,win,made,out,a=>by
  rw[fed_s,fed_s]
  by_cases h0:(nextR k g L a).2.2.2=10
  ·rw[if_pos h0,if_pos h0,addO_ok]
  ·rw[if_neg h0,if_neg h0]
   by_cases h1:(nextR k g L a).2.2.2≠0
   ·rw[if_pos h1,if_pos h1,addO_err h1]
   ·rw[if_neg h1,if_neg h1]
    by_cases h2:(nextR k g L a).2.1=true
    ·rw[if_pos h2,if_pos h2]
     by_cases h3:k.last=true
     ·rw[if_pos h3,if_pos h3,addO_ok]
     ·rw[if_neg h3,if_neg h3];exact fed_out o f _ _ _ _ _
    ·rw[if_neg h2,if_neg h2]
     split
     ·rw[addO_err (by decide)]
     ·split
      ·rw[addO_err (by decide)]
      ·rw[List.append_assoc];exact fed_out o f _ _ _ _ _
theorem fed_outA{g:Nat→Nat}{L most:Nat}(o:List Nat)(st:Option Blk13)(win:List Nat)(made a:Nat):fedA g L most st win made o a=addO o (fedA g L most st win made [] a):=by
 have h:=fed_out (g:=g) (L:=L) (most:=most) o (muT L a st+1) st win made [] a
 rw[List.append_nil]at h
 exact h
structure Kept (g:Nat→Nat) (L most:Nat) (win:List Nat) (made:Nat) (out:List Nat) (a:Nat) (q:SwR):Prop where
 told:∃o,q.out=out++o∧q.made=made+o.length∧q.win=lastN 32768 (win++o)∧BytesP o
 room:q.made≤most
 le:a≤q.at_
 inn:q.at_≤8*L
 over:q.over=true→q.st=none
 head:q.over=false→q.st=none→(begR g L q.at_).2.2=10
 step:∀k,q.st=some k→GoodK k∧(nextR k g L q.at_).2.2.2=10
theorem tok_bytes{win:List Nat}{t:Tok}(hw:BytesP win)(hx:t.x<256):BytesP (tokB win t):=by
 intro x h
 unfold tokB at h
 split at h
 ·simp at h;omega
 ·unfold copL at h
  obtain⟨i,_,rfl⟩:=List.mem_map.1 h
  exact lst_lt hw _
theorem Kept.more{g:Nat→Nat}{L most:Nat}{win b:List Nat}{made:Nat}{out:List Nat}{a p:Nat}{q:SwR}(hb:BytesP b)(hp:a≤p)(h:Kept g L most (winI win b) (made+b.length) (out++b) p q):Kept g L most win made out a q:=by
 obtain⟨⟨o,h1,h2,h3,h4⟩,h5,h6,h7,h8,h9,h10⟩:=h
 refine⟨⟨b++o,by rw[h1,List.append_assoc],by rw[h2,List.length_append];omega,?_,fun x hx=>(List.mem_append.1 hx).elim (hb x) (h4 x)⟩,h5,by omega,h7,h8,h9,h10⟩
 rw[h3];unfold winI;rw[lastN_two,List.append_assoc]
theorem Kept.far{g:Nat→Nat}{L most:Nat}{win:List Nat}{made:Nat}{out:List Nat}{a p:Nat}{q:SwR}(hp:a≤p)(h:Kept g L most win made out p q):Kept g L most win made out a q:=
 ⟨h.told,h.room,Nat.le_trans hp h.le,h.inn,h.over,h.head,h.step⟩
theorem Kept.none{g:Nat→Nat}{L most:Nat}{win:List Nat}{made:Nat}{out:List Nat}{a:Nat}{st:Option Blk13}{ov:Bool}{p:Nat}(hw:win.length≤32768)(hm:made≤most)(hp:a≤p)(hl:p≤8*L)(h1:ov=true→st=.none)(h2:ov=false→st=.none→(begR g L p).2.2=10)(h3:∀k,st=some k→GoodK k∧(nextR k g L p).2.2.2=10):Kept g L most win made out a ⟨0,st,ov,win,made,out,p⟩:=
 ⟨⟨[],by rw[List.append_nil],rfl,by rw[List.append_nil];unfold lastN;rw[show win.length-32768=0 by omega,List.drop_zero],fun x hx=>by cases hx⟩,hm,hp,hl,h1,h2,h3⟩
theorem fed_keeps{g:Nat→Nat}{L most:Nat}:∀f st win made out a,a≤8*L→muT L a st<f→win.length≤32768→BytesP win→made≤most→(∀k,st=some k→GoodK k)→
  (fedR g L most f st win made out a).err=0→Kept g L most win made out a (fedR g L most f st win made out a)
 |0,_,_,_,_,_,_,hf,_,_,_,_,_=>absurd hf (by omega)
 |f+1,none,win,made,out,a,ha,hf,hw,hb,hm,hk,he=>by
  rw[fed_n]at he⊢
  by_cases h0:(begR g L a).2.2=10
  ·rw[if_pos h0]
   exact Kept.none hw hm (Nat.le_refl _) ha (fun _=>rfl) (fun _ _=>h0) (fun k h=>by cases h)
  ·rw[if_neg h0]at he⊢
   by_cases h1:(begR g L a).2.2≠0
   ·rw[if_pos h1]at he;exact absurd he h1
   ·rw[if_neg h1]at he⊢
    obtain⟨b1,b2⟩:=beg_fwd (g:=g) (L:=L) (a:=a) (by omega)
    refine Kept.far (by omega) (fed_keeps f _ _ _ _ _ b2 (by simp only[muT]at hf⊢;omega) hw hb hm (fun k h=>?_) he)
    injection h with h;rw[←h];exact beg_goodK ha (by omega)
 |f+1,some k,win,made,out,a,ha,hf,hw,hb,hm,hk,he=>by
  rw[fed_s]at he⊢
  by_cases h0:(nextR k g L a).2.2.2=10
  ·rw[if_pos h0]
   exact Kept.none hw hm (Nat.le_refl _) ha (fun h=>by cases h) (fun _ h=>by cases h) (fun k' h=>by injection h with h;rw[←h];exact⟨hk k rfl,h0⟩)
  ·rw[if_neg h0]at he⊢
   by_cases h1:(nextR k g L a).2.2.2≠0
   ·rw[if_pos h1]at he;exact absurd he h1
   ·rw[if_neg h1]at he⊢
    obtain⟨b1,b2,b3⟩:=next_fwd (k:=k) (g:=g) ha (by omega)
    have hmy:=next_may (k:=k) (g:=g) (L:=L) (a:=a) (by omega)
    simp only[muT]at hf
    by_cases h2:(nextR k g L a).2.1=true
    ·rw[if_pos h2]at he⊢
     by_cases h3:k.last=true
     ·rw[if_pos h3]
      exact Kept.none hw hm b1 b2 (fun _=>rfl) (fun h=>by cases h) (fun k h=>by cases h)
     ·rw[if_neg h3]at he⊢
      exact Kept.far b1 (fed_keeps f _ _ _ _ _ b2 (by simp only[muT];omega) hw hb hm (fun k h=>by cases h) he)
    ·rw[if_neg h2]at he⊢
     have b4:=b3 (by simpa using h2)
     obtain⟨m1,m2⟩:=hmy (by simpa using h2)
     by_cases h3:(win.length:Int)<(nextR k g L a).1.d
     ·rw[if_pos h3]at he;exact absurd he (show¬(60:Int)=0 by decide)
     ·rw[if_neg h3]at he⊢
      by_cases h4:most<made+lenT (nextR k g L a).1
      ·rw[if_pos h4]at he;exact absurd he (show¬(140:Int)=0 by decide)
      ·rw[if_neg h4]at he⊢
       have ht:=tok_bytes hb m2
       refine Kept.more ht b1 ?_
       rw[len_tok]
       refine fed_keeps f _ _ _ _ _ b2 (by simp only[muT];omega) ?_ ?_ (by omega) (fun k' h=>?_) he
       ·unfold winI;rw[lastN_len];omega
       ·unfold winI;exact lastN_mem fun x hx=>(List.mem_append.1 hx).elim (hb x) (ht x)
       ·injection h with h;rw[←h];exact(hk k rfl).less
theorem Kept.few{g:Nat→Nat}{L most:Nat}{win:List Nat}{made:Nat}{out:List Nat}{a:Nat}{q:SwR}(h:Kept g L most win made out a q)(ho:q.over=false):L-q.at_/8≤600:=by
 have h1:8*L<q.at_+4600:=by
  cases hs:q.st with
  |none=>exact beg_room (h.head ho hs)
  |some k=>have:=next_room (h.step k hs).1.into (h.step k hs).2;omega
 omega
end Go.Proofs.YtcmpmighjglnpaaGreat
