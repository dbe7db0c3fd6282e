/-
  Words and walks.
-/
import Derived.Test.YtgokdgcmkcmjeaaGreatpbbj
set_option maxRecDepth 100000
set_option maxHeartbeats 16000000
namespace Go.Proofs.YtgokdgcmkcmjeaaGreat
open Go.RowKit Go.Shelf
attribute [local go_sem] Oper.semAt_some
attribute [local simp] wide_fn
theorem stT_in{k:Blk13}{g:Nat→Nat}{L:Nat}{s:Rz}(h:s.1≤8*L):(stT k g L s).2.2.1≤8*L:=by
 unfold stT
 split
 ·split
  ·exact h
  ·exact tkS_in h
 ·dsimp only
  split
  ·exact syS_in h
  ·split
   ·exact syS_in h
   ·exact nuS_in (syS_in (nuS_in (syS_in h)))
theorem stT_fwd{k:Blk13}{g:Nat→Nat}{L:Nat}{s:Rz}(h:s.1≤8*L)(h0:s.2=0):(stT k g L s).2.2.2=0→s.1≤(stT k g L s).2.2.1:=by
 obtain⟨a,e⟩:=s
 have e0:e=0:=h0
 subst e0
 intro h1
 obtain⟨s1,s2⟩:=stT_is (k:=k) (g:=g) (L:=L) (a:=a)
 rcases Int.decEq (nextR k g L a).2.2.2 0 with h2|h2
 ·exact absurd ((s2 h2).symm.trans h1) h2
 ·rw[s1 h2];exact(next_fwd h h2).1
theorem TGo.step2{g:Nat→Nat}{L lim:Nat}{R:List Nat×Nat×Int}{T:List Tok}{M:Nat}{q:Rz}{k:Blk13}(h:TGo g L lim R T M q (some k)){t:Tok}{en:Bool}{q':Rz}(hr:(t,en,q')=stT k g L q):
  (q'.2≠0→TBad lim R T q')∧(q'.2=0→en=true→if k.last=true then TFin lim R T q' else TGo g L lim R T M q' none)∧
  (q'.2=0→en=false→mayT t=true∧t.x<256∧q.1+1≤q'.1∧q'.1≤8*L∧((bdQ lim M t q').2≠0→TBad lim R (bdT lim M T t q') (bdQ lim M t q'))∧((bdQ lim M t q').2=0→TGo g L lim R (bdT lim M T t q') (M+lenT t) (bdQ lim M t q') (some (lessK k)))):=by
 obtain⟨a,e⟩:=q
 have e0:e=0:=h.err
 subst e0
 have:=h.step
 rw[←hr]at this
 exact this
theorem steps1_in(fu:Nat)(hfu:1≤fu)(g:Nat→Nat)(x:Lie)(hg0:RdF (At x.p) x.w0 x.A x.l g)(hl:x.l≤1000000)(k:Blk13)(hkd:k.kind<256)(hn:k.n≤320)(hm:k.m≤320)(c1 c2:Nat→Int)(v1 v2:Value)(y1 y2:List Int)(b:Nat)
  (Gd:Prop) (hit:Gd→k.kind≠0→IsTree c1 y1 (extF k.n k.F)∧IsTree c2 y2 (extF k.m k.G)) (R:List Nat×Nat×Int) (lo:Nat) (lY:Nat) (X:World→Prop) (D:Nat) (hbD:b+1<D)
  (hX:∀W1 W2,X W1→(∀k,(k=D∨k=D+1)→W2.heap[k]?=W1.heap[k]?)→X W2)
  (hY:∀s W1,I0y x k c1 c2 v1 v2 y1 y2 b s W1→D+2≤W1.heap.size→X W1→YieldAt Fence.wide (fu-1) Tryz.prog lY (encY s) W1 fun e W'=>e=.returned (.bool true)∧I1y x k c1 c2 v1 v2 y1 y2 b s W'∧D+2≤W'.heap.size∧X W')
  (W:World) (hD:D+2≤W.heap.size) (hI:IsY g x k c1 c2 v1 v2 y1 y2 b Gd R lo W) (hx:X W):
  CallsIn Fence.wide fu Tryz.prog 159 #[.func (.yield lY) #[] #[],.pointer (some ⟨b,0,none⟩),.pointer (some ⟨b+1,0,none⟩)] W fun e W'=>(∃v,e=.returned v)∧IeY g x k R lo W'∧X W':=by
 refine callsIn_of_wp Tryz.func159 rfl trivial ?_ rfl
 simp only[Tryz.ntmps159,List.size_toArray,List.length_cons,List.length_nil,Nat.reduceAdd,Nat.reduceSub,Array.replicate_succ,Array.replicate_zero,List.push_toArray,List.append_toArray,List.nil_append,List.cons_append]
 have HG0:=Lib.hid hg0;have HIT:=Lib.hid hit;have HX:=Lib.hid hX;have HY:=Lib.hid hY;have HOK:=Lib.hid x.ok
 have HIs:=Lib.hid hI;have HXW:=Lib.hid hx
 clear hg0 hit hX hY hI hx
 gi_wp2
 gi_loopw [] (fun wr=>∃(T:List Tok) (M:Nat) (q:Rz) (left:Nat),Hid (Col x T M q wr)∧Hid (Blo x k c1 c2 v1 v2 y1 y2 b left wr)∧left≤65535∧Hid (k.kind≠0→left=0)∧Hid (InB g x k Gd R T M q left lo)∧Hid (X wr)∧D+2≤wr.heap.size) (fun wr=>match wr.cell? ⟨x.p,1,none⟩,wr.cell? ⟨x.p,2,none⟩with|some (.int .i64 a),some (.int .i64 e)=>if e=0 then 8*x.l+1-a.toNat else 0|_,_=>0)
 case atStart=>
  obtain⟨T,M,q,left,h1,h2,h3,h4,h5⟩:=HIs.out
  exact⟨T,M,q,left,Lib.hid h1,Lib.hid h2,h3,Lib.hid h4,Lib.hid h5,HXW,hD⟩
 case round=>
  obtain⟨T,M,q,left,HC,HB,hleft,HL0,HIN,HXR,hsz⟩:=hrel
  have cb:=(HB.out.bp).cell
  have hq8:q.1≤8*x.l:=by rcases HIN.out with h|h;exact h.2.1.place;exact h.2
  obtain⟨kk,hkk⟩:∃kk:Blk13,kk={k with left:=left}:=⟨_,rfl⟩
  have hS:∀j,At x.p j→j<x.u:=fun j (e:j=x.p)=>by have:=HOK.out;unfold Lie.u;omega
  have hpl:x.p<wr.heap.size:=HC.out.rdr.lt
  have hst:=pstep_any wr x.p x.A x.l x.c g q HC.out.rdr (At x.p) rfl (fun j (e:j=x.p)=>by omega) (HG0.out.fr HC.out.fr) hl hq8 kk (by rw[hkk];exact hkd) (by rw[hkk];exact hleft) (by rw[hkk];exact hn) (by rw[hkk];exact hm) c1 c2 v1 v2 HB.out.o1.one HB.out.o2.one (fun e=>by
   rcases HIN.out with h|h
   ·intro k0
    rw[hkk]at k0⊢
    obtain⟨t1,t2⟩:=HIT.out h.1 k0
    exact⟨⟨y1,RiF.of_own HB.out.o1 hS,t1⟩,⟨y2,RiF.of_own HB.out.o2 hS,t2⟩⟩
   ·exact absurd e h.1.err)
  have hTG:q.2=0→Gd∧TGo g x.l x.lim R T M q (some kk)∧lo≤q.1:=fun e=>by
   rcases HIN.out with h|h
   ·exact⟨h.1,by rw[hkk];exact h.2.1,h.2.2⟩
   ·exact absurd e h.1.err
  have hTB:q.2≠0→TBad x.lim R T q:=fun e=>by
   rcases HIN.out with h|h
   ·exact absurd h.2.1.err e
   ·exact h.1
  have hk1:kk.last=k.last∧kk.kind=k.kind∧kk.left=left:=by rw[hkk];exact⟨rfl,rfl,rfl⟩
  have HSE:=Lib.hid (stT_err (k:=kk) (g:=g) (L:=x.l) (s:=q))
  obtain⟨⟨⟨tx,td,tn⟩,en,q'⟩,hr⟩:∃r,r=stT kk g x.l q:=⟨_,rfl⟩
  rw[←hr]at hst HSE
  have hin':q'.1≤8*x.l:=by have:=stT_in (k:=kk) (g:=g) (L:=x.l) (s:=q) hq8;rw[←hr]at this;exact this
  have HSTP:=Lib.hid fun e=>(hTG e).2.1.step2 hr
  have HST:=Lib.hid hst;have HTG:=Lib.hid hTG;have HTB:=Lib.hid hTB;have HK1:=Lib.hid hk1;have HIN':=Lib.hid hin'
  have HM1:=Lib.hid (HC.out.rdr.a);have HM2:=Lib.hid (HC.out.rdr.e)
  rw[hk1.2.1,hk1.1,hk1.2.2]at HST
  obtain⟨V,hV⟩:∃V,V=blkT k.kind k.last left c1 c2 v1 v2:=⟨_,rfl⟩
  rw[←hV]at HST
  have HBK:Hid (BoxC wr (b+1) V 28):=Lib.hid (by rw[hV];exact HB.out.bk)
  have HVS:Hid (V.size=37):=Lib.hid (by rw[hV];exact blkT_size ..)
  unfold stpV tkA3 at HST
  have HRR:=Lib.hid hr;have HKK:=Lib.hid hkk;have HVE:=Lib.hid hV
  clear hst hTG hTB hk1 hr hV hkk hin' hS hpl hq8
  gi_wp2_with (first
   |(refine wpListIn_load_row rfl _ _ rfl (b+1) rfl _ V (0,0) _ HBK.out Tryz.underlying28 rfl (szBlkT _ HVS.out) ?_)
   |fail)
  refine(callsIn_wide.2 HST.out).mono ?_
  rintro e w2 ⟨rfl,r2,f2⟩
  have hDp:D≠x.p∧D+1≠x.p:=by have:=HOK.out;have:=HB.out.le;unfold Lie.u at this;omega
  have hc2:=HC.out.step f2 r2
  have hb2:=HB.out.fr f2
  have hx2:=HX.out wr w2 HXR.out (fun j hj=>f2.block j (by rcases hj with e|e<;>omega) (fun(e:j=x.p)=>by rcases hj with h|h<;>omega))
  have hs2:D+2≤w2.heap.size:=Nat.le_trans hsz f2.size
  obtain⟨W3,hW3⟩:∃W,W=w2.alloc (.cells #[.int .u8 (tx:Int),.int .i64 td,.int .i64 tn] 36):=⟨_,rfl⟩
  have hb3:Below w2.heap.size w2 W3:=by rw[hW3];exact(Below.refl _ _).alloc (Nat.le_refl _) _
  have HC3:=Lib.hid (hc2.on hb3)
  have HB3:=Lib.hid (hb2.fr (Fr.of hb3))
  have HX3:=Lib.hid (HX.out w2 W3 hx2 (fun j hj=>hb3.block j (by rcases hj with e|e<;>omega)))
  have hs3:D+2≤W3.heap.size:=Nat.le_trans hs2 hb3.size
  have HT3:Hid (BoxC W3 w2.heap.size #[.int .u8 (tx:Int),.int .i64 td,.int .i64 tn] 36):=Lib.hid (by rw[hW3];exact BoxC.new w2 _ _)
  have cb3:=(HB3.out.bp).cell
  have ce3:W3.cell? ⟨x.p,2,none⟩=some (.int .i64 q'.2):=HC3.out.rdr.e
  rw[hW3]at cb3 ce3
  have HW3:=Lib.hid hW3
  clear r2 f2 hc2 hb2 hx2 hs2 hb3 hW3 HST HXR hsz cb
  have HEND:Hid (q'.2≠0→TBad x.lim R T q'):=Lib.hid (fun e=>by
   rcases Int.decEq q.2 0 with e0|e0
   ·have e2:q'=q:=HSE.out e0
    rw[e2]at e⊢
    exact HTB.out e0
   ·exact(HSTP.out e0).1 e)
  cases en
  ·by_cases he:q'.2=0
   ·have hq0:q.2=0:=by
     rcases Int.decEq q.2 0 with e0|e0
     ·have e2:q'=q:=HSE.out e0
      rw[e2]at he;exact he
     ·exact e0
    have d0:(q'.2==0)=true:=by rw[he];rfl
    have d1:(q'.2 !=0)=false:=by simp[bne,d0]
    obtain⟨m1,m2,m3,m4,m5,m6⟩:=(HSTP.out hq0).2.2 he rfl
    have hok:SyOk x ⟨T,M,q',left,⟨tx,td,tn⟩⟩:=⟨he,m4,(HTG.out hq0).2.1.room,(HTG.out hq0).2.1.ok.count,m1,m2⟩
    obtain⟨fn,tmps,assign,body,hy,hRR⟩:=HY.out ⟨T,M,q',left,⟨tx,td,tn⟩⟩ W3 ⟨HC3.out,HB3.out,hok⟩ hs3 HX3.out
    have hen:encY ⟨T,M,q',left,⟨tx,td,tn⟩⟩=#[.agg #[.int .u8 (tx:Int),.int .i64 td,.int .i64 tn]]:=rfl
    rw[hen]at hy
    rw[HW3.out]at hy hRR
    have HRR2:=Lib.hid hRR;have HM:=Lib.hid (And.intro m3 (And.intro m4 (And.intro m5 m6)));have HQ0:=Lib.hid hq0;have HE0:=Lib.hid he
    have HGD:=Lib.hid (HTG.out hq0).1;have HLO:=Lib.hid (HTG.out hq0).2.2
    clear m1 m2 m3 m4 m5 m6 hok hen hRR hq0 he HTG HTB HSE HSTP HEND
    gi_wp2
    refine HRR2.out.mono ?_
    rintro e W4 ⟨rfl,⟨i1,i2,i3⟩,hs4,hx4⟩
    obtain⟨q4,hq4⟩:∃q4,q4=bdQ x.lim M ⟨tx,td,tn⟩ q':=⟨_,rfl⟩
    obtain⟨T4,hT4⟩:∃q4,q4=bdT x.lim M T ⟨tx,td,tn⟩ q':=⟨_,rfl⟩
    obtain⟨M4,hM4⟩:∃q4,q4=M+lenT ⟨tx,td,tn⟩:=⟨_,rfl⟩
    have i1':Col x T4 M4 q4 W4:=by rw[hT4,hM4,hq4];exact i1
    have i2':Blo x k c1 c2 v1 v2 y1 y2 b left W4:=i2
    have ca:=i2'.bk.cell (i:=0)
    have cl:=i2'.bk.cell (i:=2)
    have fl:=i2'.bk.free (i:=2)
    rw[show(blkT k.kind k.last left c1 c2 v1 v2)[0]?=some (.int .u8 (k.kind:Int))from rfl]at ca
    rw[show(blkT k.kind k.last left c1 c2 v1 v2)[2]?=some (.int .i64 (left:Int))from rfl]at cl
    have h12:=HM.out
    rw[←hq4,←hT4,←hM4]at h12
    have hin4:q4.1=q'.1:=by rw[hq4];exact bdQ_in _ _ _ _
    have HI1:=Lib.hid i1';have HI2:=Lib.hid i2';have HX4:=Lib.hid hx4;have H12:=Lib.hid h12;have HIN4:=Lib.hid hin4
    clear i1 i2 i3 i1' i2' hx4 h12 hq4 hT4 hM4 hin4 hy HRR2 HM HC3 HB3 HX3 HT3 cb3 ce3
    by_cases k0:k.kind=0
    ·have d2:((k.kind:Int)==0)=true:=by rw[k0];rfl
     have hl1:1≤left:=by
      rcases Nat.eq_zero_or_pos left with z|z
      ·exfalso
       have hrr:=HRR.out
       rw[HKK.out,stp_sto0 (k:={k with left:=left}) k0 z]at hrr
       injection hrr with _ h2
       injection h2 with h2 _
       cases h2
      ·exact z
     have hle:(left:Int)-1=((left-1:Nat):Int):=by omega
     have HLE:=Lib.hid hle
     have HK0:=Lib.hid k0
     obtain⟨kd,hkd2⟩:∃kd,kd=k.kind:=⟨_,rfl⟩
     rw[←hkd2]at ca d2
     clear k0 hle hkd2
     have hcol:=HI1.out.less HI2.out (left-1)
     have hblo:=HI2.out.less (left-1)
     rw[←HLE.out]at hcol hblo
     have n1:=hcol.rdr.a
     have n2:=hcol.rdr.e
     have hxx:=HX.out W4 (W4.setCell ⟨b+1,2,none⟩ (.int .i64 ((left:Int)-1))) HX4.out (fun j hj=>Below.heap_setCell W4 ⟨b+1,2,none⟩ _ j (by show j≠b+1;rcases hj with e|e<;>omega))
     have hss:(W4.setCell ⟨b+1,2,none⟩ (.int .i64 ((left:Int)-1))).heap.size=W4.heap.size:=by simp[World.setCell]
     have HN1:=Lib.hid n1;have HN2:=Lib.hid n2;have HCL:=Lib.hid hcol;have HBL:=Lib.hid hblo;have HXX:=Lib.hid hxx;have HSS:=Lib.hid hss
     clear n1 n2 hcol hblo hxx hss
     gi_wp2
     refine⟨⟨T4,M4,q4,left-1,HCL.out,HBL.out,by omega,Lib.hid (fun h=>absurd HK0.out h),Lib.hid ?_,HXX,by rw[HSS.out];exact hs4⟩,?_⟩
     ·rcases Int.decEq q4.2 0 with e|e
      ·exact .inr ⟨H12.out.2.2.1 e,by rw[HIN4.out];exact H12.out.2.1⟩
      ·refine .inl ⟨HGD.out,?_⟩
       have:=H12.out.2.2.2 e
       rw[HKK.out]at this
       exact⟨this,by have:=HLO.out;have:=H12.out.1;have:=HIN4.out;omega⟩
     ·rw[HN1.out,HN2.out,HM1.out,HM2.out]
      show(if q4.2=0 then 8*x.l+1-(q4.1:Int).toNat else 0)<(if q.2=0 then 8*x.l+1-(q.1:Int).toNat else 0)
      have h1:=H12.out.1;have h2:=H12.out.2.1;have h3:=HIN4.out
      rw[if_pos HQ0.out]
      split<;>omega
    ·have d2:((k.kind:Int)==0)=false:=beq_eq_false_iff_ne.2 (by omega)
     have hl0:=HL0.out k0
     obtain⟨kd,hkd2⟩:∃kd,kd=k.kind:=⟨_,rfl⟩
     rw[←hkd2]at ca d2
     have n1:=HI1.out.rdr.a
     have n2:=HI1.out.rdr.e
     have HN1:=Lib.hid n1;have HN2:=Lib.hid n2;have HZ:=Lib.hid hl0;have HK0:=Lib.hid k0
     clear k0 hkd2 n1 n2 hl0
     gi_wp2
     refine⟨⟨T4,M4,q4,left,HI1,HI2,by omega,Lib.hid (fun _=>HZ.out),Lib.hid ?_,HX4,hs4⟩,?_⟩
     ·rcases Int.decEq q4.2 0 with e|e
      ·exact .inr ⟨H12.out.2.2.1 e,by rw[HIN4.out];exact H12.out.2.1⟩
      ·refine .inl ⟨HGD.out,?_⟩
       have:=H12.out.2.2.2 e
       rw[HKK.out]at this
       have hz:=HZ.out
       subst hz
       exact⟨this,by have:=HLO.out;have:=H12.out.1;have:=HIN4.out;omega⟩
     ·rw[HN1.out,HN2.out,HM1.out,HM2.out]
      show(if q4.2=0 then 8*x.l+1-(q4.1:Int).toNat else 0)<(if q.2=0 then 8*x.l+1-(q.1:Int).toNat else 0)
      have h1:=H12.out.1;have h2:=H12.out.2.1;have h3:=HIN4.out
      rw[if_pos HQ0.out]
      split<;>omega
   ·have d0:(q'.2==0)=false:=beq_eq_false_iff_ne.2 he
    have d1:(q'.2 !=0)=true:=by simp[bne,d0]
    have HFB:=Lib.hid (HEND.out he)
    rw[HW3.out]at HX3 HC3
    clear he
    gi_wp2
    refine bodyPost_ret (results_none rfl _ _ _) rfl ?_
    exact⟨⟨_,rfl⟩,⟨T,M,q',HC3.out,.inl HFB.out⟩,HX3.out⟩
  ·have HEB:Hid (EndB g x k R T M q' lo):=Lib.hid (by
    rcases Int.decEq q'.2 0 with e|e
    ·exact .inl (HEND.out e)
    ·right
     have hq0:q.2=0:=by
      rcases Int.decEq q.2 0 with e0|e0
      ·have e2:q'=q:=HSE.out e0
       rw[e2]at e;exact e
      ·exact e0
     have:=(HSTP.out hq0).2.1 e rfl
     rw[HK1.out.1]at this
     have hfw:=stT_fwd (k:=kk) (g:=g) (L:=x.l) (HTG.out hq0).2.1.place hq0
     rw[←HRR.out]at hfw
     exact⟨this,Nat.le_trans (HTG.out hq0).2.2 (hfw e)⟩)
   rw[HW3.out]at HX3 HC3
   gi_wp2
   refine bodyPost_ret (results_none rfl _ _ _) rfl ?_
   exact⟨⟨_,rfl⟩,⟨T,M,q',HC3.out,HEB.out⟩,HX3.out⟩
end Go.Proofs.YtgokdgcmkcmjeaaGreat
namespace Go.Proofs.YtgokdgcmkcmjeaaGreat
open Go.RowKit Go.Shelf Go.ChangeShapes Go.WideShapes Go.ChangeAt Go.Joins
attribute [local go_sem] Oper.semAt_some
attribute [local simp] wide_fn
theorem I1y.own(x:Lie)(k:Blk13)(c1 c2:Nat→Int)(v1 v2:Value)(y1 y2:List Int)(b B:Nat)(hB:x.top≤B):OwnFrom B (I1y x k c1 c2 v1 v2 y1 y2 b):=fun _ _ _ _ ⟨h1,h2,h3⟩ hg hr=>⟨h1.grown hg fun r e=>⟨Nat.le_trans hB (hr r e).1,(hr r e).2⟩,h2.grown hg fun r e=>(hr r e).2,h3⟩
theorem IeY.own(g:Nat→Nat)(x:Lie)(k:Blk13)(R:List Nat×Nat×Int)(lo B:Nat)(hB:x.top≤B):OwnFrom B (fun _:Unit=>IeY g x k R lo):=fun _ _ _ _ ⟨T,M,q,h1,h2⟩ hg hr=>⟨T,M,q,h1.grown hg fun r e=>⟨Nat.le_trans hB (hr r e).1,(hr r e).2⟩,h2⟩
theorem IsY.own(g:Nat→Nat)(x:Lie)(k:Blk13)(c1 c2:Nat→Int)(v1 v2:Value)(y1 y2:List Int)(b:Nat)(Gd:Prop)(R:List Nat×Nat×Int)(lo B:Nat)(hB:x.top≤B):OwnFrom B (fun _:Unit=>IsY g x k c1 c2 v1 v2 y1 y2 b Gd R lo):=fun _ _ _ _ ⟨T,M,q,left,h1,h2,h3⟩ hg hr=>⟨T,M,q,left,h1.grown hg fun r e=>⟨Nat.le_trans hB (hr r e).1,(hr r e).2⟩,h2.grown hg fun r e=>(hr r e).2,h3⟩
theorem steps_in(n:Nat)(p:Nat)(V:Array Value)(w:World):
  CallsIn Fence.wide n Tryz.prog 116 #[.pointer (some ⟨p,0,none⟩),.agg V] w fun e w'=>e=.returned (.func (.func 159) #[] #[.pointer (some ⟨w.heap.size,0,none⟩),.pointer (some ⟨w.heap.size+1,0,none⟩)])∧
   w'=(w.alloc (.cells #[.pointer (some ⟨p,0,none⟩)] 112)).alloc (.cells V 28):=by
 refine callsIn_of_wp Tryz.func116 rfl trivial ?_ rfl
 simp only[Tryz.ntmps116,List.size_toArray,List.length_cons,List.length_nil,Nat.reduceAdd,Nat.reduceSub,Array.replicate_succ,Array.replicate_zero,List.push_toArray,List.append_toArray,List.nil_append,List.cons_append]
 gi_wp2
 go_ret
 exact⟨rfl,rfl⟩
theorem own_cellsT{w:World}{base sz n j:Nat}{e:TypeId}{v:Value}{xs:List Value}(h:w.ownsRow base e sz v n xs)(hj:v.ownBlock=some j):∃cur,w.heap[j]?=some (.cells cur e (0,0)):=by
 rcases h.2 with⟨rfl,_⟩|⟨g,cap,cur,rfl,hg,hh,_⟩
 ·simp[Value.ownBlock]at hj
 ·simp[Value.ownBlock]at hj
  subst hj;exact⟨cur,hh⟩
theorem fr_others{p:Nat}{W W':World}{cs:Array Value}{t:TypeId}(h:BoxC W p cs t)(f:Fr (At p) W W'):KeepsOthers W W':=⟨f.size,fun k o hk hc=>(f.block k (Array.getElem?_eq_some_iff.1 hk).1 (fun(e:k=p)=>by
 subst e
 have h':W.heap[k]?=some (.cells cs t (0,0)):=h
 rw[h']at hk;cases hk;cases hc)).trans hk⟩
theorem Fr.low{S:Nat→Prop}{w a b:World}{B:Nat}(h:Fr S w a)(k:Below B a b)(hB:w.heap.size≤B):Fr S w b:=⟨k.os.trans h.os,k.tape.trans h.tape,k.output.trans h.output,Nat.le_trans h.size k.size,fun i hi hS=>(k.block i (by omega)).trans (h.block i hi hS)⟩
def markD(D:Nat):Deferred:={target:=.collected D,args:=#[]}
theorem leavesM_all{F:Fence}{n:Nat}{P:Program}{fn:Func}{tmps:Array Value}{R:Ending→World→Prop}(I:World→Prop)(B:Nat)(hI:OwnFrom B (fun _:Unit=>I))(hR:∀W,I W→LeavesIn F n P fn tmps R [] .returning W):
  ∀(Ds:List Nat) (W:World),I W→(∀D∈Ds,B≤D∧W.heap[D]?=some (.deferred (some [])))→Ds.Nodup→LeavesInM F n P fn tmps R (Ds.map markD) .returning W
 |[],W,hi,_,_=>hR W hi
 |D::Ds,W,hi,hm,hn=>by
  obtain⟨h1,h2⟩:=hm D (by simp)
  obtain⟨hn1,hn2⟩:=List.nodup_cons.1 hn
  refine⟨by simp,.inl ⟨D,_,rfl,run_takeDeferred h2,?_⟩⟩
  refine leavesM_all I B hI hR Ds _ (hI.putObj (s:=()) _ hi h1 h2 rfl) (fun D' hD'=>?_) hn2
  obtain⟨e1,e2⟩:=hm D' (by simp[hD'])
  exact⟨e1,(World.putObj_heap_other (by intro e;apply hn1;first|(rw[e];exact hD')|(rw[←e];exact hD'))).trans e2⟩
theorem tmps_lit(tm:Array Value)(h:tm.size=53):∃u:Nat→Value,tm=#[u 0,u 1,u 2,u 3,u 4,u 5,u 6,u 7,u 8,u 9,u 10,u 11,u 12,u 13,u 14,u 15,u 16,u 17,u 18,u 19,u 20,u 21,u 22,u 23,u 24,u 25,u 26,u 27,u 28,u 29,u 30,u 31,u 32,u 33,u 34,u 35,u 36,u 37,u 38,u 39,u 40,u 41,u 42,u 43,u 44,u 45,u 46,u 47,u 48,u 49,u 50,u 51,u 52]∧∀i,i<53→tm[i]?=some (u i):=by
 refine⟨fun i=>tm.getD i undef,?_,fun i hi=>?_⟩
 ·have e:tm=((List.range 53).map fun i=>tm.getD i undef).toArray:=by
   apply Array.ext
   ·simp[h]
   ·intro i h1 h2
    simp[Array.getD,h1]
  exact e.trans rfl
 ·rw[Array.getElem?_eq_getElem (by omega)]
  simp[Array.getD,h,hi]
structure FrT (x:Lie) (lb:Bool) (a:Act):Prop where
 df:a.defers=x.ds.map markD
 sz:a.tmps.size=53
 t0:a.tmps[0]?=some (.pointer (some ⟨x.p,0,none⟩))
 t1:a.tmps[1]?=some (.int .i64 (x.lim:Int))
 t2:a.tmps[2]?=some (.pointer (some ⟨x.z,0,none⟩))
 t3:a.tmps[3]?=some (.pointer (some ⟨x.z+1,0,none⟩))
 t4:a.tmps[4]?=some (.slice none 0 0)
 t5:a.tmps[5]?=some (.pointer (some ⟨x.z+2,0,none⟩))
 t6:a.tmps[6]?=some (.pointer (some ⟨x.z+3,0,none⟩))
 t7:a.tmps[7]?=some (.bool lb)
def CoT(g:Nat→Nat)(R:List Nat×Nat×Int)(x:Lie)(T:List Tok)(M:Nat)(q:Rz)(lb:Bool)(W:World):Prop:=Col x T M q W∧x.top≤W.heap.size∧x.z+4≤W.heap.size∧x.ds.Nodup∧((lb=false∧TGo g x.l x.lim R T M q none)∨TBad x.lim R T q∨(lb=true∧TFin x.lim R T q))
theorem Col.move{x:Lie}{T:List Tok}{M:Nat}{q:Rz}{W:World}(h:Col x T M q W)(ds:List Nat)(top:Nat)(ht:x.z≤top)(hd:∀D∈ds,x.z≤D∧D<top∧W.heap[D]?=some (.deferred (some []))):Col ⟨x.w0,x.p,x.A,x.l,x.c,x.z,x.lim,ds,top,x.ok,ht⟩ T M q W:=
 ⟨h.rdr,h.bp,h.bm,h.bd,h.row,h.fr,hd⟩
theorem beg_small{g:Nat→Nat}{L a:Nat}(ha:a≤8*L)(h:(begR g L a).2.2=0):(begR g L a).1.n≤320∧(begR g L a).1.m≤320:=by
 by_cases k0:(begR g L a).1.kind=0
 ·unfold begR at h k0⊢
  split at h
  ·exact absurd h (by decide)
  ·rename_i h1
   rw[if_neg h1]at k0⊢
   unfold begW at h k0⊢
   split at h
   ·exact absurd h (by decide)
   ·rename_i h2
    rw[if_neg h2]at k0⊢
    split at h
    ·rename_i h3
     rw[if_pos h3]at k0
     have:=((dy_is (g:=g) (L:=L) (a:=a+3) (last:=decide (numN g a 3%2=1)) (by omega)).1 h).2.1
     rw[k0]at this;exact absurd this (by decide)
    ·rename_i h3
     rw[if_neg h3]at k0⊢
     split at h
     ·rename_i h4
      rw[if_pos h4]at k0;exact absurd k0 (show¬(1:Nat)=0 by decide)
     ·rename_i h4
      rw[if_neg h4]
      unfold stoR at h⊢
      split at h
      ·exact absurd h (by decide)
      ·rename_i h5
       rw[if_neg h5]
       unfold stoV at h⊢
       split at h
       ·exact absurd h (by decide)
       ·rename_i h6
        rw[if_neg h6];exact⟨Nat.zero_le _,Nat.zero_le _⟩
 ·obtain⟨_,_,_,_,_,_,_,h8⟩:=(head_is (g:=g) (L:=L) ha).1 h
  obtain⟨_,_,_,_,_,c5,c6⟩:=h8 k0
  exact⟨(check_ok c5).2.2.1,(check_ok c6).2.2.1⟩
theorem hdL_le(g:Nat→Nat)(L:Nat)(s:Rz):hdL g L s≤65535∧(hdK g L s≠0→hdL g L s=0)∧hdK g L s<256:=by
 have h1:sizV g L (hdQ L s)<65536:=tkV_lt _ _ _ _
 have h2:hdK g L s<4:=tkV_lt _ _ _ _
 refine⟨?_,fun h=>?_,by omega⟩
 ·unfold hdL;split<;>omega
 ·unfold hdL;rw[if_neg h]
theorem hdS_in{g:Nat→Nat}{L:Nat}{s:Rz}(h:s.1≤8*L):(hdS g L s).1≤8*L:=by
 have hq:(hdQ L s).1≤8*L:=tkS_in (tkS_in h)
 unfold hdS
 split
 ·unfold sizS;rw[wantS_in];exact tkS_in (tkS_in (alS_in hq))
 ·split
  ·unfold gwS;rw[wantS_in,wantS_in];exact hq
  ·split
   ·have h5:=dyS5_in (g:=g) hq
    have hR:∀k made l s,s.1≤8*L→(lnS (extF 19 (dyH g L (hdQ L s))) g L made k made l s).2.1≤8*L∨True:=fun _ _ _ _ _=>.inr trivial
    have hR2:∀(F:Nat→Nat) (n k made:Nat) (l:List (Int×Int)) (s:Rz),s.1≤8*L→(lnS F g L n k made l s).2.1≤8*L:=by
     intro F n k
     induction k with
     |zero=>intro _ _ _ h;exact h
     |succ k ih=>
      intro made l s h
      unfold lnS
      split
      ·exact ih _ _ _ (ruE_in h)
      ·exact h
    unfold dyS9
    split
    ·exact hR2 _ _ _ _ _ _ h5
    ·unfold gwS;rw[wantS_in,wantS_in,wantS_in];exact hR2 _ _ _ _ _ _ h5
   ·rw[keepS_in];exact hq
theorem head_blk{g:Nat→Nat}{x:Lie}{R:List Nat×Nat×Int}{T:List Tok}{M a:Nat}(h:TGo g x.l x.lim R T M (a,0) none):∃(k:Blk13) (Gd:Prop),k.kind=hdK g x.l (a,0)∧k.last=hdB g x.l (a,0)∧k.left=hdL g x.l (a,0)∧k.n≤320∧k.m≤320∧
  (Gd→k.kind≠0→IsTree (hdC1 g x.l (a,0)) (hdY1 g x.l (a,0)) (extF k.n k.F)∧IsTree (hdC2 g x.l (a,0)) (hdY2 g x.l (a,0)) (extF k.m k.G))∧InB g x k Gd R T M (hdS g x.l (a,0)) k.left (a+1):=by
 have ha:a≤8*x.l:=h.place
 obtain⟨h1,h2⟩:=h.head
 obtain⟨i1,i2⟩:=head_is (g:=g) (L:=x.l) ha
 rcases Int.decEq (begR g x.l a).2.2 0 with e|e
 ·refine⟨⟨hdK g x.l (a,0),hdB g x.l (a,0),hdL g x.l (a,0),nof13,0,nof13,0⟩,False,rfl,rfl,rfl,Nat.zero_le _,Nat.zero_le _,fun f=>f.elim,.inr ⟨?_,hdS_in ha⟩⟩
  have:=h1 e (hdS g x.l (a,0)).1
  have e3:hdS g x.l (a,0)=((hdS g x.l (a,0)).1,(begR g x.l a).2.2):=Prod.ext rfl (i2 e)
  rw[e3];exact this
 ·obtain⟨e1,e2,e3,e4,e5,e6,e7,e8⟩:=i1 e
  obtain⟨s1,s2⟩:=beg_small ha e
  refine⟨(begR g x.l a).1,True,e2.symm,e3.symm,e4.symm,s1,s2,fun _ k0=>?_,.inl ⟨trivial,?_,?_⟩⟩
  ·obtain⟨c0,c1,c2,c3,c4,c5,c6⟩:=e8 k0
   rw[c1,c2,c3,c4]
   exact⟨grown_tree c5,grown_tree c6⟩
  ·rw[e1];exact h2 e
  ·rw[e1];have:=(beg_fwd e).1;show a+1≤(begR g x.l a).2.1;omega
def TkPost(x0:Lie)(R:List Nat×Nat×Int)(e:Ending)(w':World):Prop:=∃(T:List Tok) (q:Rz) (B:Option Addr) (n:Nat),e=.returned (.slice B T.length n)∧TkR w' w'.heap.size B T.length n T∧Rdr w' x0.p x0.A x0.l x0.c q∧Fr (At x0.p) x0.w0 w'∧(TBad x0.lim R T q∨TFin x0.lim R T q)
theorem ptokens_x(x0:Lie)(hds:x0.ds=[])(htop0:x0.top=x0.z)(g:Nat→Nat)(a:Nat)(h:Rdr x0.w0 x0.p x0.A x0.l x0.c (a,0))(hg:RdF (At x0.p) x0.w0 x0.A x0.l g)(hl:x0.l≤1000000)(ha:a≤8*x0.l)(hlim:x0.lim≤131072)(R:List Nat×Nat×Int)(hR:toldA g x0.l x0.lim none [] a=R):
  Calls Tryz.prog 77 #[.pointer (some ⟨x0.p,0,none⟩),.int .i64 (x0.lim:Int)] x0.w0 fun e w'=>TkPost x0 R e w':=by
 have hgo:TGo g x0.l x0.lim R [] 0 (a,0) none:=⟨⟨fun t ht=>by simp at ht,trivial,rfl⟩,Nat.zero_le _,rfl,ha,hR⟩
 obtain⟨W1,hW1⟩:∃W1,W1=(((x0.w0.alloc (.cells #[.pointer (some ⟨x0.p,0,none⟩)] 112)).alloc (.cells #[.int .i64 (x0.lim:Int)] 3)).alloc (.cells #[.slice none 0 0] 60)).alloc (.cells #[.int .i64 0] 3):=⟨_,rfl⟩
 have hz:=x0.ok.1
 have hb1:Below x0.w0.heap.size x0.w0 W1:=by rw[hW1];exact((((Below.refl _ _).alloc (Nat.le_refl _) _).alloc (by simp) _).alloc (by simp;omega) _).alloc (by simp;omega) _
 have hs1:W1.heap.size=x0.z+4:=by rw[hW1];simp;omega
 have hcol:Col x0 [] 0 (a,0) W1:=by
  refine⟨BoxC.below h hb1 h.lt,?_,?_,?_,⟨none,0,?_,World.ownsRow_nil _ _ _ _⟩,Fr.of hb1,fun D hD=>by rw[hds]at hD;simp at hD⟩
  ·rw[←hz,hW1];exact(((Boxed.new x0.w0 _ _).alloc _).alloc _).alloc _
  ·have:=((Boxed.new (x0.w0.alloc (.cells #[.pointer (some ⟨x0.p,0,none⟩)] 112)) 3 (.int .i64 (x0.lim:Int))).alloc (.cells #[.slice none 0 0] 60)).alloc (.cells #[.int .i64 0] 3)
   rw[World.size_alloc,hz]at this
   rw[hW1];exact this
  ·have:=Boxed.new (((x0.w0.alloc (.cells #[.pointer (some ⟨x0.p,0,none⟩)] 112)).alloc (.cells #[.int .i64 (x0.lim:Int)] 3)).alloc (.cells #[.slice none 0 0] 60)) 3 (.int .i64 0)
   rw[World.size_alloc,World.size_alloc,World.size_alloc,hz]at this
   rw[hW1];exact this
  ·have:=(Boxed.new ((x0.w0.alloc (.cells #[.pointer (some ⟨x0.p,0,none⟩)] 112)).alloc (.cells #[.int .i64 (x0.lim:Int)] 3)) 60 (.slice none 0 0)).alloc (.cells #[.int .i64 0] 3)
   rw[World.size_alloc,World.size_alloc,hz]at this
   rw[hW1];exact this
 have HG:=Lib.hid hg;have HW1:=Lib.hid hW1;have HZ:=Lib.hid hz;have HC1:=Lib.hid hcol;have HGO:=Lib.hid hgo
 have HS1:=Lib.hid hs1
 have HP:=Lib.hid x0.ok
 clear h hg hW1 hcol hgo hb1 hs1 hR
 refine(callsIn_wide (n:=9)).1 ?_
 refine callsIn_of_wp_marks Tryz.func77 rfl trivial ?_ rfl
 simp only[Tryz.ntmps77,List.size_toArray,List.length_cons,List.length_nil,Nat.reduceAdd,Nat.reduceSub,Array.replicate_succ,Array.replicate_zero,List.push_toArray,List.append_toArray,List.nil_append,List.cons_append]
 gi_wp2_with fail
 simp only[Nat.add_assoc,Nat.reduceAdd]
 rw[←HW1.out]
 refine wpIn_loop (fun a w=>∃(x:Lie) (T:List Tok) (M:Nat) (q:Rz) (lb:Bool),(x.w0=x0.w0∧x.p=x0.p∧x.A=x0.A∧x.l=x0.l∧x.c=x0.c∧x.z=x0.z∧x.lim=x0.lim)∧FrT x lb a∧CoT g R x T M q lb w)
  (fun a w=>match a.tmps.getD 7 undef,w.cell? ⟨x0.p,1,none⟩,w.cell? ⟨x0.p,2,none⟩with| .bool false,some (.int .i64 a),some (.int .i64 e)=>if e=0 then 8*x0.l+1-a.toNat else 0|_,_,_=>0) ?start ?round
 case start=>exact⟨x0,[],0,(a,0),false,⟨rfl,rfl,rfl,rfl,rfl,rfl,rfl⟩,⟨by rw[hds];rfl,rfl,rfl,rfl,rfl,rfl,rfl,rfl,rfl,rfl⟩,HC1.out,by rw[htop0,HS1.out];omega,by rw[HS1.out];exact Nat.le_refl _,by rw[hds];exact List.nodup_nil,.inl ⟨rfl,HGO.out⟩⟩
 case round=>
  rintro⟨tm,df⟩ wr ⟨x,T,M,q,lb,E,hF,hC⟩
  have hxp:=E.2.1
  have HG2:Hid (RdF (At x.p) x.w0 x.A x.l g):=Lib.hid (by rw[E.1,E.2.1,E.2.2.1,E.2.2.2.1];exact HG.out)
  have hl2:x.l≤1000000:=by rw[E.2.2.2.1];exact hl
  have hlim2:x.lim≤131072:=by rw[E.2.2.2.2.2.2];exact hlim
  have HPX:Hid (∀(W:World) (B:Option Addr) (n:Nat),Rdr W x.p x.A x.l x.c q→Fr (At x.p) x.w0 W→W.ownsRow x.u 36 3 (.slice B T.length n) T.length (toksL T)→(TBad x.lim R T q∨TFin x.lim R T q)→TkPost x0 R (Ending.returned (.slice B T.length n)) W):=Lib.hid (fun W B n h1 h2 h4 h3=>⟨T,q,B,n,rfl,TkR.of_own h4,by rw[←E.2.1,←E.2.2.1,←E.2.2.2.1,←E.2.2.2.2.1];exact h1,by rw[←E.2.1,←E.1];exact h2,by rw[←E.2.2.2.2.2.2];exact h3⟩)
  have HE:=Lib.hid E
  obtain⟨hdf,hsz53,t0,t1,t2,t3,t4,t5,t6,t7⟩:=hF
  obtain⟨u,rfl,hu⟩:=tmps_lit tm hsz53
  have hdf:df=x.ds.map markD:=hdf
  subst hdf
  have e0:=Option.some.inj ((hu 0 (by omega)).symm.trans t0);have e1:=Option.some.inj ((hu 1 (by omega)).symm.trans t1);have e2:=Option.some.inj ((hu 2 (by omega)).symm.trans t2);have e3:=Option.some.inj ((hu 3 (by omega)).symm.trans t3);have e4:=Option.some.inj ((hu 4 (by omega)).symm.trans t4);have e5:=Option.some.inj ((hu 5 (by omega)).symm.trans t5);have e6:=Option.some.inj ((hu 6 (by omega)).symm.trans t6);have e7:=Option.some.inj ((hu 7 (by omega)).symm.trans t7)
  rw[e0,e1,e2,e3,e4,e5,e6,e7]
  clear hsz53 t0 t1 t2 t3 t4 t5 t6 t7 hu e0 e1 e2 e3 e4 e5 e6 e7 E
  obtain⟨hcol0,htop,hsz,hnd,hI⟩:=hC
  have HC:=Lib.hid hcol0;have HI:=Lib.hid hI;have HND:=Lib.hid hnd
  have HP:=Lib.hid x.ok
  clear hcol0 hI hnd hxp
  obtain⟨ds,hds⟩:∃ds,ds=x.ds:=⟨_,rfl⟩
  rw[←hds]
  have HDS:=Lib.hid hds
  clear hds
  have cp:=(HC.out.bp).cell
  have ce:wr.cell? ⟨x.p,2,none⟩=some (.int .i64 q.2):=HC.out.rdr.e
  obtain⟨B,n,hbr,hown⟩:=HC.out.row
  have cl:=hbr.cell
  by_cases hgo:lb=false∧q.2=0
  ·obtain⟨rfl,hq0⟩:=hgo
   have hTG:TGo g x.l x.lim R T M q none:=by
    rcases HI.out with h|h|h
    ·exact h.2
    ·exact absurd hq0 h.err
    ·exact absurd h.1 (by decide)
   have d0:(q.2==0)=true:=by rw[hq0];rfl
   obtain⟨qa,qe⟩:=q
   have hqe:qe=0:=hq0
   subst hqe
   have HTG:=Lib.hid hTG
   clear hq0 HI hTG cl hbr hown
   have ce':wr.cell? ⟨x.p,2,none⟩=some (.int .i64 0):=ce
   clear ce
   have hsx:∀j,At x.p j→j<wr.heap.size:=fun j (e:j=x.p)=>by have:=HP.out;omega
   have hin2:(hdQ x.l (qa,0)).1≤8*x.l:=tkS_in (tkS_in HTG.out.place)
   have HHD:=Lib.hid (phead_any wr x.p x.A x.l x.c g (qa,0) HC.out.rdr (At x.p) rfl hsx (HG2.out.fr HC.out.fr) hl2 HTG.out.place (fun he=>(dy_len g x.l (hdQ x.l (qa,0)) hin2 he).1))
   obtain⟨k,Gd,hk1,hk2,hk3,hk4,hk5,hk6,hk7⟩:=head_blk HTG.out
   obtain⟨hl1,hl2,hl3⟩:=hdL_le g x.l (qa,0)
   rw[←hk1]at hl2 hl3
   rw[←hk3]at hl1 hl2
   rw[←hk1,←hk2,←hk3]at HHD
   obtain⟨C1,hC1⟩:∃c,c=hdC1 g x.l (qa,0):=⟨_,rfl⟩
   obtain⟨C2,hC2⟩:∃c,c=hdC2 g x.l (qa,0):=⟨_,rfl⟩
   obtain⟨y1,hy1⟩:∃c,c=hdY1 g x.l (qa,0):=⟨_,rfl⟩
   obtain⟨y2,hy2⟩:∃c,c=hdY2 g x.l (qa,0):=⟨_,rfl⟩
   obtain⟨q2,hq2⟩:∃c,c=hdS g x.l (qa,0):=⟨_,rfl⟩
   rw[←hC1,←hC2,←hy1,←hy2]at HHD hk6
   rw[←hq2]at HHD hk7
   have HK6:=Lib.hid hk6;have HK7:=Lib.hid hk7;have HL2:=Lib.hid hl2
   have HM1:=Lib.hid (HC.out.rdr.a);have HM2:=Lib.hid (HC.out.rdr.e)
   obtain⟨Z,hZ⟩:∃Z,Z=blkT 0 false 0 (fun _=>0) (fun _=>0) (.slice none 0 0) (.slice none 0 0):=⟨_,rfl⟩
   have hzb:∀u:World,(zeroValue 28).run Tryz.prog u=.ok (.agg Z) u:=by rw[hZ];exact(zero_of_info infoBlkT).1
   have HZS:Hid (Z.size=37):=Lib.hid (by rw[hZ];exact blkT_size ..)
   clear hsx hin2 hk1 hk2 hk3 hk6 hk7 hC1 hC2 hy1 hy2 hq2 hl2 hZ
   gi_wp2_with fail
   refine(callsIn_wide.2 HHD.out).mono ?_
   rintro e w2 ⟨u1,u2,rfl,r2,o1,o2,f2⟩
   obtain⟨V,hV⟩:∃V,V=blkT k.kind k.last k.left C1 C2 u1 u2:=⟨_,rfl⟩
   rw[←hV]
   have HVS:Hid (V.size=37):=Lib.hid (by rw[hV];exact blkT_size ..)
   have HVO:Hid (V.all (·.oneCell')=true):=Lib.hid (by rw[hV];exact blkT_one _ _ _ _ _ _ _ o1.one o2.one)
   have hV1:V[1]?=some (.bool k.last):=by rw[hV];rfl
   obtain⟨k0,hk0⟩:∃t,t=w2.heap.size:=⟨_,rfl⟩
   obtain⟨W3,hW3⟩:∃W,W=mkV w2 Z V 28:=⟨_,rfl⟩
   have hb3:Below w2.heap.size w2 W3:=by rw[hW3];exact mkV_below _ _ _ _
   have x3:BoxC W3 k0 V 28:=by rw[hW3,hk0];exact mkV_row w2 Z V _
   have hs3:W3.heap.size=k0+1:=by rw[hW3,mkV_size,hk0]
   have hc3:=(HC.out.step f2 r2).on hb3
   have hcp:=(hc3.bp).cell
   have hcl:=x3.cell (i:=1)
   rw[hV1]at hcl
   have hzk:x.z+4≤k0:=by rw[hk0];exact Nat.le_trans hsz f2.size
   have htk:x.top≤k0:=by rw[hk0];exact Nat.le_trans htop f2.size
   have p1:OwnS W3 x.u u1 y1:=ownsRow_lower (own_keepG o1 hb3) (by unfold Lie.u;exact hsz)
   have p2:OwnS W3 x.u u2 y2:=ownsRow_lower (own_keepG o2 hb3) (by unfold Lie.u;exact hsz)
   have HX3:=Lib.hid x3;have HW3:=Lib.hid hW3;have HKZ:=Lib.hid hk0;have HC3:=Lib.hid hc3;have HP1:=Lib.hid p1;have HP2:=Lib.hid p2;have HVE:=Lib.hid hV;have HS3:=Lib.hid hs3
   clear r2 o1 o2 f2 hV hV1 hk0 hW3 hb3 x3 hs3 hc3 p1 p2 HHD HC
   gi_wp2_with (first
    |(refine wpListIn_store_row rfl _ _ _ rfl rfl w2.heap.size V rfl rfl 28 Z (heap_alloc_new w2 _) (szBlkT _ HVS.out) (by rw[HZS.out,HVS.out]) HVO.out ?_;change wpListIn _ _ _ _ _ _ _ (mkV w2 Z V 28);rw[←HW3.out,←HKZ.out])
    |(refine wpListIn_load_row rfl _ _ rfl k0 rfl _ V (0,0) _ HX3.out Tryz.underlying28 rfl (szBlkT _ HVS.out) ?_)
    |(gi_at_call 116;refine(steps_in _ _ _ _).mono ?_;rintro e w' ⟨rfl,rfl⟩))
   obtain⟨W5,hW5⟩:∃W,W=(W3.alloc (.cells #[.pointer (some ⟨x.p,0,none⟩)] 112)).alloc (.cells V 28):=⟨_,rfl⟩
   have hb5:Below W3.heap.size W3 W5:=by rw[hW5];exact((Below.refl _ _).alloc (Nat.le_refl _) _).alloc (by simp) _
   have hc5:=HC3.out.on hb5
   have hs5:W5.heap.size=W3.heap.size+2:=by rw[hW5];simp
   have hblo:Blo x k C1 C2 u1 u2 y1 y2 W3.heap.size k.left W5:=by
    refine⟨?_,?_,own_keepG HP1.out hb5,own_keepG HP2.out hb5,by rw[HS3.out];unfold Lie.u;omega⟩
    ·rw[hW5];exact(Boxed.new W3 _ _).alloc _
    ·rw[hW5,←HVE.out];have:=BoxC.new (W3.alloc (.cells #[.pointer (some ⟨x.p,0,none⟩)] 112)) V 28;rwa[World.size_alloc]at this
   have his:IsY g x k C1 C2 u1 u2 y1 y2 W3.heap.size Gd R (qa+1) W5:=⟨T,M,q2,k.left,hc5,hblo,hl1,HL2.out,HK7.out⟩
   have HIS:=Lib.hid his
   obtain⟨fr,hfr⟩:∃fr:Nat→Tok→Act,fr=fun y t=>{tmps:=#[.pointer (some ⟨x.p,0,none⟩),.int .i64 (x.lim:Int),.pointer (some ⟨x.z,0,none⟩),.pointer (some ⟨x.z+1,0,none⟩),.slice none 0 0,.pointer (some ⟨x.z+2,0,none⟩),.pointer (some ⟨x.z+3,0,none⟩),.bool k.last,.pointer (some ⟨k0,0,none⟩),.pointer (some ⟨y,0,none⟩),.bool false,.bool true,.bool true,.pointer (some ⟨x.p,0,none⟩),.pointer (some ⟨x.p,0,none⟩),.pointer (some ⟨x.p,2,none⟩),.int .i64 0,.bool true,.bool true,.pointer (some ⟨x.p,0,none⟩),.agg V,.pointer (some ⟨k0,1,none⟩),.bool k.last,.pointer (some ⟨x.p,0,none⟩),.agg V,.func (.func 159) #[] #[.pointer (some ⟨W3.heap.size,0,none⟩),.pointer (some ⟨W3.heap.size+1,0,none⟩)],.agg #[.int .u8 (t.x:Int),.int .i64 t.d,.int .i64 t.n],u 27,u 28,u 29,u 30,u 31,u 32,u 33,u 34,u 35,u 36,u 37,u 38,u 39,u 40,u 41,u 42,u 43,u 44,u 45,u 46,u 47,u 48,u 49,u 50,u 51,u 52],defers:=[]}:=⟨_,rfl⟩
   have HFR:=Lib.hid hfr
   have hW5s:x.top≤W5.heap.size:=by rw[hs5,HS3.out];omega
   rw[←hW5]
   have HW5:=Lib.hid hW5;have HS5:=Lib.hid hs5
   clear hW5 hb5 hc5 hs5 hblo his hfr HC3 HX3 hcp hcl HKZ
   refine wpIn_range_st rfl (by omega) (gf:=159) (lb:=#[.pointer (some ⟨W3.heap.size,0,none⟩),.pointer (some ⟨W3.heap.size+1,0,none⟩)]) rfl trivial (enters_of Tryz.func159 (by kernel_rfl) rfl)
    encY (fun _=>rfl) (IsY g x k C1 C2 u1 u2 y1 y2 W3.heap.size Gd R (qa+1)) (IeY g x k R (qa+1)) (I0y x k C1 C2 u1 u2 y1 y2 W3.heap.size) (I1y x k C1 C2 u1 u2 y1 y2 W3.heap.size)
    (IsY.own _ _ _ _ _ _ _ _ _ _ _ _ _ _ hW5s) (I1y.own _ _ _ _ _ _ _ _ _ _ hW5s) (IeY.own _ _ _ _ _ _ hW5s)
    (fun lY X W hX hY hD hI hx=>steps1_in _ (by omega) g x HG2.out hl2 k hl3 hk4 hk5 C1 C2 u1 u2 y1 y2 W3.heap.size Gd HK6.out R (qa+1) lY X W5.heap.size (by rw[HS5.out];omega) hX hY W hD hI hx)
    HIS.out
    (fun s a₁ W=>∃y:Nat,a₁=fr y s.t∧x.z+4≤y∧BoxC W y #[.int .u8 (s.t.x:Int),.int .i64 s.t.d,.int .i64 s.t.n] 36∧I0y x k C1 C2 u1 u2 y1 y2 W3.heap.size s W)
    (fun a₁ s W W' row h hg hr=>by
     obtain⟨y,e1,e2,e3,e4,e5,e6⟩:=h
     exact⟨y,e1,e2,grown_cells e3 hg fun r e=>(hr r e).2,e4.grown hg fun r e=>⟨Nat.le_trans hW5s (hr r e).1,(hr r e).2⟩,e5.grown hg fun r e=>(hr r e).2,e6⟩)
    ?assign ?body ?done
   case assign=>
    intro l s W K hI hsz hK
    obtain⟨sT,sM,sq,sl,⟨tx,td,tn⟩⟩:=s
    have hb:Below W.heap.size W (W.alloc (.cells #[.int .u8 (tx:Int),.int .i64 td,.int .i64 tn] 36)):=(Below.refl _ _).alloc (Nat.le_refl _) _
    have hgoal:=hK (fr W.heap.size ⟨tx,td,tn⟩) _ (KeepsOthers.alloc W (.cells #[.int .u8 (tx:Int),.int .i64 td,.int .i64 tn] 36)) hb.size ⟨W.heap.size,rfl,by have:=HS5.out;have:=HS3.out;omega,BoxC.new W _ _,hI.1.on hb,hI.2.1.fr (Fr.of hb),hI.2.2⟩
    rw[HFR.out]at hgoal
    have HGOAL:=Lib.hid hgoal
    clear hgoal hK hb hI
    simp only[encY]
    gi_wp2
    exact HGOAL.out
   case body=>
    rintro l s a₁ W ⟨y,rfl,hy4,hbx,hcol,hblo,hok⟩
    obtain⟨sT,sM,sq,sl,⟨tx,td,tn⟩⟩:=s
    obtain⟨ok1,ok2,ok3,ok4,ok5,ok6⟩:=hok
    have hbx:BoxC W y #[.int .u8 (tx:Int),.int .i64 td,.int .i64 tn] 36:=hbx
    have hcol:Col x sT sM sq W:=hcol
    have hblo:Blo x k C1 C2 u1 u2 y1 y2 W3.heap.size sl W:=hblo
    have ok5:mayT ⟨tx,td,tn⟩=true:=ok5
    have ok3:sM≤x.lim:=ok3
    have ok4:sT.length≤sM:=ok4
    have ok1:sq.2=0:=ok1
    have ok2:sq.1≤8*x.l:=ok2
    have ok6:tx<256:=ok6
    obtain⟨E,hE⟩:∃E,E=lenT ⟨tx,td,tn⟩:=⟨_,rfl⟩
    have hrng:0≤td∧td≤32768∧0≤tn∧tn≤258:=by rcases mayT_is ok5 with h|h<;>(have:=h.1;dsimp only at*;omega)
    have hmx:(if tn<1 then(1:Int)else tn)=(E:Int):=by
     rw[hE];unfold lenT
     rcases mayT_is ok5 with h|h
     ·have h0:tn=0:=h.1
      rw[if_pos (show(⟨tx,td,tn⟩:Tok).n=0 from h0),if_pos (by omega)];rfl
     ·have h1:3≤tn:=h.2.2.1
      rw[if_neg (show¬(⟨tx,td,tn⟩:Tok).n=0 by show¬tn=0;omega),if_neg (by omega)]
      show tn=((tn.toNat:Nat):Int);omega
    have hE258:E≤258:=by
     rw[hE];unfold lenT;split
     ·omega
     ·show tn.toNat≤258;omega
    obtain⟨M2,hM2⟩:∃M2,M2=sM+E:=⟨_,rfl⟩
    have hsum:(sM:Int)+(E:Int)=(M2:Int):=by omega
    have hbq:bdQ x.lim sM ⟨tx,td,tn⟩ sq=wantS (wantS sq (decide (td≤(sM:Int))) 60) (decide (M2≤x.lim)) 140:=by rw[hM2,hE];rfl
    obtain⟨q3,hq3⟩:∃q,q=wantS sq (decide (td≤(sM:Int))) 60:=⟨_,rfl⟩
    obtain⟨q4,hq4⟩:∃q,q=bdQ x.lim sM ⟨tx,td,tn⟩ sq:=⟨_,rfl⟩
    rw[←hq3,←hq4]at hbq
    have hbt:bdT x.lim sM sT ⟨tx,td,tn⟩ sq=if q4.2=0 then sT++[⟨tx,td,tn⟩]else sT:=by rw[hq4];rfl
    have HEND:Hid (∀W',KeepsOthers W W'→Col x (if q4.2=0 then sT++[⟨tx,td,tn⟩]else sT) M2 q4 W'→Blo x k C1 C2 u1 u2 y1 y2 W3.heap.size sl W'→KeepsOthers W W'∧W.heap.size≤W'.heap.size∧I1y x k C1 C2 u1 u2 y1 y2 W3.heap.size ⟨sT,sM,sq,sl,⟨tx,td,tn⟩⟩ W'):=Lib.hid (fun W' k1 k2 k3=>⟨k1,k1.size,by
     refine⟨?_,k3,ok1,ok2,ok3,ok4,ok5,ok6⟩
     show Col x (bdT x.lim sM sT ⟨tx,td,tn⟩ sq) (sM+lenT ⟨tx,td,tn⟩) (bdQ x.lim sM ⟨tx,td,tn⟩ sq) W'
     rw[hbt,←hE,←hM2,←hq4];exact k2⟩)
    have cp:=hcol.bp.cell
    have cd:=hcol.bd.cell
    have cy1:W.cell? ⟨y,1,none⟩=some (.int .i64 td):=hbx.cell.trans rfl
    have HWA:=Lib.hid (pwant_any W x.p x.A x.l x.c sq hcol.rdr (decide (td≤(sM:Int))) 60)
    rw[←hq3]at HWA
    have HBX:=Lib.hid hbx;have HCO:=Lib.hid hcol;have HBL:=Lib.hid hblo;have HBQ:=Lib.hid hbq
    clear hbx hcol hblo hbq hbt hq3 hq4 hE hM2 ok1 ok2 ok5
    rw[HFR.out]
    gi_wp2_with fail
    refine((callsIn_wide.2 HWA.out).inRound l).mono ?_
    rintro e w2 ⟨rfl,r2,f2⟩
    have hn0:y≠x.p:=by have:=HP.out;omega
    have hc2:=HCO.out.step f2 r2
    have HBL2:=Lib.hid (HBL.out.fr f2)
    have HBX2:=Lib.hid (HBX.out.fr f2 (fun(e:y=x.p)=>hn0 e))
    have HKO2:=Lib.hid (fr_others HCO.out.rdr f2)
    have cd2:=hc2.bd.cell
    have fd2:=hc2.bd.frozen
    have cy2:w2.cell? ⟨y,2,none⟩=some (.int .i64 tn):=HBX2.out.cell.trans rfl
    obtain⟨U,hU⟩:∃U,U=w2.setCell ⟨x.z+3,0,none⟩ (.int .i64 (M2:Int)):=⟨_,rfl⟩
    have fU:Fr (At (x.z+3)) w2 U:=by rw[hU];exact Fr.cell _ _ _ _
    have hnz:∀i,i<3→¬At (x.z+3) (x.z+i):=fun i hi (e:x.z+i=x.z+3)=>by omega
    have hcU:Col x sT M2 q3 U:=by
     obtain⟨B',n',b',o'⟩:=hc2.row
     have hpz:=HP.out
     refine⟨hc2.rdr.fr fU (fun(e:x.p=x.z+3)=>by omega),boxed_fr hc2.bp fU (hnz 0 (by omega)),boxed_fr hc2.bm fU (hnz 1 (by omega)),?_,⟨B',n',boxed_fr b' fU (hnz 2 (by omega)),own_fr o' fU (fun j (e:j=x.z+3)=>by unfold Lie.u;omega)⟩,hc2.fr.from fU fun j (e:j=x.z+3)=>.inr (by rw[HP.out.1];omega),fun D hD=>(by
      obtain⟨d1,d2,d3⟩:=hc2.mks D hD
      exact⟨d1,d2,(fU.block D (Array.getElem?_eq_some_iff.1 d3).1 (fun(e:D=x.z+3)=>mark_ne d3 hc2.bd e)).trans d3⟩)⟩
     rw[hU];exact Boxed.set _ hc2.bd
    have hblU:Blo x k C1 C2 u1 u2 y1 y2 W3.heap.size sl U:=by
     have hb2:=HBL2.out
     have hle:=hb2.le
     unfold Lie.u at hle
     refine⟨boxed_fr hb2.bp fU (fun(e:W3.heap.size=x.z+3)=>by omega),hb2.bk.fr fU (fun(e:W3.heap.size+1=x.z+3)=>by omega),hb2.o1.fr fU (fun j (e:j=x.z+3)=>by unfold Lie.u;omega),hb2.o2.fr fU (fun j (e:j=x.z+3)=>by unfold Lie.u;omega),hb2.le⟩
    have hbxU:BoxC U y #[.int .u8 (tx:Int),.int .i64 td,.int .i64 tn] 36:=HBX2.out.fr fU (fun(e:y=x.z+3)=>by omega)
    have HKOU:Hid (KeepsOthers W U):=Lib.hid (HKO2.out.trans (by rw[hU];exact KeepsOthers.setCell _ _ _))
    have cpU:=hcU.bp.cell
    have cdU:=hcU.bd.cell
    have cmU:=hcU.bm.cell
    have cp2:=hc2.bp.cell
    have cm2:=hc2.bm.cell
    have HWB:=Lib.hid fun b=>pwant_any U x.p x.A x.l x.c q3 hcU.rdr b 140
    rw[hU]at cpU cdU cmU
    have HU:=Lib.hid hU;have HCU:=Lib.hid hcU;have HBLU:=Lib.hid hblU;have HBXU:=Lib.hid hbxU
    clear r2 f2 hc2 HBL2 HBX2 HBL HBX HCO HWA hU fU hnz hcU hblU hbxU HKO2 cp cd cy1
    gi_wp2_with fail
    rw[←HU.out]
    refine((callsIn_wide.2 (HWB.out _)).inRound l).mono ?_
    rintro e w4 ⟨rfl,r4,f4⟩
    have r4':Rdr w4 x.p x.A x.l x.c q4:=by rw[HBQ.out];simpa using r4
    have hc4:=HCU.out.step f4 r4'
    have hb4:=HBLU.out.fr f4
    have hx4:=HBXU.out.fr f4 (fun(e:y=x.p)=>hn0 e)
    have hk4':=HKOU.out.trans (fr_others HCU.out.rdr f4)
    have ce4:w4.cell? ⟨x.p,2,none⟩=some (.int .i64 q4.2):=r4'.e
    have cp4:=hc4.bp.cell
    by_cases he:q4.2=0
    ·have d4:(q4.2==0)=true:=by rw[he];rfl
     obtain⟨B4,n4,b4,o4⟩:=hc4.row
     have cl4:=b4.cell
     have hsz4:x.u≤w4.heap.size:=by
      have h1:=b4.lt;have h2:=hc4.bd.lt;unfold Lie.u;omega
     obtain⟨A',c',w5,hrun,hown5,hb5,hko5,hkk5⟩:=run_oneT_g w4 x.u B4 sT.length n4 sT o4 ⟨tx,td,tn⟩ (by omega) hsz4
     have hl5:w5.cell? ⟨x.z+2,0,none⟩=some (.slice B4 sT.length n4):=by rw[hb5.cell (p:=⟨x.z+2,0,none⟩) (by show x.z+2<x.u;unfold Lie.u;omega)];exact cl4
     have hb4':Boxed w5 (x.z+2) 60 (.slice B4 sT.length n4):=(hb5.block (x.z+2) (by unfold Lie.u;omega)).trans b4
     have fz5:=hb4'.frozen
     obtain⟨Y,hY⟩:∃Y,Y=w5.setCell ⟨x.z+2,0,none⟩ (.slice A' (sT.length+1) c'):=⟨_,rfl⟩
     have fY:Fr (At (x.z+2)) w5 Y:=by rw[hY];exact Fr.cell _ _ _ _
     have hsz5:=hb5.size
     have hpz:=HP.out
     have elen:(sT++[(⟨tx,td,tn⟩:Tok)]).length=sT.length+1:=by simp
     have hcY:Col x (sT++[⟨tx,td,tn⟩]) M2 q4 Y:=by
      have lo:∀{g:Nat} {v:Value} {t:TypeId},Boxed w4 g t v→g<x.u→g≠x.z+2→Boxed Y g t v:=fun{g v t} h h1 h2=>boxed_fr ((hb5.block g h1).trans h:Boxed w5 g t v) fY (fun(e:g=x.z+2)=>h2 e)
      refine⟨?_,lo hc4.bp (by unfold Lie.u;omega) (by omega),lo hc4.bm (by unfold Lie.u;omega) (by omega),lo hc4.bd (by unfold Lie.u;omega) (by omega),⟨A',c',?_,?_⟩,?_,fun D hD=>(by
       obtain⟨d1,d2,d3⟩:=hc4.mks D hD
       have d4:=hko5.same D _ d3 rfl
       exact⟨d1,d2,(fY.block D (Array.getElem?_eq_some_iff.1 d4).1 (fun(e:D=x.z+2)=>mark_ne d4 hb4' e)).trans d4⟩)⟩
      ·exact BoxC.fr (BoxC.below r4' hb5 (by unfold Lie.u;omega)) fY (fun(e:x.p=x.z+2)=>by omega)
      ·rw[hY,elen];exact Boxed.set _ hb4'
      ·rw[elen];exact own_fr hown5 fY (fun j (e:j=x.z+2)=>by unfold Lie.u;omega)
      ·exact(hc4.fr.low hb5 (by rw[HP.out.1];unfold Lie.u;omega)).from fY fun j (e:j=x.z+2)=>.inr (by rw[HP.out.1];omega)
     have hbY:Blo x k C1 C2 u1 u2 y1 y2 W3.heap.size sl Y:=by
      have hle:=hb4.le
      unfold Lie.u at hle
      have hi:∀{j:Nat} {cs:Array Value} {t:TypeId},w4.heap[j]?=some (.cells cs t (0,0))→(36==t)=false→w5.heap[j]?=w4.heap[j]?:=fun{j cs t} h ht=>hkk5 j (Array.getElem?_eq_some_iff.1 h).1 (own_type o4 h ht)
      have ho:∀{v:Value} {ys:List Int},OwnS w4 x.u v ys→OwnS Y x.u v ys:=fun{v ys} o=>OwnS.fr (own_blk o fun j hj=>by obtain⟨cur,hc⟩:=own_cellsT o hj;exact hi hc (by kernel_rfl)) fY (fun j (e:j=x.z+2)=>by unfold Lie.u;omega)
      exact⟨boxed_fr ((hi hb4.bp (by kernel_rfl)).trans hb4.bp:Boxed w5 _ _ _) fY (fun(e:W3.heap.size=x.z+2)=>by omega),BoxC.fr ((hi hb4.bk (by kernel_rfl)).trans hb4.bk:BoxC w5 _ _ _) fY (fun(e:W3.heap.size+1=x.z+2)=>by omega),ho hb4.o1,ho hb4.o2,hb4.le⟩
     have HFIN:=Lib.hid (HEND.out Y ((hk4'.trans hko5).trans (by rw[hY];exact KeepsOthers.setCell _ _ _)) (by rw[if_pos he];exact hcY) hbY)
     have HRUN:=Lib.hid hrun;have HY:=Lib.hid hY;have HX4:=Lib.hid hx4
     clear r4 f4 r4' hc4 hb4 hx4 hk4' he b4 o4 hrun hown5 hb5 hko5 hkk5 hb4' fY hcY hbY hY HWB hsz4 hsz5 HCU HBLU HBXU HKOU cpU cdU cmU
     gi_wp2_with (first
      |(refine wpListIn_load_row rfl _ _ rfl y rfl _ #[.int .u8 (tx:Int),.int .i64 td,.int .i64 tn] (0,0) _ HX4.out Tryz.underlying36 rfl szTok ?_)
      |(gi_at_builtin;refine wpListIn_append_run rfl (.tmp 48) (.tmp 50) 60 rfl (.slice B4 sT.length n4) (.slice (some ⟨w4.heap.size,0,none⟩) 1 1) (.slice A' (sT.length+1) c') w5 rfl rfl HRUN.out ?_))
     rw[←HY.out]
     exact⟨HFIN.out.1,by have h1:=HFIN.out.2.1;have h2:Y.heap.size=w5.heap.size:=by {rw[HY.out];simp[World.setCell]};omega,HFIN.out.2.2⟩
    ·have d4:(q4.2==0)=false:=beq_eq_false_iff_ne.2 he
     have HFIN:=Lib.hid (HEND.out w4 hk4' (by rw[if_neg he];exact hc4) hb4)
     clear r4 f4 r4' hc4 hb4 hx4 hk4' he HWB
     gi_wp2
     exact HFIN.out
   case done=>
    rintro D W hD ⟨T2,M2,q3,hcol2,hend⟩ hK
    have hDW:D<W.heap.size:=(Array.getElem?_eq_some_iff.1 hK).1
    have hzt:=x.tok
    have hs5':=HS5.out
    have hs3':=HS3.out
    have hmks:∀D'∈D::x.ds,x.z≤D'∧D'<W.heap.size∧W.heap[D']?=some (.deferred (some [])):=fun D' hD'=>by
     rcases List.mem_cons.1 hD' with e|e
     ·subst e;exact⟨by omega,hDW,hK⟩
     ·obtain⟨d1,d2,d3⟩:=hcol2.mks D' e
      exact⟨d1,by omega,d3⟩
    have hnd2:(D::x.ds).Nodup:=List.nodup_cons.2 ⟨fun e=>by have:=(hcol2.mks D e).2.1;omega,HND.out⟩
    have n1:W.cell? ⟨x0.p,1,none⟩=some (.int .i64 (q3.1:Int)):=by rw[←HE.out.2.1];exact hcol2.rdr.a
    have n2:W.cell? ⟨x0.p,2,none⟩=some (.int .i64 q3.2):=by rw[←HE.out.2.1];exact hcol2.rdr.e
    have o1:wr.cell? ⟨x0.p,1,none⟩=some (.int .i64 (qa:Int)):=by rw[←HE.out.2.1];exact HM1.out
    have o2:wr.cell? ⟨x0.p,2,none⟩=some (.int .i64 0):=by rw[←HE.out.2.1];exact HM2.out
    simp only[Exit.inBlock]
    refine⟨⟨⟨x.w0,x.p,x.A,x.l,x.c,x.z,x.lim,D::x.ds,W.heap.size,x.ok,by omega⟩,T2,M2,q3,k.last,HE.out,⟨by rw[HDS.out];rfl,rfl,rfl,rfl,rfl,rfl,rfl,rfl,rfl,rfl⟩,hcol2.move _ _ _ hmks,Nat.le_refl _,by show x.z+4≤W.heap.size;omega,hnd2,?_⟩,?_⟩
    ·rcases hend with h|⟨h,_⟩
     ·exact .inr (.inl h)
     ·cases hkl:k.last
      ·rw[hkl,if_neg (by decide)]at h;exact .inl ⟨rfl,h⟩
      ·rw[hkl,if_pos rfl]at h;exact .inr (.inr ⟨rfl,h⟩)
    ·show(match (Value.bool k.last),W.cell? ⟨x0.p,1,none⟩,W.cell? ⟨x0.p,2,none⟩with| .bool false,some (.int .i64 a),some (.int .i64 e)=>if e=0 then 8*x0.l+1-a.toNat else 0|_,_,_=>0)<(match (Value.bool false),wr.cell? ⟨x0.p,1,none⟩,wr.cell? ⟨x0.p,2,none⟩with| .bool false,some (.int .i64 a),some (.int .i64 e)=>if e=0 then 8*x0.l+1-a.toNat else 0|_,_,_=>0)
     rw[n1,n2,o1,o2]
     have hqa:qa≤8*x0.l:=by have:=HTG.out.place;rw[HE.out.2.2.2.1]at this;exact this
     have hz0:(if(0:Int)=0 then 8*x0.l+1-(qa:Int).toNat else 0)=8*x0.l+1-qa:=by rw[if_pos rfl,Int.toNat_natCast]
     cases hkl:k.last
     ·show(if q3.2=0 then 8*x0.l+1-(q3.1:Int).toNat else 0)<(if(0:Int)=0 then 8*x0.l+1-(qa:Int).toNat else 0)
      rw[hz0]
      split
      ·rename_i hq3
       rcases hend with h|⟨_,h⟩
       ·exact absurd hq3 h.err
       ·omega
      ·omega
     ·show 0<(if(0:Int)=0 then 8*x0.l+1-(qa:Int).toNat else 0)
      rw[hz0];omega
  ·have hfin:TBad x.lim R T q∨TFin x.lim R T q:=by
    rcases HI.out with h|h|h
    ·exact absurd ⟨h.1,h.2.err⟩ hgo
    ·exact .inl h
    ·exact .inr h.2
   have hmk:=HC.out.mks
   have HLV:Hid (∀tmps:Array Value,tmps.getD 4 undef=.slice B T.length n→LeavesInM Fence.wide 9 Tryz.prog Tryz.f77 tmps (fun e w'=>TkPost x0 R e w') (ds.map markD) .returning wr):=Lib.hid (fun tmps ht=>by
    rw[HDS.out]
    refine leavesM_all (fun W=>Rdr W x.p x.A x.l x.c q∧Fr (At x.p) x.w0 W∧W.ownsRow x.u 36 3 (.slice B T.length n) T.length (toksL T)) x.z ?_ ?_ x.ds wr ⟨HC.out.rdr,HC.out.fr,hown⟩ (fun D hD=>⟨(hmk D hD).1,(hmk D hD).2.2⟩) HND.out
    ·rintro _ W W' row ⟨h1,h2,h3⟩ hg hr
     exact⟨grown_cells h1 hg fun r e=>(hr r e).2,h2.grown hg fun r e=>by rw[x.ok.1];exact(hr r e).1,own_grown h3 hg fun r e=>(hr r e).2⟩
    ·rintro W ⟨h1,h2,h3⟩
     exact⟨_,(by {have ht':tmps[4]?.getD undef=.slice B T.length n:=(by simpa using ht);simp[results,Tryz.results77,go_sem,ht']}),HPX.out W B n h1 h2 h3 hfin⟩)
   cases lb
   ·have hq0:¬q.2=0:=fun e=>hgo ⟨rfl,e⟩
    have d0:(q.2==0)=false:=beq_eq_false_iff_ne.2 hq0
    clear hgo hfin hmk hown hbr
    gi_wp2
    refine HLV.out _ ?_
    rfl
   ·clear hgo hfin hmk hown hbr
    gi_wp2
    refine HLV.out _ ?_
    rfl
end Go.Proofs.YtgokdgcmkcmjeaaGreat
