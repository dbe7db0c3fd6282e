/-
  Words and walks.
-/
import Derived.Deep.MidRow
import Derived.Test.YtcmpmighjglnpaaGreattaat
import Derived.Test.YtcmpmighjglnpaaGreattaav
import Derived.Test.YtcmpmighjglnpaaGreattaaw
set_option maxRecDepth 100000
set_option maxHeartbeats 16000000
namespace Go.Proofs.YtcmpmighjglnpaaGreat
open Go.RowKit
theorem infoTok14:(Tryz.prog.info? 82).map (fun i=>(i.zero,i.size))=some (some (.agg #[.int .u8 0,.int .i64 0,.int .i64 0]),3):=by kernel_rfl
theorem szTok14:(Tryz.prog.info? 82).map (·.size)=some 3:=(zero_of_info infoTok14).2
theorem step_piece{k:Blk13}{g:Nat→Nat}{L a:Nat}(hk:BlkIn k)(ha:a≤8*L):stpQ (dropG g (a/8)) (min 600 (L-a/8)) ((a%8:Nat):Int) true k=
  ((nextR k g L a).1,(nextR k g L a).2.1,(if(nextR k g L a).2.2.2=0 then(nextR k g L a).2.2.1-8*(a/8)else(nextR k g L a).2.2.1),(nextR k g L a).2.2.2):=by
 have h1:=piece_asked ha
 have h2:=next_piece (g:=g) hk ha
 unfold stpQ
 rw[if_neg (by rw[h1];simp),if_neg (by decide),Int.toNat_natCast,h2]
 generalize nextR k (dropG g (a/8)) (min 600 (L-a/8)) (a%8)=R
 obtain⟨t,e,q,x⟩:=R
 unfold upN
 dsimp only
 by_cases h3:x=0
 ·rw[if_pos h3,if_pos h3,Nat.add_sub_cancel_left]
 ·rw[if_neg h3,if_neg h3]
theorem next_left{k:Blk13}{g:Nat→Nat}{L a:Nat}(h:(nextR k g L a).2.1=false)(h0:k.kind=0):1≤k.left:=by
 unfold nextR at h
 rw[if_pos h0]at h
 unfold nxtS at h
 by_cases h1:k.left=0
 ·rw[if_pos h1]at h;cases h
 ·omega
theorem next_lit{k:Blk13}{g:Nat→Nat}{L a:Nat}(h0:k.kind=0):(nextR k g L a).1.n=0:=by
 unfold nextR
 rw[if_pos h0]
 unfold nxtS
 by_cases h1:k.left=0
 ·rw[if_pos h1];rfl
 ·rw[if_neg h1]
  by_cases h2:8*L<a+8
  ·rw[if_pos h2];rfl
  ·rw[if_neg h2]
structure StpD (w:World) (h0 p:Nat) (u:UnV) (k:Blk13) (g:Nat→Nat) (L:Nat) (pw out:List Nat) (R:Tok×Bool×Nat×Int) (e:Ending) (w':World):Prop where
 bad:R.2.2.2≠0→e=.returned (.int .i64 R.2.2.2)∧UnR w' h0 p u (some k) g L pw out
 fin:R.2.2.2=0→R.2.1=true→e=.returned (.int .i64 0)∧∃u',UnR w' h0 p u' none g L pw out∧u'.M=u.M∧u'.D=u.D∧u'.I=u.I∧u'.a=u.a∧u'.ov=k.last∧u'.bit=R.2.2.1∧u'.wait=u.wait
 lit0:R.2.2.2=0→R.2.1=false→R.1.n=0→u.D=u.M→e=.returned (.int .i64 140)
 lit1:R.2.2.2=0→R.2.1=false→R.1.n=0→u.D≠u.M→e=.returned (.int .i64 0)∧∃u',UnR w' h0 p u' (some (lessK k)) g L pw (out++[R.1.x])∧u'.M=u.M∧u'.D=u.D+1∧u'.I=u.I∧u'.a=u.a∧u'.ov=u.ov∧u'.bit=R.2.2.1∧u'.wait=u.wait+1
 cop:R.2.2.2=0→R.2.1=false→R.1.n≠0→((winO pw out u.wait).length<R.1.d→e=.returned (.int .i64 60))∧(¬(winO pw out u.wait).length<R.1.d→u.M<u.D+R.1.n→e=.returned (.int .i64 140))∧
  (¬(winO pw out u.wait).length<R.1.d→¬u.M<u.D+R.1.n→e=.returned (.int .i64 0)∧∃u',UnR w' h0 p u' (some k) g L (winI (winO pw out u.wait) (copL (winO pw out u.wait) R.1.d.toNat R.1.n.toNat)) (out++copL (winO pw out u.wait) R.1.d.toNat R.1.n.toNat)∧u'.M=u.M∧u'.D=u.D+R.1.n∧u'.I=u.I∧u'.a=u.a∧u'.ov=u.ov∧u'.bit=R.2.2.1∧u'.wait=0)
 bel:Below h0 w w'
theorem ustep_any(w:World)(h0 p:Nat)(u:UnV)(k:Blk13)(g:Nat→Nat)(L:Nat)(pw out:List Nat)(h:UnR w h0 p u (some k) g L pw out)(ho:out.length≤131072)(hM:u.M≤131072)(hD:0≤u.D)(hDM:u.D≤u.M)(hkd:u.kd<256):
  Calls Tryz.prog 39 #[.pointer (some ⟨p,0,none⟩)] w fun e w'=>StpD w h0 p u k g L pw out (nextR k g L u.bit) e w':=by
 have hp:=upiece_any w h0 p u (some k) g L pw out h
 have hfw:=next_fwd (k:=k) (g:=g) (L:=L) (a:=u.bit) h.bit
 have hmy:=next_may (k:=k) (g:=g) (L:=L) (a:=u.bit)
 have hleft:=next_left (k:=k) (g:=g) (L:=L) (a:=u.bit)
 have hStep:∀V,Below w.heap.size w V→∀(A':Option Addr) (c':Nat),RdB V V.heap.size A' (min 600 (L-u.bit/8)) (dropG g (u.bit/8))→Calls Tryz.prog 60 #[.agg u.blk.toArray,.slice A' (min 600 (L-u.bit/8)) c',.int .i64 ((u.bit%8:Nat):Int)] V fun e w'=>e=.returned (nxtV ((nextR k g L u.bit).1,(nextR k g L u.bit).2.1,(if(nextR k g L u.bit).2.2.2=0 then(nextR k g L u.bit).2.2.1-8*(u.bit/8)else(nextR k g L u.bit).2.2.1),(nextR k g L u.bit).2.2.2))∧Below V.heap.size V w':=by
  intro V hV A' c' hg
  have hv:=h.on hV
  obtain⟨_,gk,s1,s2,b1,b2,b3,b4,b5,b6⟩:=hv.blk
  have:=pstep13_any V A' (min 600 (L-u.bit/8)) c' (dropG g (u.bit/8)) hg ((u.bit%8:Nat):Int) (by omega) (by omega) (by omega) u.kd hkd u.last u.left u.c1 u.c2 u.v1 u.v2 s1 s2 b3.rd b4.rd b5 b6 true ⟨fun _=>b1,fun _=>rfl⟩ k (fun _=>b2)
  rw[step_piece gk.into h.bit]at this
  exact this
 obtain⟨R,hR⟩:∃R,R=nextR k g L u.bit:=⟨_,rfl⟩
 rw[←hR]at hStep hfw hmy hleft⊢
 clear hR
 obtain⟨t,en,pl,er⟩:=R
 dsimp only at hStep hfw hmy hleft
 obtain⟨m,hm⟩:∃m,m=min 600 (L-u.bit/8):=⟨_,rfl⟩
 obtain⟨s,hs⟩:∃s,s=u.bit/8:=⟨_,rfl⟩
 obtain⟨r,hr⟩:∃s,s=u.bit%8:=⟨_,rfl⟩
 rw[←hm,←hs,←hr]at hp hStep
 obtain⟨q,hq⟩:∃q,q=if er=0 then pl-8*s else pl:=⟨_,rfl⟩
 rw[←hq]at hStep
 obtain⟨Z,hZ⟩:∃Z:Array Value,Z=#[.int .u8 0,.int .i64 0,.int .i64 0]:=⟨_,rfl⟩
 have hzt:∀u:World,(zeroValue 82).run Tryz.prog u=.ok (.agg Z) u:=by rw[hZ];exact(zero_of_info infoTok14).1
 have HZS:Hid (Z.size=3):=Lib.hid (by rw[hZ];rfl)
 have HP:=Lib.hid hp;have HH:=Lib.hid h;have HSTEP:=Lib.hid hStep
 by_cases he:er≠0
 ·have d0:(er==0)=false:=beq_eq_false_iff_ne.2 he
  have d1:(er !=0)=true:=by simp[bne,d0]
  have HE:=Lib.hid he
  clear hp hStep hfw hmy hleft h hm hs hr hq hZ he hM hD hDM ho hkd
  go_enter Tryz.func39,Tryz.ntmps39
  go_wp2_with fail
  refine HP.out.mono ?_
  rintro e w2 ⟨A',c',rfl,r1,hb2⟩
  have HC:=Lib.hid (HSTEP.out w2 hb2 A' c' r1)
  have h2:=HH.out.on hb2
  have HRB:=Lib.hid h2.box.rB
  have HB2:=Lib.hid hb2
  clear r1 hb2 h2
  go_wp2_with (first
   |(refine wpList_load_mid rfl _ _ rfl p 4 rfl u.blk _ HRB.out Tryz.underlying28 rfl (szBlkL _ _ _ _ _ _ _) ?_)
   |fail)
  refine HC.out.mono ?_
  rintro e w3 ⟨rfl,hb3⟩
  obtain⟨T,hT⟩:∃T:Array Value,T=#[.int .u8 (t.x:Int),.int .i64 t.d,.int .i64 t.n]:=⟨_,rfl⟩
  unfold nxtV
  dsimp only
  rw[←hT]
  obtain⟨w4,hw4⟩:∃W,W=mkV w3 Z T 82:=⟨_,rfl⟩
  have hb34:Below w3.heap.size w3 w4:=by rw[hw4];exact mkV_below _ _ _ _
  have hb3':Below w.heap.size w w3:=HB2.out.trans (hb3.mono HB2.out.size)
  have hb4:Below w.heap.size w w4:=hb3'.trans (hb34.mono hb3'.size)
  have h4:=HH.out.on hb4
  have t4:BoxC w4 w3.heap.size T 82:=by rw[hw4];exact mkV_row _ _ _ _
  have hb0:Below h0 w w4:=hb4.mono HH.out.bel
  have hps:p<w3.heap.size:=Nat.lt_of_lt_of_le (HH.out.lt p (.inl rfl)) hb3'.size
  have htt:∀j,u.t.ownBlock=some j→j<w3.heap.size:=fun j hj=>Nat.lt_of_lt_of_le (HH.out.lt j (.inr hj)) hb3'.size
  obtain⟨tb,htb⟩:∃b,b=w3.heap.size:=⟨_,rfl⟩
  have HTS:Hid (T.size=3):=Lib.hid (by rw[hT];rfl)
  have HTO:Hid (T.all (·.oneCell')=true):=Lib.hid (by rw[hT];exact oneTok _ _ _)
  have HW4:=Lib.hid hw4;have H4:=Lib.hid h4;have HT4:=Lib.hid t4;have HB0:=Lib.hid hb0;have HTE:=Lib.hid hT;have HTB:=Lib.hid htb
  have HPS:Hid (p<tb):=Lib.hid (by rw[htb];exact hps)
  clear hb3 hT hw4 hb34 hb3' hb4 h4 t4 hb0 hps htt htb
  go_wp2_with (first
   |(refine wpList_store_rowTo rfl _ _ _ rfl rfl w3.heap.size T rfl rfl 82 Z (heap_alloc_new w3 _) (by rw[HTS.out];exact szTok14) (by rw[HZS.out,HTS.out]) HTO.out ?_;change wpList _ _ _ _ _ (mkV w3 Z T 82);rw[←HW4.out])
   |fail)
  go_ret
  exact⟨fun _=>⟨rfl,H4.out⟩,fun h=>absurd h HE.out,fun h=>absurd h HE.out,fun h=>absurd h HE.out,fun h=>absurd h HE.out,HB0.out⟩
 ·obtain rfl:er=0:=by omega
  rw[if_pos rfl]at hq
  obtain⟨f1,f2,f3⟩:=hfw rfl
  have HSUM:Hid ((u.bit:Int)+((q:Int)-(r:Int))=(pl:Int)):=Lib.hid (by omega)
  obtain⟨bt,hbt⟩:∃b,b=u.bit:=⟨_,rfl⟩
  have l1:(bt:Int)≤8000000:=by have:=h.bit;have:=h.lL;omega
  have l2:(q:Int)≤8000000:=by have:=h.bit;have:=h.lL;omega
  have l3:(r:Int)≤7:=by omega
  have HPB:Hid (pl≤8*L):=Lib.hid (by omega)
  have HPB0:Hid (pl≤8000000):=Lib.hid (by have:=h.lL;omega)
  rw[←hbt]at HSUM
  have HBT:=Lib.hid hbt
  cases en with
  |true=>
   clear hp hStep hfw hmy hleft h hm hs hr hq hZ he hM hD hDM ho hkd f1 f2 f3 hbt
   go_enter Tryz.func39,Tryz.ntmps39
   go_wp2_with fail
   refine HP.out.mono ?_
   rintro e w2 ⟨A',c',rfl,r1,hb2⟩
   have HC:=Lib.hid (HSTEP.out w2 hb2 A' c' r1)
   have h2:=HH.out.on hb2
   have HRB:=Lib.hid h2.box.rB
   have HB2:=Lib.hid hb2
   clear r1 hb2 h2
   go_wp2_with (first
    |(refine wpList_load_mid rfl _ _ rfl p 4 rfl u.blk _ HRB.out Tryz.underlying28 rfl (szBlkL _ _ _ _ _ _ _) ?_)
    |fail)
   refine HC.out.mono ?_
   rintro e w3 ⟨rfl,hb3⟩
   obtain⟨T,hT⟩:∃T:Array Value,T=#[.int .u8 (t.x:Int),.int .i64 t.d,.int .i64 t.n]:=⟨_,rfl⟩
   unfold nxtV
   dsimp only
   rw[←hT]
   obtain⟨w4,hw4⟩:∃W,W=mkV w3 Z T 82:=⟨_,rfl⟩
   have hb34:Below w3.heap.size w3 w4:=by rw[hw4];exact mkV_below _ _ _ _
   have hb3':Below w.heap.size w w3:=HB2.out.trans (hb3.mono HB2.out.size)
   have hb4:Below w.heap.size w w4:=hb3'.trans (hb34.mono hb3'.size)
   have h4:=HH.out.on hb4
   have t4:BoxC w4 w3.heap.size T 82:=by rw[hw4];exact mkV_row _ _ _ _
   have hb0:Below h0 w w4:=hb4.mono HH.out.bel
   have hps:p<w3.heap.size:=Nat.lt_of_lt_of_le (HH.out.lt p (.inl rfl)) hb3'.size
   have htt:∀j,u.t.ownBlock=some j→j<w3.heap.size:=fun j hj=>Nat.lt_of_lt_of_le (HH.out.lt j (.inr hj)) hb3'.size
   obtain⟨tb,htb⟩:∃b,b=w3.heap.size:=⟨_,rfl⟩
   have HTS:Hid (T.size=3):=Lib.hid (by rw[hT];rfl)
   have HTO:Hid (T.all (·.oneCell')=true):=Lib.hid (by rw[hT];exact oneTok _ _ _)
   have HW4:=Lib.hid hw4;have H4:=Lib.hid h4;have HT4:=Lib.hid t4;have HB0:=Lib.hid hb0;have HTE:=Lib.hid hT;have HTB:=Lib.hid htb
   have HPS:Hid (p<tb):=Lib.hid (by rw[htb];exact hps)
   have c46:w4.cell? ⟨p,46,none⟩=some (.int .i64 (bt:Int)):=by rw[HBT.out];exact h4.box.cbit
   have g46:=h4.box.free 46
   obtain⟨w5,hw5⟩:∃W,W=w4.setCell ⟨p,46,none⟩ (.int .i64 (pl:Int)):=⟨_,rfl⟩
   have h5:=h4.setBit pl HPB.out
   rw[←hw5]at h5
   have hb5:Below h0 w w5:=by rw[hw5];exact hb0.setCell h4.lo _
   have hc:=uclose_any w5 h0 p _ k g L pw out h5
   have HC2:=Lib.hid hc;have HW5:=Lib.hid hw5;have HB5:=Lib.hid hb5;have HLO:=Lib.hid h4.lo;have HBE:=Lib.hid h5.bel
   have esum:=HSUM.out
   clear hb3 hT hw4 hb34 hb3' hb4 h4 t4 hb0 hps htt hw5 h5 hb5 hc htb
   go_wp2_with (first
    |(refine wpList_store_rowTo rfl _ _ _ rfl rfl w3.heap.size T rfl rfl 82 Z (heap_alloc_new w3 _) (by rw[HTS.out];exact szTok14) (by rw[HZS.out,HTS.out]) HTO.out ?_;change wpList _ _ _ _ _ (mkV w3 Z T 82);rw[←HW4.out])
    |(rw[←HW5.out])
    |fail)
   refine HC2.out.mono ?_
   rintro e w6 ⟨rfl,r1,r2⟩
   have HF:=Lib.hid r1
   have HB6:Hid (Below h0 w w6):=Lib.hid (HB5.out.trans (r2.below (fun j hj=>by have hj':j=p:=hj;rw[hj'];exact HLO.out) HBE.out))
   clear r1 r2
   go_wp2
   go_ret
   exact⟨fun h=>absurd rfl h,fun _ _=>⟨rfl,_,HF.out,rfl,rfl,rfl,rfl,rfl,rfl,rfl⟩,fun _ h=>(by cases h),fun _ h=>(by cases h),fun _ h=>(by cases h),HB6.out⟩
  |false=>
   obtain⟨m1,m2⟩:=hmy rfl rfl
   by_cases hn:t.n=0
   ·have HLE:=Lib.hid (hleft rfl)
    have HX:=Lib.hid m2;have HN:=Lib.hid hn;have HO:=Lib.hid ho;have HM:=Lib.hid hM;have HD:=Lib.hid hD;have HDM:=Lib.hid hDM
    clear hp hStep hfw hmy hleft h hm hs hr hq hZ he hM hD hDM ho hkd f1 f2 f3 hbt m1 m2
    go_enter Tryz.func39,Tryz.ntmps39
    go_wp2_with fail
    refine HP.out.mono ?_
    rintro e w2 ⟨A',c',rfl,r1,hb2⟩
    have HC:=Lib.hid (HSTEP.out w2 hb2 A' c' r1)
    have h2:=HH.out.on hb2
    have HRB:=Lib.hid h2.box.rB
    have HB2:=Lib.hid hb2
    clear r1 hb2 h2
    go_wp2_with (first
     |(refine wpList_load_mid rfl _ _ rfl p 4 rfl u.blk _ HRB.out Tryz.underlying28 rfl (szBlkL _ _ _ _ _ _ _) ?_)
     |fail)
    refine HC.out.mono ?_
    rintro e w3 ⟨rfl,hb3⟩
    obtain⟨T,hT⟩:∃T:Array Value,T=#[.int .u8 (t.x:Int),.int .i64 t.d,.int .i64 t.n]:=⟨_,rfl⟩
    unfold nxtV
    dsimp only
    rw[←hT]
    obtain⟨w4,hw4⟩:∃W,W=mkV w3 Z T 82:=⟨_,rfl⟩
    have hb34:Below w3.heap.size w3 w4:=by rw[hw4];exact mkV_below _ _ _ _
    have hb3':Below w.heap.size w w3:=HB2.out.trans (hb3.mono HB2.out.size)
    have hb4:Below w.heap.size w w4:=hb3'.trans (hb34.mono hb3'.size)
    have h4:=HH.out.on hb4
    have t4:BoxC w4 w3.heap.size T 82:=by rw[hw4];exact mkV_row _ _ _ _
    have hb0:Below h0 w w4:=hb4.mono HH.out.bel
    have hps:p<w3.heap.size:=Nat.lt_of_lt_of_le (HH.out.lt p (.inl rfl)) hb3'.size
    have htt:∀j,u.t.ownBlock=some j→j<w3.heap.size:=fun j hj=>Nat.lt_of_lt_of_le (HH.out.lt j (.inr hj)) hb3'.size
    obtain⟨tb,htb⟩:∃b,b=w3.heap.size:=⟨_,rfl⟩
    have HTS:Hid (T.size=3):=Lib.hid (by rw[hT];rfl)
    have HTO:Hid (T.all (·.oneCell')=true):=Lib.hid (by rw[hT];exact oneTok _ _ _)
    have HW4:=Lib.hid hw4;have H4:=Lib.hid h4;have HT4:=Lib.hid t4;have HB0:=Lib.hid hb0;have HTE:=Lib.hid hT;have HTB:=Lib.hid htb
    have HPS:Hid (p<tb):=Lib.hid (by rw[htb];exact hps)
    have c46:w4.cell? ⟨p,46,none⟩=some (.int .i64 (bt:Int)):=by rw[HBT.out];exact h4.box.cbit
    have g46:=h4.box.free 46
    obtain⟨w5,hw5⟩:∃W,W=w4.setCell ⟨p,46,none⟩ (.int .i64 (pl:Int)):=⟨_,rfl⟩
    have h5:=h4.setBit pl HPB.out
    rw[←hw5]at h5
    have hb5:Below h0 w w5:=by rw[hw5];exact hb0.setCell h4.lo _
    have t5:BoxC w5 w3.heap.size T 82:=by rw[hw5];exact t4.other (p:=⟨p,46,none⟩) (by show w3.heap.size≠p;omega) _
    have x2:w5.cell? ⟨w3.heap.size,2,none⟩=some (.int .i64 0):=by rw[t5.cell,hT,hn];rfl
    have x0:w5.cell? ⟨w3.heap.size,0,none⟩=some (.int .u8 (t.x:Int)):=by rw[t5.cell,hT];rfl
    have hc:=usingle_any w5 h0 p _ k g L pw out h5 t.x HX.out HLE.out HM.out HD.out HDM.out (by have:=HO.out;omega)
    have HC2:=Lib.hid hc;have HW5:=Lib.hid hw5;have HB5:=Lib.hid hb5
    have esum:=HSUM.out
    clear hb3 hT hw4 hb34 hb3' hb4 h4 t4 hb0 hps htt hw5 h5 hb5 hc t5 hn
    go_wp2_with (first
     |(refine wpList_store_rowTo rfl _ _ _ rfl rfl w3.heap.size T rfl rfl 82 Z (heap_alloc_new w3 _) (by rw[HTS.out];exact szTok14) (by rw[HZS.out,HTS.out]) HTO.out ?_;change wpList _ _ _ _ _ (mkV w3 Z T 82);rw[←HW4.out])
     |(rw[←HW5.out])
     |fail)
    refine HC2.out.mono ?_
    rintro e w6 ⟨r1,r2,r3⟩
    have HB6:Hid (Below h0 w w6):=Lib.hid (HB5.out.trans r3)
    by_cases hl:u.D=u.M
    ·have e1:=r1 hl
     subst e1
     have HL:=Lib.hid hl
     clear r1 r2 r3 hl
     go_wp2
     go_ret
     exact⟨fun h=>absurd rfl h,fun _ h=>(by cases h),fun _ _ _ _=>rfl,fun _ _ _ h=>absurd HL.out h,fun _ _ h=>absurd HN.out h,HB6.out⟩
    ·obtain⟨e1,u',y1,y2,y3,y4,y5,y6,y7,y8⟩:=r2 hl
     subst e1
     have HL:=Lib.hid hl;have Y1:=Lib.hid y1;have Y2:=Lib.hid y2;have Y3:=Lib.hid y3;have Y4:=Lib.hid y4;have Y5:=Lib.hid y5;have Y6:=Lib.hid y6;have Y7:=Lib.hid y7;have Y8:=Lib.hid y8
     clear r1 r2 r3 hl y1 y2 y3 y4 y5 y6 y7 y8
     go_wp2
     go_ret
     exact⟨fun h=>absurd rfl h,fun _ h=>(by cases h),fun _ _ _ h=>absurd h HL.out,fun _ _ _ _=>⟨rfl,u',Y1.out,Y2.out,Y3.out,Y4.out,Y5.out,Y6.out,Y7.out,Y8.out⟩,fun _ _ h=>absurd HN.out h,HB6.out⟩
   ·have hm1:=mayT_is m1
    have hmm:t.n≠0∧t.x=0∧3≤t.n∧t.n≤258∧1≤t.d∧t.d≤32768:=by rcases hm1 with⟨h1,_⟩|h1;exact absurd h1 hn;exact h1
    obtain⟨_,_,n1,n2,n3,n4⟩:=hmm
    obtain⟨nn,hnn⟩:∃nn:Nat,t.n=(nn:Int):=⟨t.n.toNat,by omega⟩
    have hn1:3≤nn:=by omega
    have hn2:nn≤258:=by omega
    have hgt:(0:Int)<(nn:Int):=by omega
    have HX:=Lib.hid m2;have HN:=Lib.hid hn;have HO:=Lib.hid ho;have HM:=Lib.hid hM;have HD:=Lib.hid hD;have HDM:=Lib.hid hDM;have N3:=Lib.hid n3;have N4:=Lib.hid n4;have HNN:=Lib.hid hnn;have HN1:=Lib.hid hn1;have HN2:=Lib.hid hn2
    clear hp hStep hfw hmy hleft h hm hs hr hq hZ he hM hD hDM ho hkd f1 f2 f3 hbt m1 m2 hm1 n1 n2 n3 n4 hnn hn hn1 hn2
    go_enter Tryz.func39,Tryz.ntmps39
    go_wp2_with fail
    refine HP.out.mono ?_
    rintro e w2 ⟨A',c',rfl,r1,hb2⟩
    have HC:=Lib.hid (HSTEP.out w2 hb2 A' c' r1)
    have h2:=HH.out.on hb2
    have HRB:=Lib.hid h2.box.rB
    have HB2:=Lib.hid hb2
    clear r1 hb2 h2
    go_wp2_with (first
     |(refine wpList_load_mid rfl _ _ rfl p 4 rfl u.blk _ HRB.out Tryz.underlying28 rfl (szBlkL _ _ _ _ _ _ _) ?_)
     |fail)
    refine HC.out.mono ?_
    rintro e w3 ⟨rfl,hb3⟩
    obtain⟨T,hT⟩:∃T:Array Value,T=#[.int .u8 (t.x:Int),.int .i64 t.d,.int .i64 t.n]:=⟨_,rfl⟩
    unfold nxtV
    dsimp only
    rw[←hT]
    obtain⟨w4,hw4⟩:∃W,W=mkV w3 Z T 82:=⟨_,rfl⟩
    have hb34:Below w3.heap.size w3 w4:=by rw[hw4];exact mkV_below _ _ _ _
    have hb3':Below w.heap.size w w3:=HB2.out.trans (hb3.mono HB2.out.size)
    have hb4:Below w.heap.size w w4:=hb3'.trans (hb34.mono hb3'.size)
    have h4:=HH.out.on hb4
    have t4:BoxC w4 w3.heap.size T 82:=by rw[hw4];exact mkV_row _ _ _ _
    have hb0:Below h0 w w4:=hb4.mono HH.out.bel
    have hps:p<w3.heap.size:=Nat.lt_of_lt_of_le (HH.out.lt p (.inl rfl)) hb3'.size
    have htt:∀j,u.t.ownBlock=some j→j<w3.heap.size:=fun j hj=>Nat.lt_of_lt_of_le (HH.out.lt j (.inr hj)) hb3'.size
    obtain⟨tb,htb⟩:∃b,b=w3.heap.size:=⟨_,rfl⟩
    have HTS:Hid (T.size=3):=Lib.hid (by rw[hT];rfl)
    have HTO:Hid (T.all (·.oneCell')=true):=Lib.hid (by rw[hT];exact oneTok _ _ _)
    have HW4:=Lib.hid hw4;have H4:=Lib.hid h4;have HT4:=Lib.hid t4;have HB0:=Lib.hid hb0;have HTE:=Lib.hid hT;have HTB:=Lib.hid htb
    have HPS:Hid (p<tb):=Lib.hid (by rw[htb];exact hps)
    have c46:w4.cell? ⟨p,46,none⟩=some (.int .i64 (bt:Int)):=by rw[HBT.out];exact h4.box.cbit
    have g46:=h4.box.free 46
    obtain⟨w5,hw5⟩:∃W,W=w4.setCell ⟨p,46,none⟩ (.int .i64 (pl:Int)):=⟨_,rfl⟩
    have h5:=h4.setBit pl HPB.out
    rw[←hw5]at h5
    have hb5:Below h0 w w5:=by rw[hw5];exact hb0.setCell h4.lo _
    have t5:BoxC w5 w3.heap.size T 82:=by rw[hw5];exact t4.other (p:=⟨p,46,none⟩) (by show w3.heap.size≠p;omega) _
    have x2:w5.cell? ⟨w3.heap.size,2,none⟩=some (.int .i64 (nn:Int)):=by rw[t5.cell,hT,HNN.out];rfl
    have hc:=ucopied_any w5 h0 p _ (some k) g L pw out h5 HO.out t.x t.d nn HX.out N3.out N4.out HN1.out HN2.out HM.out HD.out HDM.out
    have eT:(#[.int .u8 (t.x:Int),.int .i64 t.d,.int .i64 (nn:Int)]:Array Value)=T:=by rw[hT,HNN.out]
    rw[eT]at hc
    have HT5:=Lib.hid t5
    have HC2:=Lib.hid hc;have HW5:=Lib.hid hw5;have HB5:=Lib.hid hb5
    have esum:=HSUM.out
    clear hb3 hT hw4 hb34 hb3' hb4 h4 t4 hb0 hps htt hw5 h5 hb5 hc t5 eT
    go_wp2_with (first
     |(refine wpList_store_rowTo rfl _ _ _ rfl rfl w3.heap.size T rfl rfl 82 Z (heap_alloc_new w3 _) (by rw[HTS.out];exact szTok14) (by rw[HZS.out,HTS.out]) HTO.out ?_;change wpList _ _ _ _ _ (mkV w3 Z T 82);rw[←HW4.out])
     |(rw[←HW5.out])
     |(refine wpList_load_row rfl _ _ rfl w3.heap.size rfl _ T (0,0) _ HT5.out Tryz.underlying82 rfl (by rw[HTS.out];exact szTok14) ?_)
     |fail)
    refine HC2.out.mono ?_
    rintro e w6 ⟨r1,r2,r3,r4⟩
    have HB6:Hid (Below h0 w w6):=Lib.hid (HB5.out.trans r4)
    have en:t.n.toNat=nn:=by rw[HNN.out];exact Int.toNat_natCast nn
    have hcase:∃v:Value,e=.returned v:=by
     by_cases y1:((winO pw out u.wait).length:Int)<t.d
     ·exact⟨_,r1 y1⟩
     ·by_cases y2:u.M<u.D+nn
      ·exact⟨_,r2 y1 y2⟩
      ·exact⟨_,(r3 y1 y2).1⟩
    obtain⟨v,rfl⟩:=hcase
    have HR1:=Lib.hid r1;have HR2:=Lib.hid r2;have HR3:=Lib.hid r3;have HEN:=Lib.hid en
    clear r1 r2 r3 r4 en
    go_wp2
    go_ret
    refine⟨fun h=>absurd rfl h,fun _ h=>(by cases h),fun _ _ h=>absurd h HN.out,fun _ _ h=>absurd h HN.out,fun _ _ _=>⟨fun y1=>HR1.out y1,fun y1 y2=>HR2.out (by have z1:¬((winO pw out u.wait).length:Int)<t.d:=y1;omega) (by have e1:=HNN.out;have y3:u.M<u.D+t.n:=y2;show u.M<u.D+(nn:Int);omega),fun y1 y2=>?_⟩,HB6.out⟩
    have:=HR3.out (by have z1:¬((winO pw out u.wait).length:Int)<t.d:=y1;omega) (by have e1:=HNN.out;have y3:¬u.M<u.D+t.n:=y2;omega)
    rw[HEN.out,HNN.out]
    exact this
end Go.Proofs.YtcmpmighjglnpaaGreat
namespace Go.Proofs.YtcmpmighjglnpaaGreat
section
variable {g h:Nat→Nat} {l m:Nat}
theorem bv_same(H:Ahead g l h m){a:Nat}:∀n,a+n≤8*l→bvN h a n=bvN g a n
 |0,_=>rfl
 |n+1,e=>by
  simp only[bvN]
  rw[bv_same H n (by omega),H.bits _ (by omega)]
theorem read_ge{F:Nat→Nat}{N a:Nat}:∀fuel n,(readR F N h m a fuel n).2.2=0→a+n≤(readR F N h m a fuel n).2.1
 |0,_,e=>absurd e (show¬(50:Int)=0 by decide)
 |fuel+1,n,e=>by
  simp only[readR]at e⊢
  cases hf:fndN F N (bvN h a n) n N with
  |some i=>exact Nat.le_refl _
  |none=>
   rw[hf]at e
   dsimp only at e⊢
   by_cases h1:morN F N (bvN h a n) n N=false
   ·rw[if_pos h1]at e;exact absurd e (show¬(50:Int)=0 by decide)
   ·rw[if_neg h1]at e⊢
    by_cases h3:8*m≤a+n
    ·rw[if_pos h3]at e;exact absurd e (show¬(10:Int)=0 by decide)
    ·rw[if_neg h3]at e⊢
     have:=read_ge fuel (n+1) e;omega
theorem read_past(H:Ahead g l h m){F:Nat→Nat}{N a:Nat}:∀fuel n,(n=0∨a+n≤8*l)→(readR F N g l a fuel n).2.2=10→(readR F N h m a fuel n).2.2=0→8*l<(readR F N h m a fuel n).2.1
 |0,_,_,e,_=>absurd e (show¬(50:Int)=10 by decide)
 |fuel+1,n,hn,e,f=>by
  have hb:bvN h a n=bvN g a n:=by
   rcases hn with h0|h0
   ·subst h0;rfl
   ·exact bv_same H n h0
  simp only[readR]at e f⊢
  rw[hb]at f⊢
  cases hf:fndN F N (bvN g a n) n N with
  |some i=>rw[hf]at e;exact absurd e (show¬(0:Int)=10 by decide)
  |none=>
   rw[hf]at e f
   dsimp only at e f⊢
   by_cases h1:morN F N (bvN g a n) n N=false
   ·rw[if_pos h1]at e;exact absurd e (show¬(50:Int)=10 by decide)
   ·rw[if_neg h1]at e f⊢
    by_cases h3:8*m≤a+n
    ·rw[if_pos h3]at f;exact absurd f (show¬(10:Int)=0 by decide)
    ·rw[if_neg h3]at f⊢
     by_cases h2:8*l≤a+n
     ·have:=read_ge (F:=F) (N:=N) (h:=h) (m:=m) (a:=a) fuel (n+1) f
      omega
     ·rw[if_neg h2]at e
      exact read_past H fuel (n+1) (.inr (by omega)) e f
theorem read_past0(H:Ahead g l h m){F:Nat→Nat}{N a:Nat}(e:(readR F N g l a 17 0).2.2=10)(f:(readR F N h m a 17 0).2.2=0):8*l<(readR F N h m a 17 0).2.1:=read_past H 17 0 (.inl rfl) e f
theorem len_past(H:Ahead g l h m){F:Nat→Nat}{n:Nat}:∀k a out,a≤8*l→(lenR F g l n k a out).2.2=10→(lenR F h m n k a out).2.2=0→8*l<(lenR F h m n k a out).2.1
 |0,_,_,_,e,_=>absurd e (show¬(0:Int)=10 by decide)
 |k+1,a,out,ha,e,f=>by
  have hm:=H.le
  rw[lenR_s]at e f⊢
  by_cases h0:n≤out.length
  ·rw[if_pos h0]at e;exact absurd e (show¬(0:Int)=10 by decide)
  ·rw[if_neg h0]at e f⊢
   have hr:=H.read (F:=F) (N:=19) (a:=a)
   have hp:=read_past0 H (F:=F) (N:=19) (a:=a)
   have hin:=read_in (F:=F) (N:=19) (g:=g) ha
   have hin2:=read_in (F:=F) (N:=19) (g:=h) (L:=m) (a:=a) (by omega)
   generalize readR F 19 g l a 17 0=R at e hr hp hin
   generalize readR F 19 h m a 17 0=S at f hr hp hin2⊢
   by_cases h1:R.2.2=10
   ·unfold lenG at f⊢
    by_cases h2:S.2.2≠0
    ·rw[if_pos h2]at f;exact absurd f h2
    ·rw[if_neg h2]at f⊢
     have hs:=hp h1 (by omega)
     by_cases h3:8*m<S.2.1+bitsR (S.1:Int)
     ·rw[if_pos h3]at f;exact absurd f (show¬(10:Int)=0 by decide)
     ·rw[if_neg h3]at f⊢
      split at f
      ·exact absurd f (show¬(132:Int)=0 by decide)
      ·rename_i h4
       rw[if_neg h4]
       exact Nat.lt_of_lt_of_le (by omega) (len_fwd (F:=F) (g:=h) (L:=m) (n:=n) k _ _ (by omega) f).1
   ·have hh:=hr h1
    subst hh
    unfold lenG at e f⊢
    by_cases h2:S.2.2≠0
    ·rw[if_pos h2]at f;exact absurd f h2
    ·rw[if_neg h2]at e f⊢
     obtain⟨r1,r2,_⟩:=hin (by omega)
     by_cases h3:8*m<S.2.1+bitsR (S.1:Int)
     ·rw[if_pos h3]at f;exact absurd f (show¬(10:Int)=0 by decide)
     ·rw[if_neg h3]at f⊢
      by_cases h5:8*l<S.2.1+bitsR (S.1:Int)
      ·split at f
       ·exact absurd f (show¬(132:Int)=0 by decide)
       ·rename_i h4
        rw[if_neg h4]
        exact Nat.lt_of_lt_of_le (by omega) (len_fwd (F:=F) (g:=h) (L:=m) (n:=n) k _ _ (by omega) f).1
      ·rw[if_neg h5]at e
       rw[H.num (by omega)]at f⊢
       split at f
       ·exact absurd f (show¬(132:Int)=0 by decide)
       ·rename_i h4
        rw[if_neg h4]at e⊢
        exact len_past H k _ _ (by omega) e f
theorem beg_past(H:Ahead g l h m){a:Nat}(e:(begR g l a).2.2=10)(f:(begR h m a).2.2=0):8*l<(begR h m a).2.1:=by
 have hm:=H.le
 by_cases h0:8*l<a+3
 ·have:=(beg_fwd f).1;omega
 ·unfold begR at e f⊢
  rw[if_neg h0]at e
  rw[if_neg (by omega),H.num (by omega)]at f⊢
  generalize numN g a 3=v at e f⊢
  have ha3:a+3≤8*l:=by omega
  generalize a+3=a at e f ha3⊢
  unfold begW at e f⊢
  by_cases h1:v/2=3
  ·rw[if_pos h1]at e;exact absurd e (show¬(130:Int)=10 by decide)
  ·rw[if_neg h1]at e f⊢
   by_cases h2:v/2=2
   ·rw[if_pos h2]at e f⊢
    unfold dynR at e f⊢
    by_cases h3:8*m<a+14
    ·rw[if_pos h3]at f;exact absurd f (show¬(10:Int)=0 by decide)
    ·rw[if_neg h3]at f⊢
     generalize hy:numN h a 14=y at f⊢
     unfold dynV at f⊢
     split at f
     ·exact absurd f (show¬(132:Int)=0 by decide)
     ·rename_i h4
      rw[if_neg h4]
      by_cases h5:8*m<a+14+3*(y/1024+4)
      ·rw[if_pos h5]at f;exact absurd f (show¬(10:Int)=0 by decide)
      ·rw[if_neg h5]at f⊢
       unfold dynS at f⊢
       split at f
       ·exact absurd f (show¬(132:Int)=0 by decide)
       ·rename_i h6
        rw[if_neg h6]
        unfold dynL at f⊢
        by_cases h8:(lenR (shR h (a+14) (y/1024+4)) h m (y%32+257+(y/32%32+1)) (y%32+257+(y/32%32+1)) (a+14+3*(y/1024+4)) []).2.2≠0
        ·rw[if_pos h8]at f;exact absurd f h8
        ·rw[if_neg h8]at f⊢
         have hfw:=(len_fwd (F:=shR h (a+14) (y/1024+4)) (g:=h) (L:=m) (n:=y%32+257+(y/32%32+1)) (y%32+257+(y/32%32+1)) (a+14+3*(y/1024+4)) [] (by omega) (by omega)).1
         unfold dynQ at f⊢
         split at f
         ·exact absurd f (show¬(132:Int)=0 by decide)
         ·rename_i h9
          rw[if_neg h9]
          dsimp only
          by_cases q1:8*l<a+14
          ·omega
          ·rw[if_neg q1,←H.num (by omega),hy]at e
           unfold dynV at e
           rw[if_neg h4]at e
           by_cases q2:8*l<a+14+3*(y/1024+4)
           ·omega
           ·rw[if_neg q2,←H.sh (by omega)]at e
            unfold dynS at e
            rw[if_neg h6]at e
            unfold dynL at e
            have hl:=len_past H (F:=shR h (a+14) (y/1024+4)) (n:=y%32+257+(y/32%32+1)) (y%32+257+(y/32%32+1)) (a+14+3*(y/1024+4)) [] (by omega)
            have hl2:=H.len (F:=shR h (a+14) (y/1024+4)) (n:=y%32+257+(y/32%32+1)) (y%32+257+(y/32%32+1)) (a+14+3*(y/1024+4)) [] (by omega)
            generalize lenR (shR h (a+14) (y/1024+4)) g l (y%32+257+(y/32%32+1)) (y%32+257+(y/32%32+1)) (a+14+3*(y/1024+4)) []=R at e hl hl2
            by_cases q3:R.2.2=10
            ·exact hl q3 (by omega)
            ·rw[hl2 q3]at h8
             rw[if_neg h8]at e
             unfold dynQ at e
             split at e
             ·exact absurd e (show¬(132:Int)=10 by decide)
             ·exact absurd e (show¬(0:Int)=10 by decide)
   ·rw[if_neg h2]at e f⊢
    by_cases h3:v/2=1
    ·rw[if_pos h3]at e;exact absurd e (show¬(0:Int)=10 by decide)
    ·rw[if_neg h3]at e f⊢
     generalize (a+7)/8*8=b at e f⊢
     unfold stoR at e f⊢
     by_cases h4:8*m<b+32
     ·rw[if_pos h4]at f;exact absurd f (show¬(10:Int)=0 by decide)
     ·rw[if_neg h4]at f⊢
      unfold stoV at f⊢
      split at f
      ·exact absurd f (show¬(131:Int)=0 by decide)
      ·rename_i h5
       rw[if_neg h5]
       dsimp only
       by_cases h6:8*l<b+32
       ·exact h6
       ·exfalso
        rw[if_neg h6]at e
        unfold stoV at e
        split at e
        ·exact absurd e (show¬(131:Int)=10 by decide)
        ·exact absurd e (show¬(0:Int)=10 by decide)
theorem ext_past(_H:Ahead g l h m){far:Bool}{y a:Nat}(e:(extR far y g l a).2.2=10)(f:(extR far y h m a).2.2=0):8*l<(extR far y h m a).2.1:=by
 unfold extR at e f⊢
 by_cases h0:extE far y≠0
 ·rw[if_pos h0]at f;exact absurd f h0
 ·rw[if_neg h0]at e f⊢
  by_cases h1:8*m<a+extB far y
  ·rw[if_pos h1]at f;exact absurd f (show¬(10:Int)=0 by decide)
  ·rw[if_neg h1]
   by_cases h2:8*l<a+extB far y
   ·exact h2
   ·rw[if_neg h2]at e;exact absurd e (of_not10 far y _)
theorem next_past(H:Ahead g l h m){k:Blk13}{a:Nat}(ha:a≤8*l)(e:(nextR k g l a).2.2.2=10)(f:(nextR k h m a).2.2.2=0):8*l<(nextR k h m a).2.2.1:=by
 have hm:=H.le
 unfold nextR at e f⊢
 by_cases h0:k.kind=0
 ·rw[if_pos h0]at e f⊢
  unfold nxtS at e f⊢
  by_cases h1:k.left=0
  ·rw[if_pos h1]at e;exact absurd e (show¬(0:Int)=10 by decide)
  ·rw[if_neg h1]at e f⊢
   by_cases h2:8*m<a+8
   ·rw[if_pos h2]at f;exact absurd f (show¬(10:Int)=0 by decide)
   ·rw[if_neg h2]
    by_cases h3:8*l<a+8
    ·exact h3
    ·rw[if_neg h3]at e;exact absurd e (show¬(0:Int)=10 by decide)
 ·rw[if_neg h0]at e f⊢
  have hr:=H.read (F:=k.F) (N:=k.n) (a:=a)
  have hp:=read_past0 H (F:=k.F) (N:=k.n) (a:=a)
  have hin:=read_in (F:=k.F) (N:=k.n) (g:=g) ha
  have hin2:=read_in (F:=k.F) (N:=k.n) (g:=h) (L:=m) (a:=a) (by omega)
  generalize readR k.F k.n g l a 17 0=r at e hr hp hin
  generalize readR k.F k.n h m a 17 0=S at f hr hp hin2⊢
  unfold nxtA at e f⊢
  by_cases h1:S.2.2≠0
  ·rw[if_pos h1]at f;exact absurd f h1
  ·rw[if_neg h1]at f⊢
   obtain⟨s1,s2,_⟩:=hin2 (by omega)
   by_cases hq:r.2.2=10
   ·have hs:=hp hq (by omega)
    by_cases h2:S.1<256
    ·rw[if_pos h2];exact hs
    ·rw[if_neg h2]at f⊢
     by_cases h3:S.1=256
     ·rw[if_pos h3];exact hs
     ·rw[if_neg h3]at f⊢
      have hx:=ext_fwd (far:=false) (s:=S.1) (g:=h) (L:=m) (a:=S.2.1)
      generalize extR false S.1 h m S.2.1=x at f hx⊢
      unfold nxtB at f⊢
      by_cases h4:x.2.2≠0
      ·rw[if_pos h4]at f;exact absurd f h4
      ·rw[if_neg h4]at f⊢
       have x1:=hx (by omega)
       have hz:=read_in (F:=k.G) (N:=k.m) (g:=h) (L:=m) (a:=x.2.1) x1.2
       generalize readR k.G k.m h m x.2.1 17 0=z at f hz⊢
       unfold nxtC at f⊢
       by_cases h5:z.2.2≠0
       ·rw[if_pos h5]at f;exact absurd f h5
       ·rw[if_neg h5]at f⊢
        obtain⟨z1,z2,_⟩:=hz (by omega)
        have hu:=ext_fwd (far:=true) (s:=z.1) (g:=h) (L:=m) (a:=z.2.1)
        generalize extR true z.1 h m z.2.1=u at f hu⊢
        unfold nxtD at f⊢
        by_cases h6:u.2.2≠0
        ·rw[if_pos h6]at f;exact absurd f h6
        ·rw[if_neg h6]
         have:=(hu (by omega)).1
         dsimp only;omega
   ·have hh:=hr hq
    subst hh
    rw[if_neg h1]at e
    obtain⟨s1',s2',_⟩:=hin (by omega)
    by_cases h2:S.1<256
    ·rw[if_pos h2]at e;exact absurd e (show¬(0:Int)=10 by decide)
    ·rw[if_neg h2]at e f⊢
     by_cases h3:S.1=256
     ·rw[if_pos h3]at e;exact absurd e (show¬(0:Int)=10 by decide)
     ·rw[if_neg h3]at e f⊢
      have hxr:=H.ext (far:=false) (s:=S.1) (a:=S.2.1)
      have hxp:=ext_past H (far:=false) (y:=S.1) (a:=S.2.1)
      have hx:=ext_fwd (far:=false) (s:=S.1) (g:=h) (L:=m) (a:=S.2.1)
      have hx':=ext_fwd (far:=false) (s:=S.1) (g:=g) (L:=l) (a:=S.2.1)
      generalize extR false S.1 g l S.2.1=y at e hxr hxp hx'
      generalize extR false S.1 h m S.2.1=x at f hxr hxp hx⊢
      unfold nxtB at e f⊢
      by_cases h4:x.2.2≠0
      ·rw[if_pos h4]at f;exact absurd f h4
      ·rw[if_neg h4]at f⊢
       have x1:=hx (by omega)
       have hz:=read_in (F:=k.G) (N:=k.m) (g:=h) (L:=m) (a:=x.2.1) x1.2
       by_cases hy:y.2.2=10
       ·have hs:=hxp hy (by omega)
        generalize readR k.G k.m h m x.2.1 17 0=z at f hz⊢
        unfold nxtC at f⊢
        by_cases h5:z.2.2≠0
        ·rw[if_pos h5]at f;exact absurd f h5
        ·rw[if_neg h5]at f⊢
         obtain⟨z1,z2,_⟩:=hz (by omega)
         have hu:=ext_fwd (far:=true) (s:=z.1) (g:=h) (L:=m) (a:=z.2.1)
         generalize extR true z.1 h m z.2.1=u at f hu⊢
         unfold nxtD at f⊢
         by_cases h6:u.2.2≠0
         ·rw[if_pos h6]at f;exact absurd f h6
         ·rw[if_neg h6]
          have:=(hu (by omega)).1
          dsimp only;omega
       ·have hh:=hxr hy
        subst hh
        rw[if_neg h4]at e
        have x1':=hx' (by omega)
        have hr2:=H.read (F:=k.G) (N:=k.m) (a:=x.2.1)
        have hp2:=read_past0 H (F:=k.G) (N:=k.m) (a:=x.2.1)
        have hz':=read_in (F:=k.G) (N:=k.m) (g:=g) (L:=l) (a:=x.2.1) x1'.2
        generalize readR k.G k.m g l x.2.1 17 0=z' at e hr2 hp2 hz'
        generalize readR k.G k.m h m x.2.1 17 0=z at f hr2 hp2 hz⊢
        unfold nxtC at e f⊢
        by_cases h5:z.2.2≠0
        ·rw[if_pos h5]at f;exact absurd f h5
        ·rw[if_neg h5]at f⊢
         obtain⟨z1,z2,_⟩:=hz (by omega)
         by_cases hq2:z'.2.2=10
         ·have hs:=hp2 hq2 (by omega)
          have hu:=ext_fwd (far:=true) (s:=z.1) (g:=h) (L:=m) (a:=z.2.1)
          generalize extR true z.1 h m z.2.1=u at f hu⊢
          unfold nxtD at f⊢
          by_cases h6:u.2.2≠0
          ·rw[if_pos h6]at f;exact absurd f h6
          ·rw[if_neg h6]
           have:=(hu (by omega)).1
           dsimp only;omega
         ·have hh:=hr2 hq2
          subst hh
          rw[if_neg h5]at e
          have hur:=H.ext (far:=true) (s:=z.1) (a:=z.2.1)
          have hup:=ext_past H (far:=true) (y:=z.1) (a:=z.2.1)
          generalize extR true z.1 g l z.2.1=v at e hur hup
          generalize extR true z.1 h m z.2.1=u at f hur hup⊢
          unfold nxtD at e f⊢
          by_cases h6:u.2.2≠0
          ·rw[if_pos h6]at f;exact absurd f h6
          ·rw[if_neg h6]
           by_cases hv:v.2.2=10
           ·exact hup hv (by omega)
           ·have hh:=hur hv
            subst hh
            rw[if_neg h6]at e
            exact absurd e (show¬(0:Int)=10 by decide)
end
end Go.Proofs.YtcmpmighjglnpaaGreat
namespace Go.Proofs.YtcmpmighjglnpaaGreat
structure Swm where
 most:Nat
 made:Nat
 inn:List Nat
 at_:Nat
 st:Option Blk13
 win:List Nat
 over:Bool
structure GoodSw (s:Swm):Prop where
 most:s.most≤131072
 made:s.made≤s.most
 at7:s.at_≤7
 inn:s.inn.length≤600
 at0:s.inn=[]→s.at_=0
 win:s.win.length=min s.made 32768
 bin:BytesP s.inn
 bwin:BytesP s.win
 over:s.over=true→s.st=none∧s.inn=[]
 st:∀k,s.st=some k→GoodK k
def begM(most:Nat):Swm:=⟨most,0,[],0,none,[],false⟩
theorem begM_good{most:Nat}(h:most≤131072):GoodSw (begM most):=
 ⟨h,Nat.zero_le _,by show 0≤7;omega,by show 0≤600;omega,fun _=>rfl,rfl,fun x hx=>(by cases hx),fun x hx=>(by cases hx),fun h=>(by cases h),fun k h=>(by cases h)⟩
def feedM(s:Swm)(b:List Nat):SwR:=fedA (lst (s.inn++b)) (s.inn++b).length s.most s.st s.win s.made [] s.at_
def nextM(s:Swm)(b:List Nat)(q:SwR):Swm:=if q.over=true then⟨s.most,q.made,[],0,none,q.win,true⟩else⟨s.most,q.made,(s.inn++b).drop (q.at_/8),q.at_%8,q.st,q.win,false⟩
def usedM(s:Swm)(b:List Nat)(q:SwR):Nat:=if q.over=true then(q.at_+7)/8-s.inn.length else b.length
theorem GoodSw.place{s:Swm}(h:GoodSw s)(b:List Nat):s.at_≤8*(s.inn++b).length:=by
 rw[List.length_append]
 have:=h.at7
 rcases Nat.eq_zero_or_pos s.inn.length with h0|h0
 ·have:=h.at0 (List.length_eq_zero_iff.1 h0);omega
 ·omega
theorem feed_kept{s:Swm}(h:GoodSw s){b:List Nat}(he:(feedM s b).err=0):Kept (lst (s.inn++b)) (s.inn++b).length s.most s.win s.made [] s.at_ (feedM s b):=
 fed_keeps _ _ _ _ _ _ (h.place b) (by omega) (by have:=h.win;omega) h.bwin h.made h.st he
theorem next_good{s:Swm}(h:GoodSw s){b:List Nat}(hb:BytesP b)(he:(feedM s b).err=0):GoodSw (nextM s b (feedM s b)):=by
 have K:=feed_kept h he
 generalize feedM s b=q at he K
 obtain⟨o,h1,h2,h3,h4⟩:=K.told
 have hw:q.win.length=min q.made 32768:=by
  rw[h3,lastN_len,List.length_append,h.win,h2];omega
 have hbw:BytesP q.win:=by rw[h3];exact lastN_mem fun x hx=>(List.mem_append.1 hx).elim (h.bwin x) (h4 x)
 unfold nextM
 cases ho:q.over with
 |true=>
  rw[if_pos rfl]
  exact⟨h.most,K.room,by show 0≤7;omega,by show 0≤600;omega,fun _=>rfl,hw,fun x hx=>(by cases hx),hbw,fun _=>⟨rfl,rfl⟩,fun k h=>(by cases h)⟩
 |false=>
  rw[if_neg (by decide)]
  have hf:=K.few ho
  have hin:=K.inn
  refine⟨h.most,K.room,by show q.at_%8≤7;omega,by show((s.inn++b).drop (q.at_/8)).length≤600;rw[List.length_drop];exact hf,fun h0=>?_,hw,fun x hx=>(List.mem_append.1 (List.mem_of_mem_drop hx)).elim (h.bin x) (hb x),hbw,fun h=>(by cases h),fun k hk=>(K.step k hk).1⟩
  show q.at_%8=0
  have h5:((s.inn++b).drop (q.at_/8)).length=0:=by
   have:(s.inn++b).drop (q.at_/8)=[]:=h0
   rw[this];rfl
  rw[List.length_drop]at h5
  omega
theorem ahead_app(a b:List Nat):Ahead (lst a) a.length (lst (a++b)) (a++b).length:=by
 refine⟨by rw[List.length_append];omega,fun j hj=>?_⟩
 unfold bitAt
 rw[lst_app]
 unfold cat
 rw[if_pos (by omega)]
theorem drop_lst(l:List Nat)(s:Nat):dropG (lst l) s=lst (l.drop s):=by
 funext j
 unfold dropG lst
 rw[List.getD_eq_getElem?_getD,List.getD_eq_getElem?_getD,List.getElem?_drop]
theorem over_past{g h:Nat→Nat}{l m most:Nat}(H:Ahead g l h m){st:Option Blk13}{win:List Nat}{made:Nat}{out:List Nat}{a:Nat}(ha:a≤8*l)(hw:win.length≤32768)(hb:BytesP win)(hm:made≤most)(hk:∀k,st=some k→GoodK k)
  (h1:st=none→(begR g l a).2.2=10) (h2:∀k,st=some k→(nextR k g l a).2.2.2=10) (he:(fedA h m most st win made out a).err=0) (ho:(fedA h m most st win made out a).over=true):8*l<(fedA h m most st win made out a).at_:=by
 have hlm:=H.le
 cases st with
 |none=>
  rw[fed_head (by omega)]at he ho⊢
  by_cases h0:(begR h m a).2.2=10
  ·rw[if_pos h0]at ho;cases ho
  ·rw[if_neg h0]at he ho⊢
   by_cases h3:(begR h m a).2.2≠0
   ·rw[if_pos h3]at he;exact absurd he h3
   ·rw[if_neg h3]at he ho⊢
    have hp:=beg_past H (h1 rfl) (by omega)
    obtain⟨b1,b2⟩:=beg_fwd (g:=h) (L:=m) (a:=a) (by omega)
    have:=(fed_keeps (g:=h) (L:=m) (most:=most) _ (some (begR h m a).1) win made out (begR h m a).2.1 b2 (Nat.lt_succ_self _) hw hb hm (fun k hk=>by injection hk with hk;rw[←hk];exact beg_goodK (by omega) (by omega)) he).le
    exact Nat.lt_of_lt_of_le hp this
 |some k=>
  rw[fed_step (by omega)]at he ho⊢
  by_cases h0:(nextR k h m a).2.2.2=10
  ·rw[if_pos h0]at ho;cases ho
  ·rw[if_neg h0]at he ho⊢
   by_cases h3:(nextR k h m a).2.2.2≠0
   ·rw[if_pos h3]at he;exact absurd he h3
   ·rw[if_neg h3]at he ho⊢
    have hp:=next_past H ha (h2 k rfl) (by omega)
    obtain⟨b1,b2,b3⟩:=next_fwd (k:=k) (g:=h) (L:=m) (a:=a) (by omega) (by omega)
    have hmy:=next_may (k:=k) (g:=h) (L:=m) (a:=a) (by omega)
    by_cases h4:(nextR k h m a).2.1=true
    ·rw[if_pos h4]at he ho⊢
     by_cases h5:k.last=true
     ·rw[if_pos h5];exact hp
     ·rw[if_neg h5]at he ho⊢
      have:=(fed_keeps (g:=h) (L:=m) (most:=most) _ none win made out (nextR k h m a).2.2.1 b2 (Nat.lt_succ_self _) hw hb hm (fun k hk=>by cases hk) he).le
      exact Nat.lt_of_lt_of_le hp this
    ·rw[if_neg h4]at he ho⊢
     obtain⟨m1,m2⟩:=hmy (by simpa using h4)
     by_cases h5:(win.length:Int)<(nextR k h m a).1.d
     ·rw[if_pos h5]at he;exact absurd he (show¬(60:Int)=0 by decide)
     ·rw[if_neg h5]at he ho⊢
      by_cases h6:most<made+lenT (nextR k h m a).1
      ·rw[if_pos h6]at he;exact absurd he (show¬(140:Int)=0 by decide)
      ·rw[if_neg h6]at he ho⊢
       have ht:=tok_bytes hb m2
       have:=(fed_keeps (g:=h) (L:=m) (most:=most) _ (some (lessK k)) _ _ _ (nextR k h m a).2.2.1 b2 (Nat.lt_succ_self _) (by unfold winI;rw[lastN_len];omega) (by unfold winI;exact lastN_mem fun x hx=>(List.mem_append.1 hx).elim (hb x) (ht x)) (by omega) (fun k' hk'=>by injection hk' with hk';rw[←hk'];exact(hk k rfl).less) he).le
       exact Nat.lt_of_lt_of_le hp this
theorem feed_two{s:Swm}(h:GoodSw s)(a b:List Nat):
  ((feedM s a).err≠0→feedM s (a++b)=feedM s a)∧((feedM s a).err=0→(feedM s a).over=true→feedM s (a++b)=feedM s a)∧
  ((feedM s a).err=0→(feedM s a).over=false→
   let y:=nextM s a (feedM s a)
   let r:=feedM y b
   let Q:=feedM s (a++b)
   Q.err=r.err∧(r.err=0→Q.st=r.st∧Q.over=r.over∧Q.win=r.win∧Q.made=r.made∧Q.out=(feedM s a).out++r.out∧nextM s (a++b) Q=nextM y b r∧usedM s (a++b) Q=a.length+usedM y b r)):=by
 have H:=ahead_app (s.inn++a) b
 rw[List.append_assoc]at H
 have ht:=fed_two (most:=s.most) H (muT (s.inn++a).length s.at_ s.st+1) s.st s.win s.made [] s.at_ (h.place a) (Nat.lt_succ_self _)
 have e1:fedR (lst (s.inn++a)) (s.inn++a).length s.most (muT (s.inn++a).length s.at_ s.st+1) s.st s.win s.made [] s.at_=feedM s a:=rfl
 have e2:fedA (lst (s.inn++(a++b))) (s.inn++(a++b)).length s.most s.st s.win s.made [] s.at_=feedM s (a++b):=rfl
 rw[e1,e2]at ht
 refine⟨fun he=>?_,fun he ho=>?_,fun he ho=>?_⟩
 ·rw[if_pos (.inl he)]at ht;exact ht
 ·rw[if_pos (.inr ho)]at ht;exact ht
 ·rw[if_neg (by rintro(h1|h1);exact h1 he;rw[ho]at h1;cases h1)]at ht
  have K:=feed_kept h he
  generalize feedM s a=q at he ho ht K
  dsimp only
  have hin:=K.inn
  obtain⟨c,hc⟩:∃c,c=q.at_/8:=⟨_,rfl⟩
  have hcl:c≤(s.inn++a).length:=by omega
  have hcl2:c≤(s.inn++(a++b)).length:=by rw[←List.append_assoc,List.length_append];omega
  have eat:q.at_=8*c+q.at_%8:=by omega
  have hy:nextM s a q=⟨s.most,q.made,(s.inn++a).drop c,q.at_%8,q.st,q.win,false⟩:=by unfold nextM;rw[ho,if_neg (by decide),hc]
  have hdr:(s.inn++(a++b)).drop c=(s.inn++a).drop c++b:=by rw[←List.append_assoc,List.drop_append_of_le_length hcl]
  have hlen:(s.inn++(a++b)).length-c=((s.inn++a).drop c++b).length:=by rw[←hdr,List.length_drop]
  rw[eat,fed_dropA hcl2,fed_outA,drop_lst,hdr,hlen]at ht
  have er:fedA (lst ((s.inn++a).drop c++b)) ((s.inn++a).drop c++b).length s.most q.st q.win q.made [] (q.at_%8)=feedM (nextM s a q) b:=by rw[hy];rfl
  rw[er]at ht
  have hov:(feedM (nextM s a q) b).err=0→(feedM (nextM s a q) b).over=true→8*((s.inn++a).drop c).length<(feedM (nextM s a q) b).at_:=by
   rw[←er]
   intro e1 e2
   obtain⟨o,k1,k2,k3,k4⟩:=K.told
   have hq8:q.at_%8≤8*((s.inn++a).drop c).length:=by rw[List.length_drop];omega
   have ebg:(begR (lst (s.inn++a)) (s.inn++a).length q.at_).2.2=(begR (lst ((s.inn++a).drop c)) ((s.inn++a).drop c).length (q.at_%8)).2.2:=by
    have:=beg_drop (g:=lst (s.inn++a)) (s:=c) (L:=(s.inn++a).length) (a:=q.at_%8) hcl
    rw[←eat,drop_lst,←List.length_drop]at this
    rw[this];rfl
   have enx:∀k,(nextR k (lst (s.inn++a)) (s.inn++a).length q.at_).2.2.2=(nextR k (lst ((s.inn++a).drop c)) ((s.inn++a).drop c).length (q.at_%8)).2.2.2:=fun k=>by
    have:=next_drop (g:=lst (s.inn++a)) (s:=c) (L:=(s.inn++a).length) (k:=k) (a:=q.at_%8) hcl
    rw[←eat,drop_lst,←List.length_drop]at this
    rw[this];rfl
   exact over_past (ahead_app ((s.inn++a).drop c) b) hq8 (by rw[k3,lastN_len];omega) (by rw[k3];exact lastN_mem fun x hx=>(List.mem_append.1 hx).elim (h.bwin x) (k4 x)) K.room (fun k hk=>(K.step k hk).1) (fun hn=>by rw[←ebg];exact K.head ho hn) (fun k hk=>by rw[←enx];exact(K.step k hk).2) e1 e2
  clear er
  generalize feedM (nextM s a q) b=r at ht hov⊢
  generalize feedM s (a++b)=Q at ht⊢
  by_cases hr:r.err=0
  ·unfold addO at ht
   rw[if_pos hr]at ht
   unfold upS at ht
   rw[if_pos hr]at ht
   subst ht
   refine⟨rfl,fun _=>⟨rfl,rfl,rfl,rfl,rfl,?_,?_⟩⟩
   ·unfold nextM
    dsimp only
    cases hro:r.over with
    |true=>rw[if_pos rfl,if_pos rfl,ho,if_neg (by decide)]
    |false=>
     rw[if_neg (by decide),if_neg (by decide),ho,if_neg (by decide)]
     dsimp only
     have d1:(8*c+r.at_)/8=c+r.at_/8:=by omega
     have d2:(8*c+r.at_)%8=r.at_%8:=by omega
     rw[d1,d2,←hc,←hdr,List.drop_drop]
   ·unfold usedM
    dsimp only
    cases hro:r.over with
    |true=>
     rw[if_pos rfl,if_pos rfl,hy]
     have hpos:=hov hr hro
     have hld:((s.inn++a).drop c).length=s.inn.length+a.length-c:=by rw[List.length_drop,List.length_append]
     have hcl':c≤s.inn.length+a.length:=by rw[←List.length_append];exact hcl
     dsimp only
     rw[hld]at hpos⊢
     omega
    |false=>rw[if_neg (by decide),if_neg (by decide),List.length_append]
  ·unfold addO at ht
   rw[if_neg hr]at ht
   unfold upS at ht
   rw[if_neg hr]at ht
   subst ht
   exact⟨rfl,fun h=>absurd h hr⟩
end Go.Proofs.YtcmpmighjglnpaaGreat
namespace Go.Proofs.YtcmpmighjglnpaaGreat
open Go.RowKit
theorem winO_one{pw out:List Nat}{x wait:Nat}(h:wait≤out.length):winO pw (out++[x]) (wait+1)=winI (winO pw out wait) [x]:=by
 unfold winO winI
 rw[lastN_two,List.length_append,List.length_singleton,show out.length+1-(wait+1)=out.length-wait by omega,List.drop_append_of_le_length (by omega),List.append_assoc]
def opN:Option Value→Nat
 |some (.bool true)=>1
 |_=>0
def goM(L:Nat)(c46 c41:Option Value):Nat:=2*(8*L-(intOf (c46.getD (.int .i64 0))).toNat)+opN c41
theorem goM_is{w:World}{h0 p L:Nat}{u:UnV}{st:Option Blk13}{g:Nat→Nat}{pw out:List Nat}(h:UnR w h0 p u st g L pw out):goM L (w.cell? ⟨p,46,none⟩) (w.cell? ⟨p,41,none⟩)=muT L u.bit st:=by
 rw[h.box.cbit,h.box.cop]
 have e:(intOf ((some (Value.int .i64 (u.bit:Int))).getD (.int .i64 0))).toNat=u.bit:=Int.toNat_natCast _
 unfold goM
 rw[e]
 have hb:=h.blk
 cases st with
 |none=>rw[hb.1];rfl
 |some k=>rw[hb.1];rfl
def GoI(w:World)(h0 p:Nat)(u0:UnV)(g:Nat→Nat)(L most:Nat)(Q:SwR)(wr:World):Prop:=
 ∃(u:UnV) (st:Option Blk13) (pw out:List Nat) (made:Nat),UnR wr h0 p u st g L pw out∧u.M=u0.M∧u.D=(made:Int)∧u.I=u0.I∧u.a=u0.a∧out.length≤made∧made≤most∧
  (u.ov=false→fedA g L most st (winO pw out u.wait) made out u.bit=Q)∧(u.ov=true→Q=⟨0,none,true,winO pw out u.wait,made,out,u.bit⟩∧st=none)∧Below h0 w wr
structure GoD (w:World) (h0 p:Nat) (u:UnV) (g:Nat→Nat) (L most:Nat) (Q:SwR) (e:Ending) (w':World):Prop where
 bad:Q.err≠0→e=.returned (.int .i64 Q.err)
 ok:Q.err=0→e=.returned (.int .i64 (if Q.over=true then 0 else 10))∧∃u' pw',UnR w' h0 p u' Q.st g L pw' Q.out∧u'.M=u.M∧u'.D=(Q.made:Int)∧u'.I=u.I∧u'.a=u.a∧u'.ov=Q.over∧u'.bit=Q.at_∧winO pw' Q.out u'.wait=Q.win∧Q.out.length≤Q.made∧Q.made≤most
 bel:Below h0 w w'
def RndD(w:World)(h0 p:Nat)(u0:UnV)(g:Nat→Nat)(L most:Nat)(Q:SwR)(mu:Nat)(e:Ending)(w':World):Prop:=
 ∃x:Int,e=.returned (.int .i64 x)∧(x≠0→GoD w h0 p u0 g L most Q (.returned (.int .i64 x)) w')∧(x=0→GoI w h0 p u0 g L most Q w'∧goM L (w'.cell? ⟨p,46,none⟩) (w'.cell? ⟨p,41,none⟩)<mu)
theorem GoD.err{w w':World}{h0 p:Nat}{u:UnV}{g:Nat→Nat}{L most:Nat}{x:Int}(hx:x≠0)(hb:Below h0 w w'):GoD w h0 p u g L most (swE x) (.returned (.int .i64 x)) w':=⟨fun _=>rfl,fun h=>absurd h hx,hb⟩
theorem GoD.wait{w w':World}{h0 p:Nat}{u u':UnV}{st:Option Blk13}{g:Nat→Nat}{L most made:Nat}{pw out:List Nat}(U:UnR w' h0 p u' st g L pw out)(eM:u'.M=u.M)(eD:u'.D=(made:Int))(eI:u'.I=u.I)(ea:u'.a=u.a)(hov:u'.ov=false)(ho:out.length≤made)(hm:made≤most)(hb:Below h0 w w'):
  GoD w h0 p u g L most ⟨0,st,false,winO pw out u'.wait,made,out,u'.bit⟩ (.returned (.int .i64 10)) w':=by
 refine GoD.mk (fun h=>absurd (Eq.refl (0:Int)) h) (fun _=>?_) hb
 dsimp only
 exact⟨by rw[if_neg (by decide)],u',pw,U,eM,eD,eI,ea,hov,rfl,rfl,ho,hm⟩
theorem GoD.over{w w':World}{h0 p:Nat}{u u':UnV}{g:Nat→Nat}{L most made:Nat}{pw out:List Nat}(U:UnR w' h0 p u' none g L pw out)(eM:u'.M=u.M)(eD:u'.D=(made:Int))(eI:u'.I=u.I)(ea:u'.a=u.a)(hov:u'.ov=true)(ho:out.length≤made)(hm:made≤most)(hb:Below h0 w w'):
  GoD w h0 p u g L most ⟨0,none,true,winO pw out u'.wait,made,out,u'.bit⟩ (.returned (.int .i64 0)) w':=by
 refine GoD.mk (fun h=>absurd (Eq.refl (0:Int)) h) (fun _=>?_) hb
 dsimp only
 exact⟨by rw[if_pos rfl],u',pw,U,eM,eD,eI,ea,hov,rfl,rfl,ho,hm⟩
section
variable {w wr:World} {h0 p L most made:Nat} {u0 u:UnV} {g:Nat→Nat} {pw out:List Nat} {Q:SwR}
theorem rnd_head(h:UnR wr h0 p u none g L pw out)(eM:u.M=u0.M)(eD:u.D=(made:Int))(eI:u.I=u0.I)(ea:u.a=u0.a)(ho:out.length≤made)(hm:made≤most)(hov:u.ov=false)(hQ:fedA g L most none (winO pw out u.wait) made out u.bit=Q)(hb:Below h0 w wr)
  {e:Ending} {w':World} (H:HdD wr h0 p u g L pw out e w'):RndD w h0 p u0 g L most Q (muT L u.bit none) e w':=by
 rw[fed_head h.bit]at hQ
 by_cases h0':(begR g L u.bit).2.2=10
 ·obtain⟨e1,U⟩:=H.bad (by omega)
  rw[if_pos h0']at hQ
  rw[h0']at e1
  subst hQ
  refine⟨10,e1,fun _=>GoD.wait U eM eD eI ea hov ho hm (hb.trans H.bel),fun h=>absurd h (by decide)⟩
 ·rw[if_neg h0']at hQ
  by_cases h1:(begR g L u.bit).2.2≠0
  ·rw[if_pos h1]at hQ
   subst hQ
   obtain⟨e1,_⟩:=H.bad h1
   exact⟨_,e1,fun hx=>GoD.err hx (hb.trans H.bel),fun h=>absurd h h1⟩
  ·rw[if_neg h1]at hQ
   have hz:(begR g L u.bit).2.2=0:=by omega
   obtain⟨e1,u',U,y1,y2,y3,y4,y5,y6,y7⟩:=H.ok hz
   obtain⟨b1,b2⟩:=beg_fwd hz
   refine⟨0,e1,fun h=>absurd rfl h,fun _=>⟨⟨u',_,pw,out,made,U,y1.trans eM,y2.trans eD,y3.trans eI,y4.trans ea,ho,hm,fun _=>by rw[y6,y7];exact hQ,fun h=>(by rw[y5,hov]at h;cases h),hb.trans H.bel⟩,?_⟩⟩
   rw[goM_is U,y6]
   simp only[muT];omega
theorem rnd_step{k:Blk13}(h:UnR wr h0 p u (some k) g L pw out)(eM:u.M=u0.M)(eMm:u0.M=(most:Int))(eD:u.D=(made:Int))(eI:u.I=u0.I)(ea:u.a=u0.a)(ho:out.length≤made)(hm:made≤most)(hov:u.ov=false)(hQ:fedA g L most (some k) (winO pw out u.wait) made out u.bit=Q)(hb:Below h0 w wr)
  {e:Ending} {w':World} (H:StpD wr h0 p u k g L pw out (nextR k g L u.bit) e w'):RndD w h0 p u0 g L most Q (muT L u.bit (some k)) e w':=by
 rw[fed_step h.bit]at hQ
 have hfw:=next_fwd (k:=k) (g:=g) (L:=L) (a:=u.bit) h.bit
 have hmy:=next_may (k:=k) (g:=g) (L:=L) (a:=u.bit)
 have hlit:=next_lit (k:=k) (g:=g) (L:=L) (a:=u.bit)
 have hgk:GoodK k:=h.blk.2.1
 generalize nextR k g L u.bit=R at hQ H hfw hmy hlit
 obtain⟨t,en,pl,er⟩:=R
 dsimp only at hQ hfw hmy hlit
 by_cases h0':er=10
 ·obtain⟨e1,U⟩:=H.bad (by show er≠0;omega)
  rw[if_pos h0']at hQ
  have e1':e=.returned (.int .i64 er):=e1
  rw[h0']at e1'
  subst hQ
  exact⟨10,e1',fun _=>GoD.wait U eM eD eI ea hov ho hm (hb.trans H.bel),fun h=>absurd h (by decide)⟩
 ·rw[if_neg h0']at hQ
  by_cases h1:er≠0
  ·rw[if_pos h1]at hQ
   subst hQ
   obtain⟨e1,_⟩:=H.bad h1
   exact⟨_,e1,fun hx=>GoD.err hx (hb.trans H.bel),fun h=>absurd h h1⟩
  ·rw[if_neg h1]at hQ
   have hz:er=0:=by omega
   obtain⟨b1,b2,b3⟩:=hfw hz
   by_cases h2:en=true
   ·rw[if_pos h2]at hQ
    obtain⟨e1,u',U,y1,y2,y3,y4,y5,y6,y7⟩:=H.fin hz h2
    have y6':u'.bit=pl:=y6
    refine⟨0,e1,fun h=>absurd rfl h,fun _=>⟨⟨u',none,pw,out,made,U,y1.trans eM,y2.trans eD,y3.trans eI,y4.trans ea,ho,hm,fun h=>?_,fun h=>?_,hb.trans H.bel⟩,?_⟩⟩
    ·rw[y5]at h
     rw[if_neg (by rw[h];decide)]at hQ
     rw[y6',y7];exact hQ
    ·rw[y5]at h
     rw[if_pos h]at hQ
     rw[y6',y7];exact⟨hQ.symm,rfl⟩
    ·rw[goM_is U,y6']
     simp only[muT];omega
   ·have h2':en=false:=by simpa using h2
    rw[if_neg h2]at hQ
    obtain⟨m1,m2⟩:=hmy hz h2'
    have b4:=b3 h2'
    by_cases hn:t.n=0
    ·have hd:t.d=0:=by rcases mayT_is m1 with⟨_,h⟩|⟨h,_⟩;exact h;exact absurd hn h
     have eB:∀win,tokB win t=[t.x]:=fun win=>by unfold tokB;rw[if_pos hn]
     have eL:lenT t=1:=by unfold lenT;rw[if_pos hn]
     rw[if_neg (by rw[hd];omega),eL,eB]at hQ
     by_cases h3:most<made+1
     ·rw[if_pos h3]at hQ
      subst hQ
      have e1:=H.lit0 hz h2' hn (by omega)
      exact⟨140,e1,fun hx=>GoD.err hx (hb.trans H.bel),fun h=>absurd h (by decide)⟩
     ·rw[if_neg h3]at hQ
      obtain⟨e1,u',U,y1,y2,y3,y4,y5,y6,y7⟩:=H.lit1 hz h2' hn (by omega)
      have y6':u'.bit=pl:=y6
      refine⟨0,e1,fun h=>absurd rfl h,fun _=>⟨⟨u',some (lessK k),pw,out++[t.x],made+1,U,y1.trans eM,by omega,y3.trans eI,y4.trans ea,by rw[List.length_append,List.length_singleton];omega,by omega,fun _=>?_,fun h=>(by rw[y5,hov]at h;cases h),hb.trans H.bel⟩,?_⟩⟩
      ·rw[y6',y7,winO_one h.wait];exact hQ
      ·rw[goM_is U,y6']
       simp only[muT];omega
    ·have hk0:k.kind≠0:=fun h=>hn (hlit h)
     have ek:lessK k=k:=lessK_0 (hgk.code hk0).1
     obtain⟨_,_,n1,n2,n3,n4⟩:t.n≠0∧t.x=0∧3≤t.n∧t.n≤258∧1≤t.d∧t.d≤32768:=by rcases mayT_is m1 with⟨h1,_⟩|h1;exact absurd h1 hn;exact h1
     have eB:∀win,tokB win t=copL win t.d.toNat t.n.toNat:=fun win=>by unfold tokB;rw[if_neg hn]
     have eL:lenT t=t.n.toNat:=by unfold lenT;rw[if_neg hn]
     rw[eL,eB,ek]at hQ
     obtain⟨c1,c2,c3⟩:=H.cop hz h2' hn
     by_cases h3:((winO pw out u.wait).length:Int)<t.d
     ·rw[if_pos h3]at hQ
      subst hQ
      exact⟨60,c1 h3,fun hx=>GoD.err hx (hb.trans H.bel),fun h=>absurd h (by decide)⟩
     ·rw[if_neg h3]at hQ
      by_cases h4:most<made+t.n.toNat
      ·rw[if_pos h4]at hQ
       subst hQ
       exact⟨140,c2 h3 (by show u.M<u.D+t.n;omega),fun hx=>GoD.err hx (hb.trans H.bel),fun h=>absurd h (by decide)⟩
      ·rw[if_neg h4]at hQ
       obtain⟨e1,u',U,y1,y2,y3,y4,y5,y6,y7⟩:=c3 h3 (by show¬u.M<u.D+t.n;omega)
       have y6':u'.bit=pl:=y6
       have y2':u'.D=u.D+t.n:=y2
       refine⟨0,e1,fun h=>absurd rfl h,fun _=>⟨⟨u',some k,winI (winO pw out u.wait) (copL (winO pw out u.wait) t.d.toNat t.n.toNat),out++copL (winO pw out u.wait) t.d.toNat t.n.toNat,made+t.n.toNat,U,y1.trans eM,by rw[y2',eD];clear H c1 c2 c3 y1 y2 y3 y4 y5 y6 y7 U hQ hlit hmy;omega,y3.trans eI,y4.trans ea,by rw[List.length_append,copL_len];omega,by clear H c1 c2 c3 y1 y2 y3 y4 y5 y6 y7 U hQ hlit hmy;omega,fun _=>?_,fun h=>(by rw[y5,hov]at h;cases h),hb.trans H.bel⟩,?_⟩⟩
       ·rw[y6',y7,winO_0 U.lpw];exact hQ
       ·rw[goM_is U,y6']
        simp only[muT];omega
end
theorem ugo_any(w:World)(h0 p:Nat)(u:UnV)(st:Option Blk13)(g:Nat→Nat)(L most made:Nat)(pw out:List Nat)(h:UnR w h0 p u st g L pw out)(eM:u.M=(most:Int))(eD:u.D=(made:Int))(hm:made≤most)(hmm:most≤131072)(ho:out.length≤made)(hov:u.ov=false)(Q:SwR)(hQ:fedA g L most st (winO pw out u.wait) made out u.bit=Q):
  Calls Tryz.prog 23 #[.pointer (some ⟨p,0,none⟩)] w fun e w'=>GoD w h0 p u g L most Q e w':=by
 have hI:GoI w h0 p u g L most Q w:=⟨u,st,pw,out,made,h,rfl,eD,rfl,rfl,ho,hm,fun _=>hQ,fun h=>(by rw[hov]at h;cases h),Below.refl _ _⟩
 have HI:=Lib.hid hI;have HM:=Lib.hid eM;have HMM:=Lib.hid hmm
 clear h eM eD hm hmm ho hov hQ hI
 go_enter Tryz.func23,Tryz.ntmps23
 go_wp2
 go_loopw [] (fun wr=>Hid (GoI w h0 p u g L most Q wr)) (fun wr=>goM L (wr.cell? ⟨p,46,none⟩) (wr.cell? ⟨p,41,none⟩))
 case atStart=>exact HI
 case round=>
  clear HI
  obtain⟨x,st,pw,out,made,hx,eM,eD,eI,ea,ho,hm,hQ1,hQ2,hb⟩:=hrel.out
  have c44:=hx.box.cov
  by_cases hov:x.ov=true
  ·rw[hov]at c44
   obtain⟨hq,hst⟩:=hQ2 hov
   have HF:Hid (GoD w h0 p u g L most Q (.returned (.int .i64 0)) wr):=Lib.hid (by
    subst hst
    rw[hq]
    exact GoD.over hx eM eD eI ea hov ho hm hb)
   clear hx eM eD eI ea ho hm hQ1 hQ2 hb hov hq hst hrel
   go_wp2
   go_ret
   exact HF.out
  ·have hov':x.ov=false:=by simpa using hov
   rw[hov']at c44
   have hQ:=hQ1 hov'
   have c41:=hx.box.cop
   have hmu:=goM_is hx
   cases st with
   |none=>
    have hop:x.op=false:=hx.blk.1
    rw[hop]at c41
    have HC:Hid (Calls Tryz.prog 38 #[.pointer (some ⟨p,0,none⟩)] wr fun e w'=>RndD w h0 p u g L most Q (muT L x.bit none) e w'):=Lib.hid ((uhead_any wr h0 p x g L pw out hx).mono fun e w' H=>rnd_head hx eM eD eI ea ho hm hov' hQ hb H)
    have HMU:=Lib.hid hmu
    clear hx eM eD eI ea ho hm hQ1 hQ2 hb hov hov' hQ hrel hmu hop
    go_wp2_with fail
    refine HC.out.mono ?_
    rintro e w2 ⟨z,rfl,r1,r2⟩
    by_cases hz:z=0
    ·obtain⟨i1,i2⟩:=r2 hz
     have I1:=Lib.hid i1
     have I2:Hid (goM L (w2.cell? ⟨p,46,none⟩) (w2.cell? ⟨p,41,none⟩)<goM L (wr.cell? ⟨p,46,none⟩) (wr.cell? ⟨p,41,none⟩)):=Lib.hid (by rw[HMU.out];exact i2)
     subst hz
     clear r1 r2 i1 i2
     go_wp2
     go_roundw
     case rel=>exact I1
     case measure=>exact I2.out
    ·have d0:(z==0)=false:=beq_eq_false_iff_ne.2 hz
     have d1:(z !=0)=true:=by simp[bne,d0]
     have R1:=Lib.hid (r1 hz)
     clear r1 r2 hz
     go_wp2
     go_ret
     exact R1.out
   |some k=>
    have hop:x.op=true:=hx.blk.1
    rw[hop]at c41
    have hkd:x.kd<256:=by obtain⟨_,_,s1,s2,h1,_⟩:=hx.blk;rcases h1 with⟨h,_⟩|⟨h,_⟩<;>omega
    have HC:Hid (Calls Tryz.prog 39 #[.pointer (some ⟨p,0,none⟩)] wr fun e w'=>RndD w h0 p u g L most Q (muT L x.bit (some k)) e w'):=Lib.hid ((ustep_any wr h0 p x k g L pw out hx (by have:=HMM.out;omega) (by rw[eM,HM.out];have:=HMM.out;omega) (by omega) (by rw[eM,HM.out];omega) hkd).mono fun e w' H=>rnd_step hx eM HM.out eD eI ea ho hm hov' hQ hb H)
    have HMU:=Lib.hid hmu
    clear hx eM eD eI ea ho hm hQ1 hQ2 hb hov hov' hQ hrel hmu hop hkd
    go_wp2_with fail
    refine HC.out.mono ?_
    rintro e w2 ⟨z,rfl,r1,r2⟩
    by_cases hz:z=0
    ·obtain⟨i1,i2⟩:=r2 hz
     have I1:=Lib.hid i1
     have I2:Hid (goM L (w2.cell? ⟨p,46,none⟩) (w2.cell? ⟨p,41,none⟩)<goM L (wr.cell? ⟨p,46,none⟩) (wr.cell? ⟨p,41,none⟩)):=Lib.hid (by rw[HMU.out];exact i2)
     subst hz
     clear r1 r2 i1 i2
     go_wp2
     go_roundw
     case rel=>exact I1
     case measure=>exact I2.out
    ·have d0:(z==0)=false:=beq_eq_false_iff_ne.2 hz
     have d1:(z !=0)=true:=by simp[bne,d0]
     have R1:=Lib.hid (r1 hz)
     clear r1 r2 hz
     go_wp2
     go_ret
     exact R1.out
end Go.Proofs.YtcmpmighjglnpaaGreat
namespace Go.Proofs.YtcmpmighjglnpaaGreat
open Go.RowKit
theorem fed_10{g:Nat→Nat}{L most:Nat}:∀f st win made out a,(fedR g L most f st win made out a).err≠10
 |0,_,_,_,_,_=>by unfold fedR;exact(by decide:¬(0:Int)=10)
 |f+1,none,win,made,out,a=>by
  rw[fed_n]
  by_cases h0:(begR g L a).2.2=10
  ·rw[if_pos h0];exact(by decide:¬(0:Int)=10)
  ·rw[if_neg h0]
   by_cases h1:(begR g L a).2.2≠0
   ·rw[if_pos h1];exact h0
   ·rw[if_neg h1];exact fed_10 f _ _ _ _ _
 |f+1,some k,win,made,out,a=>by
  rw[fed_s]
  by_cases h0:(nextR k g L a).2.2.2=10
  ·rw[if_pos h0];exact(by decide:¬(0:Int)=10)
  ·rw[if_neg h0]
   by_cases h1:(nextR k g L a).2.2.2≠0
   ·rw[if_pos h1];exact h0
   ·rw[if_neg h1]
    split
    ·split
     ·exact(by decide:¬(0:Int)=10)
     ·exact fed_10 f _ _ _ _ _
    ·split
     ·exact(by decide:¬(60:Int)=10)
     ·split
      ·exact(by decide:¬(140:Int)=10)
      ·exact fed_10 f _ _ _ _ _
theorem feed_10(s:Swm)(b:List Nat):(feedM s b).err≠10:=fed_10 _ _ _ _ _ _
def swmOf(u:UnV)(inn win:List Nat)(st:Option Blk13):Swm:=⟨u.M.toNat,u.D.toNat,inn,u.a.toNat,st,win,u.ov⟩
theorem may_good{u:UnV}{inn win:List Nat}{s1 s2:List Int}{r:Bool}{st:Option Blk13}(h:mayW u inn.length win.length s1 s2 r=true)(hs:BlkC u s1 s2 st)(bi:BytesP inn)(bw:BytesP win):
  GoodSw (swmOf u inn win st)∧u.M=((swmOf u inn win st).most:Int)∧u.D=((swmOf u inn win st).made:Int)∧u.a=((swmOf u inn win st).at_:Int)∧u.S=32768:=by
 unfold mayW at h
 simp only[Bool.and_eq_true]at h
 obtain⟨⟨⟨⟨h1,h2⟩,h3⟩,h4⟩,h5⟩:=h
 have h1:=of_decide_eq_true h1
 have h2:=of_decide_eq_true h2
 have h3:=of_decide_eq_true h3
 obtain⟨m0,m1,d0,d1⟩:=h1
 obtain⟨w1,w2,w3⟩:=h3
 have ha:0≤u.a∧u.a≤7∧inn.length≤600∧(inn.length=0→u.a=0):=by
  by_cases h0:inn.length=0
  ·rw[if_pos h0]at h2;exact⟨by omega,by omega,by omega,fun _=>h2⟩
  ·rw[if_neg h0]at h2;exact⟨h2.2.1,h2.2.2,h2.1,fun h=>absurd h h0⟩
 obtain⟨a1,a2,a3,a4⟩:=ha
 refine⟨⟨by show u.M.toNat≤131072;omega,by show u.D.toNat≤u.M.toNat;omega,by show u.a.toNat≤7;omega,a3,fun h=>?_,by show win.length=min u.D.toNat 32768;omega,bi,bw,fun h=>?_,fun k hk=>?_⟩,?_,?_,?_,w1⟩
 ·show u.a.toNat=0
  have hi:inn=[]:=h
  have:=a4 (by rw[hi];rfl)
  omega
 ·have ho:u.ov=true:=h
  rw[ho]at h5
  have h6:u.op=false∧inn.length=0:=by
   cases hop:u.op with
   |true=>rw[hop]at h5;simp at h5
   |false=>rw[hop]at h5;simp at h5;exact⟨rfl,by simp[h5]⟩
  refine⟨?_,List.length_eq_zero_iff.1 h6.2⟩
  show st=none
  cases st with
  |none=>rfl
  |some k=>have:=hs.1;rw[h6.1]at this;cases this
 ·have hk':st=some k:=hk
  subst hk'
  exact hs.2.1
 ·show u.M=((u.M.toNat:Nat):Int);omega
 ·show u.D=((u.D.toNat:Nat):Int);omega
 ·show u.a=((u.a.toNat:Nat):Int);omega
def feE(may ov:Bool)(l:Nat):Int:=if may=false then 8 else if ov=true then 6 else if 131072<l then 4 else 0
theorem umay_any(w:World)(u:UnV)(inn win:List Nat)(s1 s2:List Int)(h:SwI w u inn win s1 s2)(r:Bool)(hr:r=true↔MayI u.kd u.left u.c1 s1 u.c2 s2)(Al:Option Addr)(l c:Nat):Calls Tryz.prog 21 #[.agg (swA u.sw),.slice Al l c] w fun e w'=>e=.returned (.int .i64 (feE (mayW u inn.length win.length s1 s2 r) u.ov l))∧Below w.heap.size w w':=by
 obtain⟨sb,hsb⟩:∃b,b=w.heap.size:=⟨_,rfl⟩
 obtain⟨X,hX⟩:∃X,X=swA u.sw:=⟨_,rfl⟩
 obtain⟨W1,hW1⟩:∃W,W=w.alloc (.cells X 32):=⟨_,rfl⟩
 have hb1:Below w.heap.size w W1:=by rw[hW1];exact(Below.refl _ _).alloc (Nat.le_refl _) _
 have x1:BoxC W1 sb X 32:=by rw[hW1,hsb];exact BoxC.new w _ _
 have hc:=ucheck14_any W1 u inn win s1 s2 (h.on hb1) r hr
 obtain⟨m,hm⟩:∃m,m=mayW u inn.length win.length s1 s2 r:=⟨_,rfl⟩
 obtain⟨ov,hov⟩:∃o,o=u.ov:=⟨_,rfl⟩
 rw[←hm,←hX]at hc
 rw[←hm,←hX,←hov]
 have K:Hid (∀V,Below W1.heap.size W1 V→V.cell? ⟨sb,44,none⟩=some (.bool ov)):=Lib.hid fun V hV=>by
  obtain⟨_,_,_,_,_,_,_,q44⟩:=sw_x hX (x1.below hV x1.lt)
  rw[hov];exact q44
 have HC:=Lib.hid hc;have HX1:=Lib.hid x1;have HXS:Hid (X.size=45):=Lib.hid (by rw[hX];exact swA_size (blkL_len ..))
 have HB1:=Lib.hid hb1;have HW1:=Lib.hid hW1;have HSB:=Lib.hid hsb
 clear h hr hc x1 hX hW1 hsb hb1 hm hov
 go_enter Tryz.func21,Tryz.ntmps21
 go_wp2_with (first
  |(rw[←HW1.out,←HSB.out])
  |(refine wpList_load_row rfl _ _ rfl sb rfl _ X (0,0) _ HX1.out Tryz.underlying32 rfl (szSwl _ HXS.out) ?_)
  |fail)
 refine HC.out.mono ?_
 rintro e w2 ⟨rfl,hb2⟩
 have c44:=K.out w2 hb2
 have HB2:=Lib.hid (HB1.out.trans (hb2.mono HB1.out.size))
 clear hb2
 cases m
 ·rw[show chkE false=8 from rfl]
  go_wp2
  go_ret
  exact⟨rfl,HB2.out⟩
 ·rw[show chkE true=0 from rfl]
  cases ov
  ·by_cases hl:131072<l
   ·have hli:(131072:Int)<(l:Int):=by omega
    have HE:Hid (feE true false l=4):=Lib.hid (by unfold feE;rw[if_neg (by decide),if_neg (by decide),if_pos hl])
    clear hl
    go_wp2
    go_ret
    exact⟨by rw[HE.out];rfl,HB2.out⟩
   ·have hli:¬(131072:Int)<(l:Int):=by omega
    have HE:Hid (feE true false l=0):=Lib.hid (by unfold feE;rw[if_neg (by decide),if_neg (by decide),if_neg hl])
    clear hl
    go_wp2
    go_ret
    exact⟨by rw[HE.out];rfl,HB2.out⟩
  ·go_wp2
   go_ret
   exact⟨rfl,HB2.out⟩
structure SwO (w:World) (base:Nat) (u:UnV) (s:Swm):Prop where
 M:u.M=(s.most:Int)
 D:u.D=(s.made:Int)
 a:u.a=(s.at_:Int)
 S:u.S=32768
 ov:u.ov=s.over
 I:OwnB w base u.I s.inn.length (lst s.inn)
 W:∃A c,u.W=.slice A s.win.length c∧ByR w w.heap.size A s.win.length c (lst s.win)∧NewB w base A s.win.length
 blk:BlkT w base u s.st
structure FeeD (w:World) (E:Int) (s:Swm) (b:List Nat) (e:Ending) (w':World):Prop where
 bad:E≠0→e=.returned (.tuple #[.agg (swA swZ),.slice none 0 0,.int .i64 0,.int .i64 E])
 ok:E=0→∃u At ct,e=.returned (.tuple #[.agg (swA u.sw),.slice At (feedM s b).out.length ct,.int .i64 (usedM s b (feedM s b):Int),.int .i64 0])∧SwO w' w.heap.size u (nextM s b (feedM s b))∧w'.ownsRow w.heap.size 5 1 (.slice At (feedM s b).out.length ct) (feedM s b).out.length (bytesL (feedM s b).out.length (lst (feedM s b).out))∧BytesP (feedM s b).out
 bel:Below w.heap.size w w'
def feedE(u:UnV)(inn win:List Nat)(s1 s2:List Int)(r:Bool)(st:Option Blk13)(b:List Nat):Int:=if feE (mayW u inn.length win.length s1 s2 r) u.ov b.length≠0 then feE (mayW u inn.length win.length s1 s2 r) u.ov b.length else(feedM (swmOf u inn win st) b).err
theorem OwnS.frR{w w':World}{h0 base rb:Nat}{v:Value}{sy:List Int}(h:OwnS w h0 v sy)(f:Fr (At rb) w w')(hr:rb<h0)(hb:base≤h0):OwnS w' base v sy:=
 (h.frA f fun j hj hv=>by
  have e:j=rb:=hj
  have:=(own_blk_lt h j hv).1
  omega).lower hb
theorem BlkT.frR{w w':World}{h0 base rb:Nat}{u:UnV}{k:Option Blk13}(h:BlkT w h0 u k)(f:Fr (At rb) w w')(hr:rb<h0)(hb:base≤h0):BlkT w' base u k:=by
 cases k with
 |none=>obtain⟨h1,h2,h3,h4,h5,h6,h7,h8⟩:=h;exact⟨h1,h2,h3,h4,h5,h6,h7.frR f hr hb,h8.frR f hr hb⟩
 |some k=>obtain⟨h1,h2,s1,s2,h3,h4,h5,h6,h7⟩:=h;exact⟨h1,h2,s1,s2,h3,h4,h5.frR f hr hb,h6.frR f hr hb,h7⟩
theorem own8_frR{w w':World}{h0 base rb n:Nat}{v:Value}{xs:List Value}(h:w.ownsRow h0 5 1 v n xs)(f:Fr (At rb) w w')(hr:rb<h0)(hb:base≤h0):w'.ownsRow base 5 1 v n xs:=
 ownsRow_lower (own_blk h fun j hj=>f.block j (own_blk_lt h j hj).2 fun e=>by
  have e':j=rb:=e
  have:=(own_blk_lt h j hj).1
  omega) hb
theorem SwO.of{w w':World}{h0 base rb p L:Nat}{u:UnV}{s:Swm}{b out:List Nat}{Q:SwR}{PW:List Nat}(U:UnR w h0 p u Q.st (lst (s.inn++b)) L PW out)(eP:PW=Q.win)(eL:L=(s.inn++b).length)(hM:u.M=(s.most:Int))(hD:u.D=(Q.made:Int))(hov:u.ov=Q.over)(hst:Q.over=true→Q.st=none)
  (h1:Q.over=true→u.I=.slice none 0 0∧u.a=0) (h2:Q.over=false→OwnB w h0 u.I (L-Q.at_/8) (dropG (lst (s.inn++b)) (Q.at_/8))∧u.a=((Q.at_%8:Nat):Int)) {A:Option Addr} {c:Nat} (eW:u.W=.slice A PW.length c) (hN:NewB w h0 A PW.length)
  (f:Fr (At rb) w w') (hr:rb<h0) (hb:base≤h0):SwO w' base u (nextM s b Q):=by
 subst eP
 have hW:ByR w' w'.heap.size A Q.win.length c (lst Q.win):=by
  obtain⟨A',c',e',hB⟩:=U.win
  rw[eW]at e'
  injection e' with e1 _ e2
  subst e1;subst e2
  have q:ByF (At rb) w A Q.win.length c (lst Q.win):=⟨⟨hB.r.1,fun bl o h9 e hs=>by
   obtain⟨g',o',cur,y1,y2,y3⟩:=hN h9
   rw[e]at y1;injection y1 with y1;injection y1 with y1
   have hs':bl=rb:=hs
   omega⟩,hB.r.2⟩
  exact(q.go f fun j hj=>.inl hj).r
 have hN':NewB w' base A Q.win.length:=fun h9=>by
  obtain⟨g',o',cur,y1,y2,y3⟩:=hN h9
  exact⟨g',o',cur,y1,by omega,(f.block g' (Array.getElem?_eq_some_iff.1 y3).1 fun e=>by have e':g'=rb:=e;omega).trans y3⟩
 have hB:=U.blk.frR f hr hb
 unfold nextM
 cases ho:Q.over with
 |true=>
  rw[if_pos rfl]
  obtain⟨i1,i2⟩:=h1 ho
  rw[hst ho]at hB
  exact⟨hM,hD,i2,U.S,hov.trans ho,by rw[i1];exact⟨none,0,rfl,World.ownsRow_nil _ _ _ _⟩,⟨A,c,eW,hW,hN'⟩,hB⟩
 |false=>
  rw[if_neg (by decide)]
  obtain⟨⟨Ai,ci,i1,i3⟩,i2⟩:=h2 ho
  refine⟨hM,hD,i2,U.S,hov.trans ho,?_,⟨A,c,eW,hW,hN'⟩,hB⟩
  have el:((s.inn++b).drop (Q.at_/8)).length=L-Q.at_/8:=by rw[List.length_drop,eL]
  have o:=own8_frR i3 f hr hb
  refine⟨Ai,ci,by rw[i1,el],?_⟩
  show w'.ownsRow base 5 1 u.I ((s.inn++b).drop (Q.at_/8)).length (bytesL ((s.inn++b).drop (Q.at_/8)).length (lst ((s.inn++b).drop (Q.at_/8))))
  rw[el,←drop_lst];exact o
theorem OwnB.one{w:World}{B:Nat}{v:Value}{l:Nat}{f:Nat→Nat}(h:OwnB w B v l f):v.oneCell'=true:=by obtain⟨A,c,e,_⟩:=h;rw[e];rfl
theorem BlkT.one{w:World}{h0:Nat}{u:UnV}{k:Option Blk13}(h:BlkT w h0 u k):∀v∈u.blk,v.oneCell'=true:=by
 cases k with
 |none=>obtain⟨_,_,_,_,_,_,h7,h8⟩:=h;exact blkL_one h7.rd.one h8.rd.one
 |some k=>obtain⟨_,_,s1,s2,_,_,h5,h6,_⟩:=h;exact blkL_one h5.rd.one h6.rd.one
theorem cell_swl4{fn:Func}{p a b c:Tmp}(h:fn.results=#[.cell p 32,.tmp a,.tmp b,.tmp c])(tmps:Array Value)(w:World)(g:Nat)(cs:Array Value)(hs:cs.size=45)(hp:tmps.getD p undef=.pointer (some ⟨g,0,none⟩))(ht:w.heap[g]?=some (.cells cs 32 (0,0))):
  (results fn tmps).run Tryz.prog w=.ok (.tuple #[.agg cs,tmps.getD a undef,tmps.getD b undef,tmps.getD c undef]) w:=by
 have hp':tmps[p]?.getD undef=.pointer (some ⟨g,0,none⟩):=by simpa using hp
 have hl:=run_loadVar_row (P:=Tryz.prog) w g 32 32 cs (0,0) _ ht Tryz.underlying32 rfl (szSwl cs hs)
 simp[results,h,hp',asAddr,hl]
end Go.Proofs.YtcmpmighjglnpaaGreat
namespace Go.Proofs.YtcmpmighjglnpaaGreat
open Go.RowKit
theorem sameK_zero:sameK 0 0 false false 0 0 (fun _=>0) (fun _=>0) [] [] (fun _=>0) (fun _=>0) [] []=true:=by decide+kernel
theorem mayI_zero:MayI 0 0 (fun _=>0) [] (fun _=>0) []:=.inl ⟨rfl,by omega,by omega,by decide+kernel,by decide+kernel⟩
theorem SwO.into{w:World}{base:Nat}{u:UnV}{s:Swm}(h:SwO w base u s)(g:GoodSw s):∃s1 s2,SwI w u s.inn s.win s1 s2∧BlkC u s1 s2 s.st∧swmOf u s.inn s.win s.st=s∧MayI u.kd u.left u.c1 s1 u.c2 s2∧mayW u s.inn.length s.win.length s1 s2 true=true:=by
 obtain⟨Ai,ci,i1,i2⟩:=h.I
 obtain⟨Aw,cw,w1,w2,_⟩:=h.W
 have hM:=h.M;have hD:=h.D;have ha:=h.a;have hS:=h.S;have hov:=h.ov
 have g1:=g.most;have g2:=g.made;have g3:=g.at7;have g4:=g.inn;have g5:=g.at0;have g6:=g.win
 have hsm:swmOf u s.inn s.win s.st=s:=by
  unfold swmOf
  rw[hM,hD,ha,hov,Int.toNat_natCast,Int.toNat_natCast,Int.toNat_natCast]
 rw[i1]at i2
 have hI:ByR w w.heap.size Ai s.inn.length ci (lst s.inn):=ByR.of_own i2 (lst_lt g.bin)
 have hcnt:cntW u=true:=decide_eq_true ⟨by omega,by omega,by omega,by omega⟩
 have hwtg:wtgW u s.inn.length=true:=decide_eq_true (by
  by_cases h0:s.inn.length=0
  ·rw[if_pos h0];have:=g5 (List.length_eq_zero_iff.1 h0);omega
  ·rw[if_neg h0];omega)
 have hkpt:kptW u s.win.length=true:=decide_eq_true ⟨hS,by omega,by omega⟩
 have hb:=h.blk
 cases hst:s.st with
 |none=>
  rw[hst]at hb hsm
  obtain⟨b1,b2,b3,b4,b5,b6,b7,b8⟩:=hb
  refine⟨[],[],⟨⟨Ai,ci,i1,hI⟩,⟨Aw,cw,w1,w2⟩,b7.rd,b8.rd,by decide,by decide,by omega,by omega,by rw[b2];decide,⟨by omega,by omega⟩,⟨by omega,by omega⟩,⟨by omega,by omega⟩,⟨by omega,by omega⟩⟩,⟨b1,b2,b3,b4,b5,b6,rfl,rfl⟩,hsm,by rw[b2,b4,b5,b6];exact mayI_zero,?_⟩
  unfold mayW opnW
  rw[hcnt,hwtg,hkpt,if_neg (by rw[b1];decide),b1,b2,b3,b4,b5,b6,sameK_zero,hov]
  cases ho:s.over with
  |false=>rfl
  |true=>rw[(g.over ho).2];rfl
 |some k=>
  rw[hst]at hb hsm
  obtain⟨b1,b2,s1,s2,b3,b4,b5,b6,b7,b8⟩:=hb
  refine⟨s1,s2,⟨⟨Ai,ci,i1,hI⟩,⟨Aw,cw,w1,w2⟩,b5.rd,b6.rd,b7,b8,by omega,by omega,by rcases b3 with⟨q,_⟩|⟨q,_⟩<;>omega,⟨by omega,by omega⟩,⟨by omega,by omega⟩,⟨by omega,by omega⟩,⟨by omega,by omega⟩⟩,⟨b1,b2,b3,b4⟩,hsm,b3,?_⟩
  unfold mayW opnW
  rw[hcnt,hwtg,hkpt,if_pos b1,hov]
  cases ho:s.over with
  |false=>rfl
  |true=>have:=(g.over ho).1;rw[hst]at this;cases this
end Go.Proofs.YtcmpmighjglnpaaGreat
