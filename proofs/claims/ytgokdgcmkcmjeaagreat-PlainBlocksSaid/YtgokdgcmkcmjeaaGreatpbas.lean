/-
  Words and walks.
-/
import Derived.BigRegion
import Derived.Deep.RegionLaw
import Derived.Test.YtgokdgcmkcmjeaaGreatpbaa
import Derived.Test.YtgokdgcmkcmjeaaGreatpbab
import Derived.Test.YtgokdgcmkcmjeaaGreatpbad
import Derived.Test.YtgokdgcmkcmjeaaGreatpbae
import Derived.Test.YtgokdgcmkcmjeaaGreatpbai
import Derived.Test.YtgokdgcmkcmjeaaGreatpbal
import Derived.Test.YtgokdgcmkcmjeaaGreatpbap
import Derived.Test.YtgokdgcmkcmjeaaGreatpbar
set_option maxRecDepth 100000
set_option maxHeartbeats 16000000
namespace Go.Proofs.YtgokdgcmkcmjeaaGreat
open Go.RowKit Go.ChangeShapes Go.WideShapes Go.ChangeAt Go.Joins
theorem own_blk{w w':World}{base sz n:Nat}{e:TypeId}{v:Value}{xs:List Value}(h:w.ownsRow base e sz v n xs)(hk:∀j,v.ownBlock=some j→w'.heap[j]?=w.heap[j]?):w'.ownsRow base e sz v n xs:=by
 obtain⟨h1,h2⟩:=h
 refine⟨h1,?_⟩
 rcases h2 with h2|⟨g,cap,cur,hv,hg,hh,r⟩
 ·exact .inl h2
 ·exact .inr ⟨g,cap,cur,hv,hg,(hk g (by rw[hv];rfl)).trans hh,r⟩
theorem own_blk_lt{w:World}{base sz n:Nat}{e:TypeId}{v:Value}{xs:List Value}(h:w.ownsRow base e sz v n xs):∀j,v.ownBlock=some j→base≤j∧j<w.heap.size:=by
 intro j hj
 rcases h.2 with⟨rfl,_⟩|⟨g,cap,cur,rfl,hg,hh,_⟩
 ·simp[Value.ownBlock]at hj
 ·simp[Value.ownBlock]at hj
  subst hj
  exact⟨hg,(Array.getElem?_eq_some_iff.1 hh).1⟩
theorem KpB.set{S:Nat→Prop}{w:World}{p:Addr}(h:¬S p.block)(v:Value):KpB S w (w.setCell p v):=fun k hk=>Below.heap_setCell w p v k (fun e=>h (e▸hk))
theorem KpB.below{S:Nat→Prop}{w w':World}(h:∀j,S j→j<w.heap.size)(hb:Below w.heap.size w w'):KpB S w w':=fun k hk=>hb.block k (h k hk)
theorem KpB.less{S S':Nat→Prop}{w w':World}(h:KpB S w w')(hs:∀j,S' j→S j):KpB S' w w':=fun k hk=>h k (hs k hk)
theorem KpB.drew{S:Nat→Prop}{w w':World}(h:KpB S w w'):KpB S w w'.drew:=h
structure RowQ (w:World) (S:Nat→Prop) (B g:Nat) (F:Nat→Nat) (L R q:Nat) (A:Option Addr) (c:Nat):Prop where
 base:B≤g
 size:B≤w.heap.size
 out:¬S g
 row:w.heap[g]?=some (.cells #[.slice A L c,.int .u64 (R:Int),.int .i64 (q:Int)] 99 (0,0))
 own:w.ownsRow B 5 1 (.slice A L c) L (bytesL L F)
 away:∀j,(Value.slice A L c).ownBlock=some j→¬S j
 top:∀j,S j→j<w.heap.size
theorem RowQ.lt{w:World}{S:Nat→Prop}{B g:Nat}{F:Nat→Nat}{L R q:Nat}{A:Option Addr}{c:Nat}(h:RowQ w S B g F L R q A c):g<w.heap.size:=(Array.getElem?_eq_some_iff.1 h.row).1
theorem RowQ.ne{w:World}{S:Nat→Prop}{B g:Nat}{F:Nat→Nat}{L R q:Nat}{A:Option Addr}{c:Nat}(h:RowQ w S B g F L R q A c):(Value.slice A L c).ownBlock≠some g:=own_type h.own h.row (by kernel_rfl)
theorem RowQ.drew{w:World}{S:Nat→Prop}{B g:Nat}{F:Nat→Nat}{L R q:Nat}{A:Option Addr}{c:Nat}(h:RowQ w S B g F L R q A c):RowQ w.drew S B g F L R q A c:=⟨h.1,h.2,h.3,h.4,h.5,h.6,h.7⟩
theorem RowQ.cells{w:World}{S:Nat→Prop}{B g:Nat}{F:Nat→Nat}{L R q:Nat}{A:Option Addr}{c:Nat}(h:RowQ w S B g F L R q A c):
  w.cell? ⟨g,0,none⟩=some (.slice A L c)∧w.cell? ⟨g,1,none⟩=some (.int .u64 (R:Int))∧w.cell? ⟨g,2,none⟩=some (.int .i64 (q:Int))∧w.frozen? ⟨g,0,none⟩=false∧w.frozen? ⟨g,1,none⟩=false∧w.frozen? ⟨g,2,none⟩=false:=
 ⟨(cell_of_row w g 0 _ _ (0,0) h.row).trans rfl,(cell_of_row w g 1 _ _ (0,0) h.row).trans rfl,(cell_of_row w g 2 _ _ (0,0) h.row).trans rfl,frozen_of_row w g 0 _ _ h.row,frozen_of_row w g 1 _ _ h.row,frozen_of_row w g 2 _ _ h.row⟩
theorem RowQ.rest{w:World}{S:Nat→Prop}{B g:Nat}{F:Nat→Nat}{L R q:Nat}{A:Option Addr}{c:Nat}(h:RowQ w S B g F L R q A c)(R':Nat):RowQ (w.setCell ⟨g,1,none⟩ (.int .u64 (R':Int))) S B g F L R' q A c:=
 ⟨h.base,by simpa[World.setCell]using h.size,h.out,(heap_setCell_same w g 1 _ _ _ h.row).trans (by simp),own_blk h.own fun j hj=>Below.heap_setCell w _ _ j (fun e=>h.ne (by rw[hj,e])),h.away,fun j hj=>by simpa[World.setCell]using h.top j hj⟩
theorem RowQ.left{w:World}{S:Nat→Prop}{B g:Nat}{F:Nat→Nat}{L R q:Nat}{A:Option Addr}{c:Nat}(h:RowQ w S B g F L R q A c)(q':Nat):RowQ (w.setCell ⟨g,2,none⟩ (.int .i64 (q':Int))) S B g F L R q' A c:=
 ⟨h.base,by simpa[World.setCell]using h.size,h.out,(heap_setCell_same w g 2 _ _ _ h.row).trans (by simp),own_blk h.own fun j hj=>Below.heap_setCell w _ _ j (fun e=>h.ne (by rw[hj,e])),h.away,fun j hj=>by simpa[World.setCell]using h.top j hj⟩
theorem RowQ.less{w:World}{S S':Nat→Prop}{B g:Nat}{F:Nat→Nat}{L R q:Nat}{A:Option Addr}{c:Nat}(h:RowQ w S B g F L R q A c)(hs:∀j,S' j→S j):RowQ w S' B g F L R q A c:=
 ⟨h.base,h.size,fun k=>h.out (hs _ k),h.row,h.own,fun j hj k=>h.away j hj (hs _ k),fun j hj=>h.top j (hs _ hj)⟩
theorem RowQ.grow{w w':World}{S:Nat→Prop}{B g:Nat}{F:Nat→Nat}{L R q:Nat}{A:Option Addr}{c:Nat}(h:RowQ w S B g F L R q A c)(hb:Below w.heap.size w w'):RowQ w' (fun j=>S j∨(w.heap.size≤j∧j<w'.heap.size)) B g F L R q A c:=
 ⟨h.base,Nat.le_trans h.size hb.size,fun k=>k.elim h.out fun k=>by have:=h.lt;omega,(hb.block g h.lt).trans h.row,own_blk h.own fun j hj=>hb.block j (own_blk_lt h.own j hj).2,fun j hj k=>k.elim (h.away j hj) fun k=>by have:=(own_blk_lt h.own j hj).2;omega,
  fun j hj=>hj.elim (fun k=>Nat.lt_of_lt_of_le (h.top j k) hb.size) fun k=>k.2⟩
theorem RowQ.after{w w':World}{S:Nat→Prop}{B g:Nat}{F:Nat→Nat}{L R q:Nat}{A:Option Addr}{c:Nat}(h:RowQ w S B g F L R q A c)(hb:Below w.heap.size w w'):RowQ w' S B g F L R q A c:=(h.grow hb).less fun _ k=>.inl k
theorem RowQ.eqF{w:World}{S:Nat→Prop}{B g:Nat}{F G:Nat→Nat}{L R q:Nat}{A:Option Addr}{c:Nat}(h:RowQ w S B g F L R q A c)(e:∀j,j<L→F j=G j):RowQ w S B g G L R q A c:=⟨h.1,h.2,h.3,h.4,by have:=h.5;rwa[bytesL_ext e]at this,h.6,h.7⟩
theorem RowQ.grown{w w':World}{S:Nat→Prop}{B g:Nat}{F G:Nat→Nat}{L L' R q:Nat}{A A':Option Addr}{c c':Nat}(h:RowQ w S B g F L R q A c)(ho:w'.ownsRow B 5 1 (.slice A' L' c') L' (bytesL L' G))(hb:Below B w w')
  (hk:∀k,k<w.heap.size→(Value.slice A L c).ownBlock≠some k→w'.heap[k]?=w.heap[k]?) (hw:∀j,(Value.slice A' L' c').ownBlock=some j→(Value.slice A L c).ownBlock=some j∨w.heap.size≤j):
  RowQ (w'.setCell ⟨g,0,none⟩ (.slice A' L' c')) S B g G L' R q A' c'∧KpB S w (w'.setCell ⟨g,0,none⟩ (.slice A' L' c'))∧Below B w (w'.setCell ⟨g,0,none⟩ (.slice A' L' c')):=by
 have hg:=(hk g h.lt h.ne).trans h.row
 have hne:(Value.slice A' L' c').ownBlock≠some g:=own_type ho hg (by kernel_rfl)
 have haw:∀j,(Value.slice A' L' c').ownBlock=some j→¬S j:=fun j hj k=>(hw j hj).elim (fun e=>h.away j e k) fun e=>by have:=h.top j k;omega
 refine⟨⟨h.base,Nat.le_trans h.size (by simpa[World.setCell]using hb.size),h.out,(heap_setCell_same w' g 0 _ _ _ hg).trans (by simp),own_blk ho fun j hj=>Below.heap_setCell w' _ _ j (fun e=>hne (by rw[hj,e])),haw,fun j hj=>Nat.lt_of_lt_of_le (h.top j hj) (by simpa[World.setCell]using hb.size)⟩,?_,hb.setCell h.base _⟩
 exact fun j hj=>(Below.heap_setCell w' _ _ j (fun e=>h.out (by have e:j=g:=e;rwa[e]at hj))).trans (hk j (h.top j hj) fun e=>h.away j e hj)
def RowAt(w:World)(S:Nat→Prop)(B g:Nat)(f:Nat→Nat)(k:Nat):Prop:=Clean f k∧∃A c,RowQ w S B g f (k/8) (f (k/8)) (k%8) A c
theorem RowAt.less{w:World}{S S':Nat→Prop}{B g k:Nat}{f:Nat→Nat}(h:RowAt w S B g f k)(hs:∀j,S' j→S j):RowAt w S' B g f k:=by
 obtain⟨h1,A,c,h2⟩:=h
 exact⟨h1,A,c,h2.less hs⟩
theorem RowAt.grow{w w':World}{S:Nat→Prop}{B g k:Nat}{f:Nat→Nat}(h:RowAt w S B g f k)(hb:Below w.heap.size w w'):RowAt w' (fun j=>S j∨(w.heap.size≤j∧j<w'.heap.size)) B g f k:=by
 obtain⟨h1,A,c,h2⟩:=h
 exact⟨h1,A,c,h2.grow hb⟩
theorem RowAt.after{w w':World}{S:Nat→Prop}{B g k:Nat}{f:Nat→Nat}(h:RowAt w S B g f k)(hb:Below w.heap.size w w'):RowAt w' S B g f k:=(h.grow hb).less fun _ k=>.inl k
theorem RowAt.drew{w:World}{S:Nat→Prop}{B g k:Nat}{f:Nat→Nat}(h:RowAt w S B g f k):RowAt w.drew S B g f k:=by
 obtain⟨h1,A,c,h2⟩:=h
 exact⟨h1,A,c,h2.drew⟩
theorem RowAt.lt{w:World}{S:Nat→Prop}{B g k:Nat}{f:Nat→Nat}(h:RowAt w S B g f k):g<w.heap.size:=by
 obtain⟨h1,A,c,h2⟩:=h;exact h2.lt
theorem RowAt.top{w:World}{S:Nat→Prop}{B g k:Nat}{f:Nat→Nat}(h:RowAt w S B g f k):∀j,S j→j<w.heap.size:=by
 obtain⟨h1,A,c,h2⟩:=h;exact h2.top
theorem RowAt.size{w:World}{S:Nat→Prop}{B g k:Nat}{f:Nat→Nat}(h:RowAt w S B g f k):B≤w.heap.size:=by
 obtain⟨h1,A,c,h2⟩:=h;exact h2.size
theorem numA_one(x:Nat×Nat):(numC x).toArray.all (·.oneCell')=true:=by simp[numC,Value.oneCell']
theorem szNumP(x:Nat×Nat):(Tryz.prog.info? 146).map (·.size)=some (numC x).toArray.size:=by simp only[numC];kernel_rfl
theorem szNumP2(x:Nat×Nat):(Tryz.prog.info? 146).map (·.size)=some (numC x).length:=by simp only[numC];kernel_rfl
theorem u64_or_add(a b i:Nat)(ha:a<18446744073709551616)(h:b<18446744073709551616)(hb:a<2^i)(hd:2^i∣b):bits .or .u64 (a:Int) (b:Int)=((a+b:Nat):Int):=by
 have hx:a|||b<2^64:=Nat.or_lt_two_pow (by omega) (by omega)
 have e:a|||b=a+b:=by rw[Nat.or_comm,or_add b a i hb hd,Nat.add_comm]
 rw[←e]
 show IntKind.u64.wrap ((BitVec.ofInt 64 (a:Int)|||BitVec.ofInt 64 (b:Int)).toNat:Int)=_
 rw[BitVec.toNat_or,ofInt_nat 64 a (by omega),ofInt_nat 64 b (by omega),IntKind.wrap_u64]
 omega
def InS(S:Nat→Prop)(A:Option Addr)(m:Nat):Prop:=∀b o,0<m→A=some ⟨b,o,none⟩→S b
theorem put11_any(w:World)(S:Nat→Prop)(B g:Nat)(f:Nat→Nat)(K:Nat)(A2:Option Addr)(m c2:Nat)(P:List (Nat×Nat))(h:RowAt w S B g f K)(hp:RdN w w.heap.size A2 P)(hS:InS S A2 m)(hm:m=P.length)(hm2:m≤1000)(hfit:∀x∈P,FitN x)(hk:K+bitsT P≤16000000):
  Calls Tryz.prog 85 #[.pointer (some ⟨g,0,none⟩),.slice A2 m c2] w fun e w'=>e=.returned (.tuple #[])∧RowAt w' S B g (putsF f K P) (K+bitsT P)∧KpB S w w'∧Below B w w':=by
 have H:=Lib.hid h;have HP:=Lib.hid hp;have HS:=Lib.hid hS;have HM:=Lib.hid hm;have HF:=Lib.hid hfit;have HK:=Lib.hid hk
 clear h hp hS hm hfit hk
 go_enter Tryz.func85,Tryz.ntmps85
 go_wp2_with fail
 go_loopw [8] (fun iv wr=>∃i:Nat,i≤m∧iv=.int .i64 (i:Int)∧Hid (RowAt wr S B g (putsF f K (P.take i)) (K+bitsT (P.take i)))∧Hid (KpB S w wr)∧Hid (Below B w wr)) (fun iv _=>m-(intOf iv).toNat)
 case atStart=>exact⟨0,Nat.zero_le _,rfl,Lib.hid H.out,Lib.hid (KpB.refl _ _),Lib.hid (Below.refl _ _)⟩
 case round=>
  obtain⟨i,hi,rfl,HR,HKP,HB⟩:=hrel
  by_cases hlt:i<m
  ·have hlti:(i:Int)<(m:Int):=by omega
   have hil:i<P.length:=by rw[←HM.out];exact hlt
   obtain⟨b,o,rfl,hbl,hc⟩:=HP.out.at hil
   have hSb:S b:=HS.out b o (by omega) rfl
   have hrg0:=HP.out.range rfl hil
   have hrg:wr.rangeAt b (o+i*2) (numC (P.getD i num0)):=fun j v hv=>by rw[HKP.out.cell (p:=⟨b,o+i*2+j,none⟩) hSb];exact hrg0 j v hv
   obtain⟨x1,x2⟩:=HF.out _ (num_mem hil)
   obtain⟨ht1,ht2⟩:=putsF_take (f:=f) (k:=K) hil
   have hKi:=bitsT_take_le P i
   have hKi1:=bitsT_take_le P (i+1)
   obtain⟨⟨v,n⟩,ht⟩:∃t,t=P.getD i num0:=⟨_,rfl⟩
   rw[←ht]at hrg x1 x2 ht1 ht2
   dsimp only at x1 x2 ht1 ht2
   obtain⟨k,hk⟩:∃k,k=K+bitsT (P.take i):=⟨_,rfl⟩
   obtain⟨G,hG⟩:∃G,G=putsF f K (P.take i):=⟨_,rfl⟩
   have hr:=HR.out
   rw[←hG,←hk]at hr ht1
   obtain⟨hcl,A,c,hq⟩:=hr
   obtain⟨F1,hF1⟩:∃F1,F1=putF G k v n:=⟨_,rfl⟩
   rw[←hF1]at ht1
   have hcl1:Clean F1 (k+n):=by rw[hF1];exact hcl.put v n
   have hval:=putF_val hcl v n x2
   rw[←hF1,Nat.mod_eq_of_lt x1]at hval
   have hlow:∀j,j<k/8→G j=F1 j:=fun j hj=>by rw[hF1];exact(putF_low G k v n j hj).symm
   have hq1:=hq.eqF hlow
   have hk1:k+n=K+bitsT (P.take (i+1)):=by rw[ht2,hk];omega
   have hkb:k+n≤16000000:=by have:=HK.out;omega
   have hv16:v<65536:=by
    have:(2:Nat)^n≤2^16:=Nat.pow_le_pow_right (by omega) x2
    have e:(2:Nat)^16=65536:=rfl
    omega
   obtain⟨h,hh⟩:∃h,h=wr.heap.size:=⟨_,rfl⟩
   obtain⟨W2,hW2⟩:∃W2,W2=mkV wr #[.int .u32 0,.int .i64 0] (numC (v,n)).toArray 146:=⟨_,rfl⟩
   have hb2:Below wr.heap.size wr W2:=by rw[hW2];exact mkV_below _ _ _ _
   have hrow:W2.heap[h]?=some (.cells (numC (v,n)).toArray 146 (0,0)):=by rw[hW2,hh];exact mkV_row wr _ _ _
   have hq2:=hq1.after hb2
   have hkp2:KpB S w W2:=HKP.out.tr (KpB.below hq.top hb2)
   have hB2:Below B w W2:=HB.out.trans (hb2.mono hq.size)
   have y0:W2.cell? ⟨h,0,none⟩=some (.int .u32 (v:Int)):=(cell_of_row W2 _ 0 _ _ (0,0) hrow).trans rfl
   have y1:W2.cell? ⟨h,1,none⟩=some (.int .i64 (n:Int)):=(cell_of_row W2 _ 1 _ _ (0,0) hrow).trans rfl
   obtain⟨z0,z1,z2,e0,e1,e2⟩:=hq2.cells
   have hgh:g<h:=by rw[hh];exact hq.lt
   obtain⟨R,hR⟩:∃R,R=G (k/8):=⟨_,rfl⟩
   obtain⟨q,hqq⟩:∃q,q=k%8:=⟨_,rfl⟩
   obtain⟨L,hL⟩:∃L,L=k/8:=⟨_,rfl⟩
   rw[←hR,←hqq,←hL]at hq2
   rw[←hL]at z0;rw[←hR]at z1;rw[←hqq]at z2
   have hq7:q<8:=by omega
   have hRG:=Lib.hid hrg;have HW2:=Lib.hid hW2;have HQ2:=Lib.hid hq2;have HKP2:=Lib.hid hkp2;have HB2:=Lib.hid hB2;have HH:=Lib.hid hh;have HVAL:=Lib.hid hval;have HCL1:=Lib.hid hcl1;have HK1:=Lib.hid hk1;have HT1:=Lib.hid ht1;have HR:=Lib.hid hR;have HQQ:=Lib.hid hqq;have HL:=Lib.hid hL;have HCLG:=Lib.hid hcl
   clear hrg hW2 hq2 hkp2 hB2 hh hval hcl1 hk1 ht1 hR hqq hL hrow hb2 hq1 hlow hF1 hcl hq ht2 ht hKi hKi1 hc hrg0 hSb hbl x1 hk hG
   go_wp2_with (first|refine wpList_load_mid rfl _ _ rfl b (o+i*2) rfl (numC (v,n)) _ hRG.out Tryz.underlying146 rfl (szNumP2 _) ?_|refine wpList_store_rowTo rfl _ _ _ rfl rfl wr.heap.size (numC (v,n)).toArray rfl rfl 146 #[.int .u32 0,.int .i64 0] (heap_alloc_new wr _) (szNumP _) rfl (numA_one _) ?_;change wpList _ _ _ _ _ (mkV wr #[.int .u32 0,.int .i64 0] (numC (v,n)).toArray 146);rw[←HW2.out,←HH.out])
   go_region
   have hv3:bits .or .u64 (R:Int) (IntKind.u64.wrap ((v:Int)*2^q))=((val3 F1 L:Nat):Int):=by
    have h8:2^q≤2^7:=Nat.pow_le_pow_right (by omega) (by omega)
    have e7:(2:Nat)^7=128:=rfl
    have hm1:v*2^q≤65535*128:=Nat.mul_le_mul (by omega) (by omega)
    have hRq:R<2^q:=by rw[HR.out,HQQ.out];exact HCLG.out.2.2
    have e:IntKind.u64.wrap ((v:Int)*2^q)=((v*2^q:Nat):Int):=by rw[cast_shl,IntKind.wrap_u64];omega
    rw[e,u64_or_add R (v*2^q) q (by omega) (by omega) hRq (Nat.dvd_mul_left _ _),HL.out,HVAL.out,←HR.out,←HQQ.out]
   rw[hv3]
   have hq3:=(HQ2.out.rest (val3 F1 L)).drew
   obtain⟨W3,hW3⟩:∃W3,W3=(W2.setCell ⟨g,1,none⟩ (.int .u64 ((val3 F1 L:Nat):Int))).drew:=⟨_,rfl⟩
   have hkp3:KpB S w W3:=by rw[hW3];exact(HKP2.out.tr (KpB.set HQ2.out.out _)).drew
   have hB3:Below B w W3:=by rw[hW3];exact(HB2.out.setCell HQ2.out.base _).drew
   have y1':W3.cell? ⟨h,1,none⟩=some (.int .i64 (n:Int)):=by rw[hW3];exact(World.cell?_setCell_other _ _ _ _ (fun e=>by have:g=h:=congrArg Addr.block e;omega)).trans y1
   rw[←hW3]at hq3⊢
   obtain⟨z0',z1',z2',e0',e1',e2'⟩:=hq3.cells
   obtain⟨R3,hR3⟩:∃R3,R3=val3 F1 L:=⟨_,rfl⟩
   rw[←hR3]at hq3 z1'⊢
   have HQ3:=Lib.hid hq3;have HKP3:=Lib.hid hkp3;have HB3:=Lib.hid hB3;have HR3:=Lib.hid hR3
   clear hv3 hq3 hkp3 hB3 hR3 hW3 y0 y1 z0 z1 z2 e0 e1 e2 HQ2 HKP2 HB2 HVAL
   go_wp2
   go_region
   have hq4:=(HQ3.out.left (q+n)).drew
   rw[Int.natCast_add]at hq4
   obtain⟨W4,hW4⟩:∃W4,W4=(W3.setCell ⟨g,2,none⟩ (.int .i64 ((q:Int)+(n:Int)))).drew:=⟨_,rfl⟩
   have hkp4:KpB S w W4:=by rw[hW4];exact(HKP3.out.tr (KpB.set HQ3.out.out _)).drew
   have hB4:Below B w W4:=by rw[hW4];exact(HB3.out.setCell HQ3.out.base _).drew
   rw[←hW4]at hq4⊢
   have HQ4:=Lib.hid hq4;have HKP4:=Lib.hid hkp4;have HB4:=Lib.hid hB4
   clear hq4 hkp4 hB4 hW4 z0' z1' z2' e0' e1' e2' y1' HQ3 HKP3 HB3
   go_wp2
   go_loopw [] (fun wx=>∃(t:Nat) (A':Option Addr) (c':Nat),L≤t∧8*t≤k+n∧Hid (RowQ wx S B g F1 t (val3 F1 t) (k+n-8*t) A' c')∧Hid (KpB S w wx)∧Hid (Below B w wx)) (fun wx=>(intOf ((wx.cell? ⟨g,2,none⟩).getD (.int .i64 0))).toNat)
   case atStart=>
    refine⟨L,A,c,Nat.le_refl _,by have:=HL.out;omega,Lib.hid ?_,HKP4,HB4⟩
    have:=HQ4.out
    rw[show k+n-8*L=q+n by have:=HL.out;have:=HQQ.out;omega,←HR3.out]
    exact this
   case round=>
    obtain⟨t,At,ct,hLt,ht8,HQ,HKX,HBX⟩:=hrel
    obtain⟨s,hs⟩:∃s,s=k+n-8*t:=⟨_,rfl⟩
    have hqx:=HQ.out
    rw[←hs]at hqx
    obtain⟨Rv,hRv⟩:∃R,R=val3 F1 t:=⟨_,rfl⟩
    have hvl:=val3_lt HCL1.out.1 t
    rw[←hRv]at hqx hvl
    obtain⟨z0,z1,z2,e0,e1,e2⟩:=hqx.cells
    have hsb:s≤16000000:=by omega
    have HQX:=Lib.hid hqx;have HSS:=Lib.hid hs;have HRV:=Lib.hid hRv
    have hL8:=HL.out
    by_cases hge:8≤s
    ·have hgei:(8:Int)≤(s:Int):=by omega
     have hz:F1 (t+3)=0:=HCL1.out.2.1 _ (by omega)
     obtain⟨hn1,hn2⟩:=val3_next HCL1.out.1 t hz
     rw[←hRv]at hn1 hn2
     obtain⟨x,hx⟩:∃x,x=F1 t:=⟨_,rfl⟩
     obtain⟨A',c',w',hr2,ho2,hb2,hk2,hw2⟩:=run_oneB_s wr.drew B At t ct F1 (hqx.drew).own x hx (by omega) hqx.size
     obtain⟨hq5,hkp5,hb5⟩:=hqx.drew.grown ho2 hb2 hk2 hw2
     rw[←hx]at hn1
     obtain⟨R5,hR5⟩:∃R,R=val3 F1 (t+1):=⟨_,rfl⟩
     rw[←hR5]at hn2
     have hx8:IntKind.u8.wrap (Rv:Int)=(x:Int):=by rw[IntKind.wrap_u8];omega
     have hx9:(Rv:Int)%256=(x:Int):=by omega
     have hd8:(Rv:Int)/256=(R5:Int):=by omega
     have ht9:8*(t+1)≤k+n:=by omega
     obtain⟨W5,hW5⟩:∃W,W=w'.setCell ⟨g,0,none⟩ (.slice A' (t+1) c'):=⟨_,rfl⟩
     have HRUN:=Lib.hid hr2
     rw[←hW5]at hq5 hkp5 hb5
     have HQ5:=Lib.hid hq5;have HKP5:=Lib.hid (HKX.out.tr hkp5);have HB5:=Lib.hid (HBX.out.drew.trans hb5);have HW5:=Lib.hid hW5;have HR5:=Lib.hid hR5
     have hgl:g<wr.heap.size:=hqx.lt
     have hgo:w'.frozen? ⟨g,0,none⟩=false:=frozen_of_row w' g 0 _ _ ((hk2 g hqx.lt hqx.ne).trans hqx.row)
     have hgc:w'.cell? ⟨g,0,none⟩=some (.slice At t ct):=(cell_of_row w' g 0 _ _ (0,0) ((hk2 g hqx.lt hqx.ne).trans hqx.row)).trans rfl
     have HZ2:=Lib.hid z2
     clear hr2 hq5 hkp5 hb5 hW5 hR5 ho2 hb2 hk2 hw2 hn1 hn2 hx hs hRv hqx hL8 hz hvl
     go_wp2
     go_region_law ((refine step_app rfl (.tmp 45) (.tmp 51) 22 22 rfl (.slice At t ct) (.slice (some ⟨wr.heap.size,0,none⟩) 1 1) rfl rfl (.slice A' (t+1) c') w' HRUN.out ?_))
     all_goals(
      rw[←HW5.out]
      obtain⟨z0',z1',z2',e0',e1',e2'⟩:=HQ5.out.cells
      have hq6:=HQ5.out.rest R5
      obtain⟨W6,hW6⟩:∃W,W=W5.setCell ⟨g,1,none⟩ (.int .u64 (R5:Int)):=⟨_,rfl⟩
      rw[←hW6]at hq6
      have hkp6:KpB S w W6:=by rw[hW6];exact HKP5.out.tr (KpB.set HQ5.out.out _)
      have hb6:Below B w W6:=by rw[hW6];exact HB5.out.setCell HQ5.out.base _
      obtain⟨_,_,z6,_,_,e6⟩:=hq6.cells
      have hq7:=hq6.left (s-8)
      have hs8:((s-8:Nat):Int)=(s:Int)-8:=by omega
      rw[hs8]at hq7
      obtain⟨W7,hW7⟩:∃W,W=W6.setCell ⟨g,2,none⟩ (.int .i64 ((s:Int)-8)):=⟨_,rfl⟩
      rw[←hW7]at hq7
      have hkp7:KpB S w W7:=by rw[hW7];exact hkp6.tr (KpB.set hq6.out _)
      have hb7:Below B w W7:=by rw[hW7];exact hb6.setCell hq6.base _
      obtain⟨_,_,z7,_,_,_⟩:=hq7.cells
      have HQ7:=Lib.hid hq7;have HKP7:=Lib.hid hkp7;have HB7:=Lib.hid hb7;have HW6:=Lib.hid hW6;have HW7:=Lib.hid hW7;have HZ7:=Lib.hid z7
      clear hq6 hkp6 hb6 hq7 hkp7 hb7 hW6 hW7 hs8 z0 z1 z2 e0 e1 e2 hgo hgc z7
      go_wp2
      go_roundw
      case rel=>
       rw[←HW6.out,←HW7.out]
       exact⟨t+1,A',c',by omega,ht9,Lib.hid (by rw[←HR5.out,show k+n-8*(t+1)=s-8 by have:=HSS.out;omega];exact HQ7.out),HKP7,HB7⟩
      case measure=>rw[←HW6.out,←HW7.out,HZ2.out,HZ7.out];simp[intOf];omega)
    ·have hgei:¬(8:Int)≤(s:Int):=by omega
     have hte:t=(k+n)/8:=by have:=HSS.out;omega
     have hse:s=(k+n)%8:=by have:=HSS.out;omega
     have hfin:RowAt wr S B g F1 (k+n):=by
      refine⟨HCL1.out,At,ct,?_⟩
      have h1:=HQX.out
      rw[HRV.out,hte,val3_end HCL1.out,hse]at h1
      exact h1
     rw[HK1.out,←HT1.out]at hfin
     have HFIN:=Lib.hid hfin
     clear hfin hte hse hvl hqx hs hRv
     go_wp2
     go_roundw
     case rel=>exact⟨i+1,by omega,by go_num,HFIN,HKX,HBX⟩
     case measure=>simp[intOf];omega
  ·obtain rfl:i=m:=by omega
   have hlti:¬(i:Int)<(i:Int):=by omega
   have hr:=HR.out
   rw[HM.out,List.take_length]at hr
   have HRR:=Lib.hid hr
   clear hr HR
   go_wp2
   go_end0
   exact⟨rfl,HRR.out,HKP.out,HB.out⟩
end Go.Proofs.YtgokdgcmkcmjeaaGreat
namespace Go.Proofs.YtgokdgcmkcmjeaaGreat
section
variable {g h:Nat→Nat} {l m:Nat}
end
theorem asked_ok{L:Nat}{a:Int}(h:asked13 L a=0):L≤131072∧0≤a∧a.toNat≤8*L:=by
 unfold asked13 at h
 split at h
 ·omega
 ·split at h
  ·omega
  ·omega
end Go.Proofs.YtgokdgcmkcmjeaaGreat
namespace Go.Proofs.YtgokdgcmkcmjeaaGreat
theorem bv_put{G:Nat→Nat}{K code m:Nat}(hb:∀j,j<m→bitAt G (K+j)=turnN code m/2^j%2)(hc:code<2^m):∀k,k≤m→bvN G K k=code/2^(m-k)
 |0,_=>by
  show 0=_
  rw[Nat.sub_zero,Nat.div_eq_of_lt hc]
 |k+1,h=>by
  have ih:=bv_put hb hc k (by omega)
  have h1:=turnN_mirror code m (m-1-k) (by omega)
  rw[show m-1-(m-1-k)=k by omega]at h1
  simp only[bvN]
  rw[ih,hb k (by omega),h1,show m-k=(m-(k+1))+1 by omega,show m-1-k=m-(k+1) by omega,Nat.pow_succ,←Nat.div_div_eq_div_mul]
  omega
theorem back_read{f:Nat→Nat}{n:Nat}{most:Int}(h:checkE f n most=0){i:Nat}(hi:i<n)(h0:0<f i){G:Nat→Nat}{L K:Nat}(hb:∀j,j<f i→bitAt G (K+j)=turnN (codeB f n i) (f i)/2^j%2)(hL:K+f i≤8*L):
  readR f n G L K 17 0=(i,K+f i,0):=by
 obtain⟨_,hm15,hn,hbd,ha,_⟩:=check_ok h
 have h15:∀j,j<n→f j≤15:=fun j hj=>by have:=hbd j hj;omega
 have hc:=fits_code hi h15 ha
 have hbv:=bv_put hb hc
 have hci:codeB f n i=bvN G K (f i):=by rw[hbv (f i) (Nat.le_refl _),Nat.sub_self];simp
 have hok:(readR f n G L K 17 0).2.2=0:=read_ok (l:=L) hi (h15 i hi) h0 hci hL (f i) 0 (by omega)
 obtain⟨k,e1,e2,e3⟩:=read_found 17 0 hok
 obtain⟨c0,c1,c2⟩:=of_decide_eq_true e3
 have hj:(readR f n G L K 17 0).1=i:=by
  rcases Nat.decEq (readR f n G L K 17 0).1 i with hne|he
  ·exfalso
   generalize (readR f n G L K 17 0).1=j at hne e2 c1 c2
   have hj15:=h15 j e2
   rcases Nat.le_total k (f i)with hle|hle
   ·have hp:=bv_prefix G K k (f i-k)
    rw[show k+(f i-k)=f i by omega,←hci]at hp
    have hbt:beginsB (codeB f n j) (f j) (codeB f n i) (f i)=true:=decide_eq_true ⟨by omega,by omega,by rw[c1,hp,c2]⟩
    rw[begins_apart e2 hi h15 hne]at hbt
    cases hbt
   ·have hp:=bv_prefix G K (f i) (k-f i)
    rw[show f i+(k-f i)=k by omega,←c2,←hci]at hp
    have hbt:beginsB (codeB f n i) (f i) (codeB f n j) (f j)=true:=decide_eq_true ⟨h0,by omega,by rw[c1];exact hp⟩
    rw[begins_apart hi e2 h15 (fun e=>hne e.symm)]at hbt
    cases hbt
  ·exact he
 have hk:k=f i:=by rw[←c1,hj]
 rcases hP:readR f n G L K 17 0 with⟨p1,p2,p3⟩
 rw[hP]at hok e1 hj
 simp only at hok e1 hj
 rw[hok,e1,hj,hk]
end Go.Proofs.YtgokdgcmkcmjeaaGreat
