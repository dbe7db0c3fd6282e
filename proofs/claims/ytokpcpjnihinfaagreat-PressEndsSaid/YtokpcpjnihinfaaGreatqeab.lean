/-
  Words and walks.
-/
import Derived.Laws.CopyOwn
import Derived.StillTailTactics
import Derived.LoopN
import Derived.Deep.SlicePairs
import Derived.Lib.SmallJoins
import Derived.Shelf.Abstract
import Derived.Great.BuildSlice
import Derived.Laws.Tables
import Derived.Deep.DeepCutAuto
import Derived.Deep.WholeRow
import Derived.StillTail
import Derived.Deep.Quiet
import Derived.Test.YtokpcpjnihinfaaGreatqeaa
set_option maxRecDepth 100000
set_option maxHeartbeats 16000000
namespace Go.Proofs.YtokpcpjnihinfaaGreat
open Value renaming int → ae, slice → af, pointer → ag, agg → ah
open IntKind renaming i64 → aj
open Obj renaming cells → ak
open Ending renaming returned → ao
open Go renaming World → aq, Addr → au, Calls → aw, Value → ax, Program → az, Oper → aA, TypeId → aB, wpList_store_rowTo → aC, wpList_load_mid → aF, heap_alloc_new → aG, cell_of_row → aH, setRow_heap → aI, madeCells → aJ, bodyPost_ret → aK, setRow_other → aL, yielded → aM, heap_setCell_same → aN, frozen_of_row → aO
open Go.RowKit renaming intOf → aP, Hid → aQ, Below → aR
open _root_.Go.Proofs.Tryz
open Go.RowKit
theorem G5(k L:Nat)(w:aq)(h:k<=9223372036854775800)(hL:L=(k+7)/8):
  aw prog 53 #[ae aj (k:Int)] w fun e w'=>e=ao (ae aj (L:Int))/\w=w':=by
 subst hL;exact uC k w h
theorem xg:(prog.info? 5).map (·.size)=some 1:=by kernel_rfl
def gP(n:Nat)(f:Nat->Nat)(j:Nat):Nat:=if j<n then f j else 0
theorem G6(L n:Nat)(f:Nat->Nat)(hn:n<=L):splice (aJ #[ae .u8 0] L).toList 0 (gD n f)=gD L (gP n f):=by
 rw[toList_madeCells_one];apply List.ext_getElem?;intro j;rw[lH];have hl:(gD n f).length=n:=by simp[gD]
 simp only[splice,List.take_zero,List.nil_append,Nat.zero_add,List.getElem?_append,hl,lH,List.getElem?_drop,List.getElem?_replicate,gP];by_cases h1:j<n
 ·simp[h1];omega
 ·by_cases h2:j<L
  ·simp[h1,h2];omega
  ·simp[h1,h2];omega
theorem G7{w w':aq}{B n:Nat}{A:Option au}{f:Nat->Nat}(h:gE w B A n f)(hb:aR B w w'):
  0<(gD n f).length->∃ad,A=some ad/\∀j v,(gD n f)[j]?=some v->w'.cell? (ad.add j)=some v:=by
 intro hp
 have hl:(gD n f).length=n:=by simp[gD]
 rw[hl]at hp
 obtain⟨b,o,rfl,al,hc⟩:=h.2 hp
 refine⟨_,rfl,fun j v hv=>?_⟩
 rw[lH]at hv
 by_cases hj:j<n
 ·rw[if_pos hj]at hv;injection hv with hv
  subst hv;have e:(⟨b,o,none⟩:au).add j=⟨b,o+j,none⟩:=by unfold Addr.add;split<;>simp_all
  rw[e,hb.cell (p:=⟨b,o+j,none⟩) al];exact hc j hj
 ·rw[if_neg hj]at hv;cases hv
theorem G8(w:aq)(A:Option au)(n c:Nat)(f:Nat->Nat)(k m L:Nat)(hr:gE w w.heap.size A n f)(hk:k<=8388608)(hm:m<=64)(hn:n<=L)(hL:L=(k+m+7)/8):
  aw prog 79 #[ah #[af A n c,ae aj (k:Int)],ae aj (m:Int)] w fun e w'=>e=ao (ah #[af (some ⟨w.heap.size+1+1,0,none⟩) L L,ae aj (k:Int)])/\
   aR w.heap.size w w'/\Row w' (w.heap.size+1+1) L (gP n f):=by
 obtain⟨i0,hi,av,aS,aT⟩:=info_parts Bt
 have aV:L<=2000000:=by omega
 have aW:∀u:aq,(Instr.makeSlice 22 (ae aj (L:Int)) (ae aj (L:Int))).run prog u=
   .ok (af (some ⟨u.heap.size,0,none⟩) L L) (u.alloc (ak (aJ #[ae .u8 0] L) 5)):=fun u=>by
  have h:=run_make (P:=prog) u 22 5 i0 (ae .u8 0) underlying22 hi av aj aj (L:Int) (L:Int) (by omega) (Int.le_refl _) (by rw[aT];omega) (by omega)
  rw[Int.toNat_natCast]at h
  simpa[aS,Value.cells]using h
 have HL:=fX hL
 have HR:=fX hr
 clear hL hr
 go_enter func79,ntmps79
 go_wp2_with (first
  |(go_at_call 53;refine(G5 (k+m) L _ (by omega) HL.out).mono ?_;rintro e w' ⟨rfl,rfl⟩)
  |(with_reducible refine wpList_copy_splice rfl (.tmp 12) (.tmp 14) 22 22 rfl 5 underlying22 xg _ _ _ _ _ _ rfl rfl (w.heap.size+1+1) 0 (aJ #[ae .u8 0] L).toList 5 ?c1 (gD n f) ?c2 ?c3 ?c4 (sc n f) (w.heap.size+1+1) _ gC fZ ?c5))
 case c1=>rw[Array.toArray_toList];simpa using aG ((w.alloc (ak #[af A n c,ae aj (k:Int)] 30)).alloc (ak #[af none 0 0,ae aj 0] 120)) (ak (aJ #[ae .u8 0] L) 5)
 case c2=>simp[gD,Nat.min_eq_left hn]
 case c3=>exact G7 HR.out ((((gC.alloc fZ _).alloc (by simp) _).alloc (by simp;omega) _))
 case c4=>simp[gD,size_madeCells];omega
 case c5=>
  intro w4 aU ad;have HB:=fX ad;have aX:w.heap.size+1+1<w4.heap.size:=by have:=ad.size;simp at this;omega
  obtain⟨hc,al⟩:=wE ad;have k1:=(hc w.heap.size 1 (by omega)).trans (by go_simp:_=some (Value.int aj (k:Int)));have k2:=(hc (w.heap.size+1) 0 (by omega)).trans (by go_simp:_=some (Value.slice none 0 0));have k3:=(hc (w.heap.size+1) 1 (by omega)).trans (by go_simp:_=some (Value.int aj 0));have k4:=(al (w.heap.size+1) 0 (by omega)).trans (by go_simp:_=false);have k5:=(al (w.heap.size+1) 1 (by omega)).trans (by go_simp:_=false);clear ad hc al;go_wp2;refine aK (v:=ah #[af (some ⟨w.heap.size+1+1,0,none⟩) L L,ae aj (k:Int)]) ?_ rfl ⟨rfl,?_,?_⟩
  ·simp[results,Tryz.results79,go_sem,k2,k3]
  ·exact(((((gC.alloc fZ _).alloc (by simp) _).alloc (by simp;omega) _).trans (HB.out.mono (by omega))).setCell (by simp) _).setCell (by simp) _
  ·unfold Row;rw[Below.heap_setCell _ _ _ _ (by simp),Below.heap_setCell _ _ _ _ (by simp),<-G6 L n f hn];exact aU.out
def rm(w:aq)(p g L k:Nat):Prop:=w.heap[p]?=some (ak #[af (some ⟨g,0,none⟩) L L,ae aj (k:Int)] 120 (0,0))
theorem G9(x:Nat)(h:x<256):(x:Int)%256=(x:Int):=by omega
theorem Ha(w:aq)(p g L k:Nat)(f:Nat->Nat)(x:Nat)(hx:x<2)(hp:rm w p g L k)(ad:Row w g L f)(al:p≠g)(hk:k<8*L)(hL:L<=2000000)(hf:f (k/8)<2^(k%8)):
  aw prog 80 #[ag (some ⟨p,0,none⟩),ae .u32 (x:Int)] w fun e w'=>e=ao (.tuple #[])/\w'=(((w.setCell ⟨g,k/8,none⟩ (ae .u8 ((f (k/8)+x*2^(k%8):Nat):Int))).setCell ⟨p,1,none⟩ (ae aj ((k+1:Nat):Int))).drew):=by
 have c0:w.cell? ⟨p,0,none⟩=some (af (some ⟨g,0,none⟩) L L):=by rw[aH w p 0 _ 120 (0,0) hp];rfl
 have c1:w.cell? ⟨p,1,none⟩=some (ae aj (k:Int)):=by rw[aH w p 1 _ 120 (0,0) hp];rfl
 have c2:=ad.cell (j:=k/8) (by omega)
 have z1:w.frozen? ⟨p,1,none⟩=false:=by unfold rm at hp;simp[World.frozen?,hp]
 have z2:=ad.frozen (k/8)
 have av:k/8<L:=by omega
 have HF:=fX hf;have HP:=fX hp;have HR:=fX ad
 clear hf hp ad
 have hv:bits .or .u8 ((f (k/8):Nat):Int) ((x:Int)*2^(k%8)%256)=((f (k/8)+x*2^(k%8):Nat):Int):=by
  have h8:k%8<8:=Nat.mod_lt _ (by omega);have h1:2^(k%8)*2<=256:=by
   have:=Nat.pow_le_pow_right (n:=2) (by omega) (show k%8+1<=8 by omega);rw[Nat.pow_succ]at this;simpa using this
  have h2:x*2^(k%8)<=1*2^(k%8):=Nat.mul_le_mul_right _ (by omega);have h3:=HF.out;rw[zF,G9 _ (by omega),Ql _ _ (by omega) (by omega),Nat.or_comm,wm _ _ (k%8) h3 (Nat.dvd_mul_left _ _),Nat.add_comm]
 have HV:=fX hv
 clear hv
 go_enter func80,ntmps80
 go_wp2
 go_region
 go_wp2
 go_end0
 rw[HV.out]
 exact⟨rfl,rfl⟩
def jQ(f:Nat->Nat)(k b:Nat):Nat->Nat:=gL f (k/8) (f (k/8)+b*2^(k%8))
def PF(f:Nat->Nat)(k v:Nat):Nat->(Nat->Nat)
 |0=>f
 |i+1=>jQ (PF f k v i) (k+i) (v/2^i%2)
def Pw(f:Nat->Nat)(k:Nat):Prop:=(∀j,f j<256)/\(∀j,k/8<j->f j=0)/\f (k/8)<2^(k%8)
theorem Pw.step{f:Nat->Nat}{k b:Nat}(h:Pw f k)(hb:b<2):Pw (jQ f k b) (k+1):=by
 obtain⟨h1,h2,h3⟩:=h;have h8:k%8<8:=Nat.mod_lt _ (by omega);have hp:2^(k%8)*2<=256:=by
  have:=Nat.pow_le_pow_right (n:=2) (by omega) (show k%8+1<=8 by omega);rw[Nat.pow_succ]at this;simpa using this
 have hq:b*2^(k%8)<=1*2^(k%8):=Nat.mul_le_mul_right _ (by omega);refine⟨fun j=>?_,fun j hj=>?_,?_⟩
 ·unfold jQ gL;split
  ·omega
  ·exact h1 j
 ·unfold jQ gL;rw[if_neg (by omega)];exact h2 j (by omega)
 ·unfold jQ gL;by_cases e:k%8=7
  ·rw[if_neg (by omega),h2 _ (by omega)];exact Nat.two_pow_pos _
  ·rw[if_pos (by omega),show(k+1)%8=k%8+1 by omega,Nat.pow_succ];omega
theorem Pw.put{f:Nat->Nat}{k:Nat}(h:Pw f k)(v:Nat):∀i,Pw (PF f k v i) (k+i)
 |0=>h
 |i+1=>(Pw.put h v i).step (Nat.mod_lt _ (by omega))
theorem Hb(w:aq)(p g L k:Nat)(f:Nat->Nat)(x:Nat)(y:Int)(hy:y=(x:Int))(hx:x<2)(hp:rm w p g L k)(ad:Row w g L f)(al:p≠g)(hk:k<8*L)(hL:L<=2000000)(hf:Pw f k):
  aw prog 80 #[ag (some ⟨p,0,none⟩),ae .u32 y] w fun e w'=>e=ao (.tuple #[])/\rm w' p g L (k+1)/\Row w' g L (jQ f k x)/\∀B,B<=p->B<=g->aR B w w':=by
 subst hy
 refine(Ha w p g L k f x hx hp ad al hk hL hf.2.2).mono ?_
 rintro e w' ⟨rfl,rfl⟩
 refine⟨rfl,?_,?_,fun B h1 h2=>((gC.setCell h2 _).setCell h1 _).drew⟩
 ·have h1:rm (w.setCell ⟨g,k/8,none⟩ (ae .u8 ((f (k/8)+x*2^(k%8):Nat):Int))) p g L k:=(Below.heap_setCell w ⟨g,k/8,none⟩ _ p al).trans hp;show(World.setCell _ _ _).heap[p]?=_
  unfold rm at h1;simp[World.setCell,Array.getElem?_modify]at h1⊢;simp[h1]
 ·exact(ad.set (k/8) _).other (p:=⟨p,1,none⟩) (fun e=>al e.symm) _
theorem Hc(w:aq)(A:Option au)(n c:Nat)(f:Nat->Nat)(k m L v:Nat)(hr:gE w w.heap.size A n f)(aT:Pw (gP n f) k)(hk:k<=8388608)(hm:m<=32)(hn:n<=L)(hL:L=(k+m+7)/8)(hv:v<4294967296):
  aw prog 62 #[ah #[af A n c,ae aj (k:Int)],ae .u32 (v:Int),ae aj (m:Int)] w fun e w'=>∃g,e=ao (ah #[af (some ⟨g,0,none⟩) L L,ae aj ((k+m:Nat):Int)])/\
   w.heap.size<=g/\aR w.heap.size w w'/\Row w' g L (PF (gP n f) k v m):=by
 have aW:L<=2000000:=by omega
 have aY:k+m<=8*L:=by omega
 have HL:=fX hL
 have HR:=fX hr
 have HC:=fX aT
 clear hL hr aT
 go_enter func62,ntmps62
 go_wp2_with fail
 refine(G8 _ A n c f k m L (HR.out.below ((gC.alloc fZ _).alloc (by simp) _) fZ|>.more (by simp;omega)) hk (by omega) hn HL.out).mono ?_
 rintro e w2 ⟨rfl,hb,ad⟩
 have HB:=fX hb
 have aU:=fX ad
 have aX:=ad.lt
 simp only[World.size_alloc]at aX
 clear hb ad
 go_wp2
 go_loopw [13] (fun i wr=>∃j:Nat,j<=m/\i=ae aj j/\rm wr w2.heap.size (w.heap.size+1+1+1+1) L (k+j)/\Row wr (w.heap.size+1+1+1+1) L (PF (gP n f) k v j)/\aR (w.heap.size+1+1) w2 wr) (fun i _=>m-(aP i).toNat)
 case atStart=>
  refine⟨0,Nat.zero_le _,rfl,aG _ _,?_,?_⟩
  ·exact(Row.alloc (by simpa using aU.out) _:Row _ _ L (gP n f))
  ·exact gC.alloc (by omega) _
 case round=>
  obtain⟨j,hj,rfl,hp,ad,al⟩:=hrel;have HP:=fX hp;have HW:=fX ad;have av:=fX al;clear hp ad al;by_cases aV:j<m
  ·go_wp2_with fail
   refine(Hb _ _ _ L (k+j) _ (v/2^j%2) _ (zG v j hv) (Nat.mod_lt _ (by omega)) HP.out HW.out (by omega) (by omega) aW (HC.out.put v j)).mono ?_;rintro e w5 ⟨rfl,h1,h2,h3⟩;have h4:=fX (av.out.trans (h3 (w.heap.size+1+1) (by omega) (by omega)));have h5:=fX h1;have h6:=fX h2;clear h1 h2 h3;go_wp2;go_roundw
   case rel=>exact⟨j+1,aV,by go_num,h5.out,h6.out,h4.out⟩
   case measure=>simp[aP];omega
  ·obtain rfl:j=m:=by omega
   have d0:wr.cell? ⟨w2.heap.size,0,none⟩=some (af (some ⟨w.heap.size+1+1+1+1,0,none⟩) L L):=by rw[aH _ _ 0 _ 120 (0,0) HP.out];rfl
   have d1:wr.cell? ⟨w2.heap.size,1,none⟩=some (ae aj ((k+j:Nat):Int)):=by rw[aH _ _ 1 _ 120 (0,0) HP.out];rfl
   obtain⟨hc,aS⟩:=wE (HB.out.mono (B':=w.heap.size+1+1) (by simp)|>.trans av.out);have k2:=(hc (w.heap.size+1) 0 (by omega)).trans (by go_simp:_=some (Value.slice none 0 0));have k3:=(hc (w.heap.size+1) 1 (by omega)).trans (by go_simp:_=some (Value.int aj 0));have k4:=(aS (w.heap.size+1) 0 (by omega)).trans (by go_simp:_=false);have k5:=(aS (w.heap.size+1) 1 (by omega)).trans (by go_simp:_=false);clear hc aS;go_wp2;refine aK (v:=ah #[af (some ⟨w.heap.size+1+1+1+1,0,none⟩) L L,ae aj ((k+j:Nat):Int)]) ?_ rfl ⟨_,rfl,by omega,?_,?_⟩
   ·simp[results,Tryz.results62,go_sem,k2,k3]
   ·exact(((gC.alloc fZ _).alloc (by simp) _).trans ((HB.out.mono (by simp;omega)).trans (av.out.mono (by omega)))).setCell (by simp) _|>.setCell (by simp) _
   ·exact(HW.out.other (p:=⟨w.heap.size+1,0,none⟩) (by simp;omega) _).other (p:=⟨w.heap.size+1,1,none⟩) (by simp;omega) _
def Pq:List (Nat×Nat)->Nat
 |[]=>0
 |x::l=>x.2+Pq l
def gK(f:Nat->Nat)(k:Nat):List (Nat×Nat)->Nat->Nat
 |[]=>f
 |x::l=>gK (PF f k x.1 x.2) (k+x.2) l
theorem iQ:∀a b,Pq (a++b)=Pq a+Pq b
 |[],b=>by simp[Pq]
 |x::a,b=>by simp only[List.cons_append,Pq,iQ a b];omega
theorem lI(f:Nat->Nat)(k:Nat):∀a b,gK f k (a++b)=gK (gK f k a) (k+Pq a) b
 |[],b=>by simp[Pq,gK]
 |x::a,b=>by
  simp only[List.cons_append,Pq,gK];rw[lI _ _ a b,Nat.add_assoc]
theorem Pw.rp{f:Nat->Nat}{k:Nat}(h:Pw f k):∀l,Pw (gK f k l) (k+Pq l)
 |[]=>h
 |x::l=>by
  have:=(h.put x.1 x.2).rp l;simp only[gK,Pq];rwa[Nat.add_assoc]at this
def jr(F:Nat->Nat)(n i:Nat):Nat×Nat:=(PI (iO F n i) (F i),F i)
def jt(t:gA):Nat:=if t.n=0 then t.x else(ji t.n).toNat
def kV(t:gA):Nat:=(iV t.d).toNat
def iR(F:Nat->Nat)(n:Nat)(G:Nat->Nat)(m:Nat)(t:gA):List (Nat×Nat):=
 if t.n=0 then[jr F n t.x]else[jr F n (ji t.n).toNat,((kC t.n).toNat,(kq t.n).toNat),jr G m (iV t.d).toNat,((kL t.d).toNat,(kr t.d).toNat)]
def jh(F:Nat->Nat)(n:Nat)(G:Nat->Nat)(m:Nat)(l:List gA):List (Nat×Nat):=l.flatMap (iR F n G m)++[jr F n 256]
def jG(i:Nat):Nat:=if 256<=i/\i<=279 then 7 else if 144<=i/\i<=255 then 9 else 8
def kW(_:Nat):Nat:=5
def jD(i:Nat):Nat:=[16,17,18,0,8,7,9,6,10,5,11,4,12,3,13,2,14,1,15].getD i 0
def iF(l:List gA)(i:Nat):Nat:=(if i=256 then 1 else 0)+l.countP fun t=>decide (jt t=i)
def ix(l:List gA)(i:Nat):Nat:=l.countP fun t=>decide (t.n≠0/\kV t=i)
theorem Bu(l:List gA)(t:gA)(i:Nat):iF (l++[t]) i=iF l i+if jt t=i then 1 else 0:=by
 unfold iF;rw[List.countP_append,List.countP_singleton];simp only[decide_eq_true_eq];omega
theorem uD(l:List gA)(t:gA)(i:Nat):ix (l++[t]) i=ix l i+if t.n≠0/\kV t=i then 1 else 0:=by
 unfold ix;rw[List.countP_append,List.countP_singleton];simp only[decide_eq_true_eq]
theorem rq(l:List gA)(i:Nat):iF l i<=l.length+1:=by
 have:=List.countP_le_length (p:=fun t=>decide (jt t=i)) (l:=l);unfold iF;split<;>omega
theorem qu(l:List gA)(i:Nat):ix l i<=l.length:=List.countP_le_length
theorem xh{l:List gA}{t:gA}(h:t∈l):0<iF l (jt t):=by
 have:0<l.countP fun u=>decide (jt u=jt t):=List.countP_pos_iff.2 ⟨t,h,by simp⟩
 unfold iF;omega
theorem xi{l:List gA}{t:gA}(h:t∈l)(hn:t.n≠0):0<ix l (kV t):=List.countP_pos_iff.2 ⟨t,h,by simp[hn]⟩
def jR(c:Nat->Nat)(n:Nat):List Int:=(List.range n).map fun i=>((c i:Nat):Int)
theorem lT(c:Nat->Nat)(n:Nat):(jR c n).length=n:=by simp[jR]
theorem ss(c:Nat->Nat){n i:Nat}(h:i<n):(jR c n).getD i 0=((c i:Nat):Int):=by
 unfold jR;rw[List.getD_eq_getElem?_getD];simp[h]
theorem Bv(c:Nat->Nat){n i:Nat}(h:i<n):gB (jR c n) i=c i:=by unfold gB;rw[ss c h];rfl
theorem xj{c:Nat->Nat}{n:Nat}{gy:Nat}(h1:1<=gy)(h2:gy<=15)(hn:n<=320)(ad:n<=2^gy)(hc:∀i,c i<=1073741824):mP (jR c n) (gy:Int)=0:=by
 unfold mP;rw[lT,if_neg (by omega),if_neg (by omega),if_neg,if_neg]
 ·have:=oO (gB (jR c n)) n;rw[Int.toNat_natCast];omega
 ·unfold qq;simp only[decide_eq_true_eq];rintro⟨j,hj,hb⟩;rw[ss c hj]at hb;unfold qp at hb;simp only[decide_eq_true_eq]at hb;have:=hc j;omega
def lN(c:Nat->Nat)(n gy:Nat):Nat->Nat:=nx (jR c n) (gy:Int)
theorem Bx(c:Nat->Nat)(n gy i:Nat):lN c n gy i<256:=si _ _ _
theorem su{c:Nat->Nat}{n:Nat}{gy:Nat}(h1:1<=gy)(h2:gy<=15)(hn:n<=320)(ad:n<=2^gy)(hc:∀i,c i<=1073741824):
  (∀i,lN c n gy i<=gy)/\Pz (lN c n gy) n<=32768/\(∀i,i<n->(0<lN c n gy i↔0<c i))/\lN c n gy=iM (gB (jR c n)) n gy/\nI (gB (jR c n)) n<=2^gy:=by
 have ha:=xj h1 h2 hn ad hc
 obtain⟨h3,h4,h5⟩:=AU ha
 rw[lT]at h4 h5
 obtain⟨_,_,_,_,g5,_⟩:=tc h4
 have al:nI (gB (jR c n)) n<=2^gy:=Nat.le_trans (oO _ _) ad
 have e:lN c n gy=iM (gB (jR c n)) n gy:=by
  funext i;unfold lN nx;rw[if_pos ha,lT,Int.toNat_natCast]
 refine⟨fun i=>by rw[e];exact wO _ (by omega) i,g5,fun i hi=>?_,e,al⟩
 rw[e]
 constructor
 ·intro g;rcases Nat.eq_zero_or_pos (c i)with h0|h0
  ·unfold iM at g;rw[Bv c hi,if_pos h0]at g;omega
  ·exact h0
 ·intro g;exact(wN (by omega) al hi (by rw[Bv c hi];exact g)).1
def PE(f:Nat->Nat)(least:Nat):Nat->Nat
 |0=>least
 |k+1=>if least<=k/\f k≠0 then k+1 else PE f least k
theorem sx(f:Nat->Nat)(least:Nat):∀n,least<=PE f least n
 |0=>Nat.le_refl _
 |k+1=>by
  simp only[PE];split
  ·omega
  ·exact sx f least k
theorem qv(f:Nat->Nat)(least:Nat):∀n,least<=n->PE f least n<=n
 |0,h=>h
 |k+1,h=>by
  simp only[PE];split
  ·omega
  ·rename_i g;rcases Nat.eq_or_lt_of_le h with e|e
   ·have:∀j,j<=k->PE f least j=least:=by
     intro j;induction j with
     |zero=>intro _;rfl
     |succ j ih=>intro hj;simp only[PE];rw[if_neg (by omega)];exact ih (by omega)
    rw[this k fZ];omega
   ·exact Nat.le_trans (qv f least k (by omega)) (by omega)
theorem uE(f:Nat->Nat)(least:Nat):∀n i,i<n->f i≠0->i<PE f least n
 |0,i,h,_=>absurd h (by omega)
 |k+1,i,h,hf=>by
  simp only[PE];split
  ·omega
  ·rename_i g;rcases Nat.eq_or_lt_of_le (Nat.le_of_lt_succ h)with e|e
   ·subst e;have:=sx f least i;have:¬least<=i:=fun h2=>g ⟨h2,hf⟩
    omega
   ·exact uE f least k i e hf
theorem By(f:Nat->Nat){a b:Nat}(h:a<=b):Pz f a<=Pz f b:=by
 induction b with
 |zero=>rw[show a=0 by omega];exact Nat.le_refl _
 |succ b ih=>
  rcases Nat.eq_or_lt_of_le h with h|h
  ·subst h;exact Nat.le_refl _
  ·exact Nat.le_trans (ih (by omega)) (Nat.le_add_right _ _)
def iP(l:List gA):Nat->Nat:=lN (iF l) 286 15
def iS(l:List gA):Nat->Nat:=lN (ix l) 30 15
def nA(l:List gA):Nat:=PE (iP l) 257 286
def nB(l:List gA):Nat:=PE (iS l) 1 30
def nN(l:List gA):Nat->Nat:=cat (iP l) (nA l) (iS l)
def ju(l:List gA):List (Int×Int):=kU (nN l) (nA l+nB l) 0
def ku(l:List (Int×Int))(i:Nat):Nat:=l.countP fun r=>decide (r.1=(i:Int))
theorem Bz(l:List (Int×Int))(r:Int×Int)(i:Nat):ku (l++[r]) i=ku l i+if r.1=(i:Int)then 1 else 0:=by
 unfold ku;rw[List.countP_append,List.countP_singleton];simp only[decide_eq_true_eq]
theorem qw(l:List (Int×Int))(i:Nat):ku l i<=l.length:=List.countP_le_length
def jJ(l:List gA):Nat->Nat:=lN (ku (ju l)) 19 7
def jK(l:List gA)(i:Nat):Nat:=jJ l (jD i)
def nR(l:List gA):Nat:=PE (jK l) 4 19
def jS(F:Nat->Nat)(r:Int×Int):List (Nat×Nat):=[jr F 19 r.1.toNat,(r.2.toNat,(iU r.1).toNat)]
def kM(l:List gA):List (Nat×Nat):=
 [(nA l-257,5),(nB l-1,5),(nR l-4,4)]++((List.range (nR l)).map fun i=>(jK l i,3))++(ju l).flatMap (jS (jJ l))
def jl(a:Nat):Nat:=(8-(a+3)%8)%8
def qx(a n:Nat)(r:Nat->Nat):List (Nat×Nat):=List.replicate (jl a) (0,1)++[(n,16),(65535-n,16)]++((List.range n).map fun i=>(r i,8))
def gN(a kind n:Nat)(r:Nat->Nat)(l:List gA)(last:Bool):List (Nat×Nat):=
 [(if last then 1 else 0,1),(kind,2)]++(if kind=1 then jh jG 288 kW 32 l else if kind=2 then kM l++jh (iP l) (nA l) (iS l) (nB l) l else qx a n r)
def mc(kind n:Nat)(l:List gA):Int:=if 2<kind then 2 else if 65535<n\/65535<l.length then 4 else if l.all gS then 0 else 8
theorem lU{t:gA}(h:gS t=true)(hx:t.x<256):jt t<286/\(t.n=0->jt t=t.x)/\(t.n≠0->ny t.n=0/\nz t.d=0/\257<=jt t/\kV t<30):=by
 unfold gS at h;simp only[decide_eq_true_eq]at h;unfold jt kV;by_cases h0:t.n=0
 ·rw[if_pos h0];exact⟨by omega,fun _=>rfl,fun g=>absurd h0 g⟩
 ·rw[if_neg h0];obtain⟨_,_,h3,h4,h5,h6⟩:t.n≠0/\t.x=0/\3<=t.n/\t.n<=258/\1<=t.d/\t.d<=32768:=by
   rcases h with⟨a,_⟩|h
   ·exact absurd a h0
   ·exact h
  have e1:ny t.n=0:=if_pos ⟨h3,h4⟩;have e2:nz t.d=0:=if_pos ⟨h5,h6⟩;have a1:=(sk (T:=ib) (n:=t.n.toNat) (show 3<=t.n.toNat by omega) 29 (by omega)).1;have a2:=(sk (T:=il) (n:=t.d.toNat) (show 1<=t.d.toNat by omega) 30 (by omega)).1;have s1:ji t.n=((257+pf t.n:Nat):Int):=if_pos ⟨h3,h4⟩;have s2:iV t.d=((pg t.d:Nat):Int):=if_pos ⟨h5,h6⟩;have b1:pf t.n<29:=a1;have b2:pg t.d<30:=a2;refine⟨by omega,fun g=>absurd g h0,fun _=>⟨e1,e2,by omega,by omega⟩⟩
theorem mB(l:List gA)(hl:l.length<=1000000):
  (∀i,iP l i<=15)/\(∀i,iS l i<=15)/\Pz (iP l) (nA l)<=32768/\Pz (iS l) (nB l)<=32768/\257<=nA l/\nA l<=286/\1<=nB l/\nB l<=30/\
  (∀i,i<286->0<iF l i->i<nA l/\0<iP l i)/\(∀i,i<30->0<ix l i->i<nB l/\0<iS l i):=by
 obtain⟨a1,a2,a3,_,_⟩:=su (c:=iF l) (n:=286) (gy:=15) (by omega) (by omega) (by omega) (by decide) (fun i=>by have:=rq l i;omega)
 obtain⟨b1,b2,b3,_,_⟩:=su (c:=ix l) (n:=30) (gy:=15) (by omega) (by omega) (by omega) (by decide) (fun i=>by have:=qu l i;omega)
 have c1:=sx (iP l) 257 286
 have c2:=qv (iP l) 257 286 (by omega)
 have d1:=sx (iS l) 1 30
 have d2:=qv (iS l) 1 30 (by omega)
 refine⟨a1,b1,Nat.le_trans (By _ c2) a2,Nat.le_trans (By _ d2) b2,c1,c2,d1,d2,fun i hi h=>?_,fun i hi h=>?_⟩
 ·have:=(a3 i hi).2 h;exact⟨uE _ _ _ i hi (by unfold iP;omega),this⟩
 ·have:=(b3 i hi).2 h;exact⟨uE _ _ _ i hi (by unfold iS;omega),this⟩
theorem uF(l:List gA)(hl:l.length<=1000000)(i:Nat):nN l i<=15:=by
 obtain⟨h1,h2,_⟩:=mB l hl;unfold nN cat;split
 ·exact h1 _
 ·exact h2 _
def gu(w:aq)(B:Nat)(A:Option au)(n c:Nat)(f:Nat->Nat):Prop:=gE w B A n f/\(A=none->c=0)/\n<=c/\c<=maxLen
theorem gu.below{w w':aq}{B B' n c:Nat}{A:Option au}{f:Nat->Nat}(h:gu w B A n c f)(hb:aR B' w w')(hB:B<=B'):gu w' B A n c f:=⟨h.1.below hb hB,h.2⟩
theorem gu.more{w:aq}{B B' n c:Nat}{A:Option au}{f:Nat->Nat}(h:gu w B A n c f)(hB:B<=B'):gu w B' A n c f:=⟨h.1.more hB,h.2⟩
theorem gu.nil(w:aq)(B:Nat)(f:Nat->Nat)(hf:∀j,f j<256):gu w B none 0 0 f:=⟨⟨hf,fun h=>by omega⟩,fun _=>rfl,Nat.le_refl _,by unfold maxLen;omega⟩
theorem gu.gR{w:aq}{base n c:Nat}{A:Option au}{f:Nat->Nat}(h:w.ownsRow base 5 1 (af A n c) n (gD n f))(hf:∀j,f j<256):gu w w.heap.size A n c f:=by
 refine⟨gE.gR h hf,?_⟩;rcases h.2 with⟨hv,h0⟩|⟨g,cap,cur,hv,_,_,h1,h2,_⟩
 ·injection hv with h3 h4 h5
  exact⟨fun _=>h5,by omega,by unfold maxLen;omega⟩
 ·injection hv with h3 h4 h5
  exact⟨(fun h=>by rw[h]at h3;cases h3),by omega,by omega⟩
theorem xk{H:Type}{enc:aB×ax->H}{W:aq}{base:Nat}{sp:Nat->Bool}{hd:Bool}{a:Option au}{len cap:Nat}{d:DataW H}{p:List MemPlace}
  (h:∃fuel,DataW.trod enc prog W base sp hd fuel 22 (Value.slice a len cap).cells.toList=some (d,p)):∃f,gu W W.heap.size a len cap f:=by
 obtain⟨f,h1,h2,h3,h4⟩:=FK h
 exact⟨f,h1,h2,h3,h4⟩
theorem gu.drop{w:aq}{B n c p:Nat}{a:au}{A2:Option au}{f:Nat->Nat}(h:gu w B (some a) n c f)(hp:p<=n)(hA:(if c=p then some a else some (a.add p))=A2):gu w B A2 (n-p) (c-p) (fun j=>f (j+p)):=by
 obtain⟨h1,h2,h3,h4⟩:=h;refine⟨⟨fun j=>h1.1 _,fun hn=>?_⟩,fun h=>?_,by omega,by omega⟩
 ·obtain⟨b,o,e,hb,ad⟩:=h1.2 (by omega);cases e
  rw[if_neg (by omega)]at hA;have e:(⟨b,o,none⟩:au).add p=⟨b,o+p,none⟩:=by unfold Addr.add;split<;>simp_all
  rw[e]at hA;refine⟨b,o+p,hA.symm,hb,fun j hj=>?_⟩;have:=ad (j+p) (by omega);rw[show o+p+j=o+(j+p) by omega];exact this
 ·rw[h]at hA;split at hA<;>cases hA
theorem gu.drew{w:aq}{B n c:Nat}{A:Option au}{f:Nat->Nat}(h:gu w B A n c f):gu w.drew B A n c f:=h
theorem Hd(w:aq)(n:Nat)(hn:n<=1000000000000):
  aw prog 60 #[af none 0 0,ae aj (n:Int)] w fun e w'=>∃A c,e=ao (af A 0 c)/\w'.ownsRow w.heap.size 5 1 (af A 0 c) 0 []/\aR w.heap.size w w':=by
 rcases Nat.eq_zero_or_pos n with h0|h0
 ·subst h0;go_enter func60,ntmps60
  go_wp2;go_ret;exact⟨none,0,rfl,World.ownsRow_nil _ _ _ _,Below.refl _ _⟩
 ·obtain⟨i0,hi,aS,aW,aT⟩:=info_parts oM;have ad:=Lib.run_append_nil_zeros (P:=prog) w 22 3 22 5 i0 (ae .u8 0) aj aj underlying22 underlying3 hi aS n h0 (by omega) (by omega) (by rw[aT];omega);have aX:=grownCap_ge w n 0 5;have hle:=grownCap_le_maxLen w n 0 5 (by unfold maxLen;omega);obtain⟨c,hc⟩:=fY (grownCap w n 0 5);rw[<-hc]at ad aX hle;obtain⟨Z,hZ⟩:=fY ((Builtin.zeroCells (Value.int .u8 0).cells n++Builtin.zeroCells (Value.int .u8 0).cells (c-n)));rw[<-hZ]at ad;have aU:Z.size=c*1:=by rw[hZ];simp[size_zeroCells,Value.cells];omega
  have al:=World.ownsRow_made (base:=w.heap.size) (e:=5) (size:=1) w.drew Z c fZ hle aU;have av:aR w.heap.size w (w.drew.alloc (ak Z 5)):=(Below.refl w.heap.size w).drew.alloc fZ _;obtain⟨w1,aV⟩:=fY (w.drew.alloc (ak Z 5));rw[<-aV]at ad al av;have HR:=fX ad;have HO:=fX al;have HB:=fX av
  unfold maxLen at hle;clear ad al av hZ aU aV hc hi aS aW aT;have hp:(0:Int)<(n:Int):=by omega
  go_enter func60,ntmps60
  go_wp2_with (at_builtin;refine Lib.wpList_append_run _ rfl _ _ _ _ rfl _ _ rfl rfl _ _ HR.out ?_)
  go_ret;exact⟨_,_,rfl,HO.out,HB.out⟩
theorem sy{n:Nat}{f g:Nat->Nat}(h:∀j,j<n->f j=g j):gD n f=gD n g:=by
 unfold gD;exact List.map_congr_left fun j hj=>by rw[h j (List.mem_range.1 hj)]
theorem He(w:aq)(base:Nat)(A:Option au)(n c:Nat)(F:Nat->Nat)(hF:∀j,F j<256)(al:w.ownsRow base 5 1 (af A n c) n (gD n F))(x:Nat)(hx:x=F n)(hn:n<=1000000000)(ad:base<=w.heap.size):
  ∃A' c' w',(Builtin.append_ #[22,22] 22 #[af A n c,af (some ⟨w.heap.size,0,none⟩) 1 1]).run prog (w.alloc (ak #[ae .u8 (x:Int)] 5))=.ok (af A' (n+1) c') w'/\
   w'.ownsRow base 5 1 (af A' (n+1) c') (n+1) (gD (n+1) F)/\aR base w w':=by
 subst hx
 have av:aR base w (w.alloc (ak #[ae .u8 (F n:Int)] 5)):=(Below.refl base w).alloc ad _
 have hr:gE (w.alloc (ak #[ae .u8 (F n:Int)] 5)) (w.alloc (ak #[ae .u8 (F n:Int)] 5)).heap.size (some ⟨w.heap.size,0,none⟩) 1 (fun _=>F n):=
  ⟨fun _=>hF n,fun _=>⟨w.heap.size,0,rfl,by simp,fun j hj=>by
   obtain rfl:j=0:=by omega
   rw[aH _ _ _ _ _ (0,0) (aG w _)];rfl⟩⟩
 obtain⟨A',c',w',h1,h2,h3⟩:=sd (w.alloc (ak #[ae .u8 (F n:Int)] 5)) base _ (af A n c) n F (al.alloc _) (some ⟨w.heap.size,0,none⟩) 1 1 (fun _=>F n) hr (by omega) 22 (fun h=>by cases h) (Nat.le_trans ad av.size)
 refine⟨A',c',w',h1,?_,av.trans h3⟩
 rw[<-sy (f:=cat F n (fun _=>F n)) (g:=F)]
 ·exact h2
 ·intro j hj;unfold cat;split
  ·rfl
  ·rw[show j=n by omega]
def PG(n:Nat->Nat):Nat->Nat
 |0=>0
 |k+1=>PG n k+n k
def nO(n:Nat->Nat)(f:Nat->Nat->Nat):Nat->Nat->Nat
 |0,_=>0
 |k+1,j=>cat (nO n f k) (PG n k) (f k) j
theorem BA{n:Nat->Nat}{f:Nat->Nat->Nat}(hf:∀i j,f i j<256):∀k j,nO n f k j<256
 |0,_=>by show 0<256;omega
 |k+1,j=>by show cat _ _ _ _<256;exact zH (BA hf k) (hf k) j
theorem uG(n:Nat->Nat){a b:Nat}(h:a<=b):PG n a<=PG n b:=by
 induction h with
 |refl=>exact Nat.le_refl _
 |step _ ih=>exact Nat.le_trans ih (Nat.le_add_right _ _)
def P5(w:aq)(B:Nat)(A:Option au)(k:Nat)(n:Nat->Nat)(f:Nat->Nat->Nat):Prop:=
 0<k->∃b o,A=some ⟨b,o,none⟩/\b<B/\∀i,i<k->∃Ai ci,w.cell? ⟨b,o+i,none⟩=some (af Ai (n i) ci)/\gE w B Ai (n i) (f i)/\(Ai=none->ci=0)
theorem P5.below{w w':aq}{B B' k:Nat}{A:Option au}{n:Nat->Nat}{f:Nat->Nat->Nat}(h:P5 w B A k n f)(hb:aR B' w w')(hB:B<=B'):P5 w' B A k n f:=fun hk=>by
 obtain⟨b,o,h1,h2,h3⟩:=h hk;refine⟨b,o,h1,h2,fun i hi=>?_⟩;obtain⟨Ai,ci,q1,q2,q3⟩:=h3 i hi;exact⟨Ai,ci,by rw[hb.cell (p:=⟨b,o+i,none⟩) (by show b<B';omega)];exact q1,q2.below hb hB,q3⟩
theorem Hf(w:aq)(A:Option au)(k c:Nat)(n:Nat->Nat)(f:Nat->Nat->Nat)(hf:∀i j,f i j<256)(hr:P5 w w.heap.size A k n f)(hk:k<=1000000)(hs:PG n k<=1000000000):
  aw prog 45 #[af A k c] w fun e w'=>∃A' c',e=ao (af A' (PG n k) c')/\gu w' w'.heap.size A' (PG n k) c' (nO n f k)/\aR w.heap.size w w'/\(∀b,A'.map (·.block)=some b->w.heap.size<=b):=by
 have HR:=fX hr;have HF:=fX hf;have HS:=fX hs
 obtain⟨N,hN⟩:=fY (PG n k)
 rw[<-hN]at hs⊢
 have HN:=fX hN
 clear hr hf hN
 go_enter func45,ntmps45
 go_wp2_with fail
 go_loopw [3,11] (fun s i wr=>∃j q:Nat,j<=k/\i=ae aj (j:Int)/\s=ae aj (q:Int)/\aQ (q=PG n j)/\w=wr) (fun _ i _=>k-(aP i).toNat)
 case atStart=>exact⟨0,0,Nat.zero_le _,rfl,rfl,fX rfl,rfl⟩
 case round=>
  obtain⟨j,q,hj,rfl,rfl,HQ,rfl⟩:=hrel;by_cases aZ:j<k
  ·have aV:(j:Int)<(k:Int):=by omega
   obtain⟨b,o,rfl,hb,al⟩:=HR.out (by omega);obtain⟨Ai,ci,c1,_,_⟩:=al j aZ;have ad:PG n (j+1)=q+n j:=by rw[HQ.out];rfl
   have av:=uG n (show j+1<=k by omega);have aS:=HS.out;obtain⟨m,hm⟩:=fY (n j);rw[<-hm]at c1 ad;have a5:q+m<=1000000000:=by omega
   have a6:¬((q:Int)+(m:Int)<0):=by omega
   have aT:=fX ad;clear al ad av aS hm;go_wp2;go_roundw
   case rel=>exact⟨j+1,q+m,by omega,by go_num,by go_num,fX aT.out.symm,trivial⟩
   case measure=>simp[aP];omega
  ·obtain rfl:j=k:=by omega
   have aV:¬(j:Int)<(j:Int):=by omega
   have a1:q=N:=by rw[HQ.out,HN.out]
   subst a1;go_wp2_with fail
   refine(Hd _ q (by omega)).mono ?_;rintro e w1 ⟨A1,c1,rfl,aW,aX⟩;have a2:=fX aW;have a3:=fX aX
   clear aW aX;go_wp2_with fail
   go_loopw [6,27] (fun s i wr=>∃(t p:Nat) (At:Option au) (ct:Nat),t<=j/\i=ae aj (t:Int)/\s=af At p ct/\aQ (p=PG n t)/\aQ (wr.ownsRow w.heap.size 5 1 (af At p ct) p (gD p (nO n f t)))/\aQ (aR w.heap.size w wr)) (fun _ i _=>j-(aP i).toNat)
   case atStart=>exact⟨0,0,A1,c1,Nat.zero_le _,rfl,rfl,fX rfl,a2,a3⟩
   case round=>
    obtain⟨t,p,At,ct,ht,rfl,rfl,HP,HO,HB⟩:=hrel;by_cases aY:t<j
    ·have aU:(t:Int)<(j:Int):=by omega
     obtain⟨b,o,rfl,hb,al⟩:=(HR.out.below HB.out fZ) (by omega);obtain⟨Ai,ci,k1,k2,k3⟩:=al t aY;have ad:PG n (t+1)=p+n t:=by rw[HP.out];rfl
     have av:=uG n (show t+1<=j by omega);have aS:=HS.out;obtain⟨A',c',w',r1,r2,r3⟩:=sd wr w.heap.size _ (af At p ct) p _ HO.out Ai (n t) ci (f t) k2 (by omega) 22 k3 HB.out.size;obtain⟨m,hm⟩:=fY (n t);rw[<-hm]at k1 r1 r2 ad;have e1:cat (nO n f t) p (f t)=nO n f (t+1):=by funext x;rw[HP.out];rfl
     rw[e1]at r2;have aT:=fX ad;have R1:=fX r1;have R2:=fX r2;have R3:=fX (HB.out.trans r3)
     clear al ad av aS r1 r2 r3 k2 k3 hm e1;go_wp2_with (at_builtin;refine wpList_append_run rfl (.tmp 31) (.tmp 32) 22 rfl (af At p ct) (af Ai m ci) (af A' (p+m) c') w' rfl rfl R1.out ?_)
     go_roundw
     case rel=>exact⟨t+1,p+m,A',c',by omega,by go_num,rfl,fX aT.out.symm,R2,R3⟩
     case measure=>simp[aP];omega
    ·obtain rfl:t=j:=by omega
     have aU:¬(t:Int)<(t:Int):=by omega
     have a4:p=q:=by rw[HP.out,HN.out]
     subst a4;go_wp2;go_ret;exact⟨At,ct,rfl,gu.gR HO.out (BA HF.out t),HB.out,fun b hb=>by subst hb;exact zJ HO.out b.block rfl⟩
open Go.ChangeShapes Go.WideShapes Go.ChangeAt Go.Joins
def nC:Nat×Nat:=(0,0)
def kE(r:Nat×Nat):List ax:=[ae .u32 (r.1:Int),ae aj (r.2:Int)]
def PA:List (Nat×Nat)->List ax
 |[]=>[]
 |r::l=>kE r++PA l
theorem qy:∀l,(PA l).length=l.length*2
 |[]=>rfl
 |r::l=>by simp only[PA,List.length_append,List.length_cons,qy l];simp[kE];omega
theorem ti:∀l m,PA (l++m)=PA l++PA m
 |[],_=>rfl
 |r::l,m=>by simp[PA,ti l m]
theorem xl:∀(l:List (Nat×Nat)) (j i:Nat),j<l.length->i<2->(PA l)[j*2+i]?=(kE (l.getD j nC))[i]?
 |[],j,i,h,_=>absurd h (by simp)
 |r::l,0,i,_,hi=>by
  simp only[PA,Nat.zero_mul,Nat.zero_add];rw[List.getElem?_append_left (by simpa[kE]using hi)];rfl
 |r::l,j+1,i,h,hi=>by
  simp only[PA];rw[List.getElem?_append_right (by simp[kE];omega)];have e:(j+1)*2+i-(kE r).length=j*2+i:=by simp[kE];omega
  rw[e,xl l j i (by simpa using h) hi];rfl
theorem xm(l:List (Nat×Nat)):∀u∈PA l,u.oneCell'=true:=by
 induction l with
 |nil=>intro u hu;simp[PA]at hu
 |cons r l ih=>
  intro u hu;simp only[PA,List.mem_append]at hu;rcases hu with hu|hu
  ·simp[kE]at hu;rcases hu with rfl|rfl<;>rfl
  ·exact ih u hu
theorem uH:(prog.info? 150).map (fun i=>(i.zero,i.size,i.bytes))=some (some (ah #[ae .u32 0,ae aj 0]),2,16):=by kernel_rfl
theorem Hg:(prog.info? 150).map (·.size)=some 2:=by kernel_rfl
def lJ(w:aq)(B:Nat)(A:Option au)(l:List (Nat×Nat)):Prop:=gX w B 2 A l.length (PA l)
theorem lJ.below{w w':aq}{B B':Nat}{A:Option au}{l:List (Nat×Nat)}(h:lJ w B A l)(hb:aR B' w w')(hB:B<=B'):lJ w' B A l:=gX.below h hb hB
theorem lJ.more{w:aq}{B B':Nat}{A:Option au}{l:List (Nat×Nat)}(h:lJ w B A l)(hB:B<=B'):lJ w B' A l:=gX.more h hB
theorem lJ.gR{w:aq}{base c n:Nat}{A:Option au}{l:List (Nat×Nat)}(h:w.ownsRow base 150 2 (af A n c) n (PA l)):n=l.length/\lJ w w.heap.size A l:=by
 have h1:=gX.gR h;have h2:=h1.1;rw[qy]at h2;obtain rfl:n=l.length:=by omega
 exact⟨rfl,h1⟩
theorem lJ.at{w:aq}{B:Nat}{A:Option au}{l:List (Nat×Nat)}(h:lJ w B A l){k:Nat}(hk:k<l.length):∃b o,A=some ⟨b,o,none⟩/\b<B/\∀j,j<l.length->
  w.cell? ⟨b,o+j*2,none⟩=some (ae .u32 ((l.getD j nC).1:Int))/\w.cell? ⟨b,o+j*2+1,none⟩=some (ae aj ((l.getD j nC).2:Int)):=by
 obtain⟨b,o,h1,h2,h3⟩:=h.2 (by omega)
 refine⟨b,o,h1,h2,fun j hj=>⟨?_,?_⟩⟩
 ·have:=h3 (j*2+0) _ ((xl l j 0 hj (by omega)).trans rfl);simpa using this
 ·have:=h3 (j*2+1) _ ((xl l j 1 hj (by omega)).trans rfl);rw[show o+j*2+1=o+(j*2+1) by omega];exact this
theorem lJ.range{w:aq}{B:Nat}{A:Option au}{l:List (Nat×Nat)}(h:lJ w B A l){b o:Nat}(hA:A=some ⟨b,o,none⟩){j:Nat}(hj:j<l.length):w.rangeAt b (o+j*2) (kE (l.getD j nC)):=by
 obtain⟨b',o',h1,_,h3⟩:=h.at hj;rw[hA]at h1;injection h1 with h1
 injection h1 with hb ho _
 subst hb;subst ho;obtain⟨c0,c1⟩:=h3 j hj;intro i v hv;rcases i with _|_|i
 ·simp[kE]at hv;subst hv;exact c0
 ·simp[kE]at hv;subst hv;exact c1
 ·simp[kE]at hv
theorem rr(w:aq)(base:Nat)(A:Option au)(n c:Nat)(l:List (Nat×Nat))(al:w.ownsRow base 150 2 (af A n c) n (PA l))(r:Nat×Nat)(hn:n<=1000000)(ad:base<=w.heap.size):
  ∃A' c' w',(Builtin.append_ #[111,111] 111 #[af A n c,af (some ⟨w.heap.size,0,none⟩) 1 1]).run prog (w.alloc (ak #[ae .u32 (r.1:Int),ae aj (r.2:Int)] 150))=.ok (af A' (n+1) c') w'/\
   w'.ownsRow base 150 2 (af A' (n+1) c') (n+1) (PA (l++[r]))/\aR base w w':=by
 have av:aR base w (w.alloc (ak #[ae .u32 (r.1:Int),ae aj (r.2:Int)] 150)):=(Below.refl base w).alloc ad _
 obtain⟨A',c',w',h2,o2,b2⟩:=oP (kl:=16) underlying111 uH rfl (by decide) (w.alloc (ak #[ae .u32 (r.1:Int),ae aj (r.2:Int)] 150)) base _ (af A n c) n _ (al.alloc _) _ 1 1 _
  (gX.new w 2 1 #[ae .u32 (r.1:Int),ae aj (r.2:Int)] 150 rfl) (fun u hu=>by simp at hu;rcases hu with rfl|rfl<;>rfl) (by unfold maxLen;omega) (by omega) 111 (fun h=>by cases h) (Nat.le_trans ad av.size)
 refine⟨A',c',w',h2,?_,av.trans b2⟩
 rw[ti]
 exact o2
def kF(w:aq)(B:Nat)(A:Option au)(n c:Nat)(l:List (Nat×Nat)):Prop:=n=l.length/\lJ w B A l/\(A=none->c=0)/\n<=c/\c<=maxLen
theorem kF.below{w w':aq}{B B' n c:Nat}{A:Option au}{l:List (Nat×Nat)}(h:kF w B A n c l)(hb:aR B' w w')(hB:B<=B'):kF w' B A n c l:=⟨h.1,h.2.1.below hb hB,h.2.2⟩
theorem kF.more{w:aq}{B B' n c:Nat}{A:Option au}{l:List (Nat×Nat)}(h:kF w B A n c l)(hB:B<=B'):kF w B' A n c l:=⟨h.1,h.2.1.more hB,h.2.2⟩
theorem kF.gR{w:aq}{base n c:Nat}{A:Option au}{l:List (Nat×Nat)}(h:w.ownsRow base 150 2 (af A n c) n (PA l)):kF w w.heap.size A n c l:=by
 obtain⟨h1,h2⟩:=lJ.gR h;refine⟨h1,h2,?_⟩;rcases h.2 with⟨hv,h0⟩|⟨g,cap,cur,hv,_,_,k1,k2,_⟩
 ·injection hv with h3 h4 h5
  exact⟨fun _=>h5,by omega,by unfold maxLen;omega⟩
 ·injection hv with h3 h4 h5
  exact⟨(fun h=>by rw[h]at h3;cases h3),by omega,by omega⟩
theorem lF{w w':aq}{base:Nat}{e:aB}{sz:Nat}{v:ax}{n:Nat}{xs:List ax}(h:w.ownsRow base e sz v n xs)(hb:aR w.heap.size w w'):w'.ownsRow base e sz v n xs:=by
 obtain⟨h1,h2⟩:=h;refine⟨h1,?_⟩;rcases h2 with h2|⟨g,cap,cur,hv,hg,hh,r⟩
 ·exact .inl h2
 ·exact .inr ⟨g,cap,cur,hv,hg,(hb.block g (Array.getElem?_eq_some_iff.1 hh).1).trans hh,r⟩
theorem xn(w:aq)(base:Nat)(A:Option au)(n c:Nat)(l:List (Nat×Nat))(av:w.ownsRow base 150 2 (af A n c) n (PA l))(m:List (Nat×Nat))(k:Nat)(hk:k=m.length)(cs:Array ax)(al:cs.toList=PA m)(hn:n+k<=1000000)(ad:base<=w.heap.size):
  ∃A' c' w',(Builtin.append_ #[111,111] 111 #[af A n c,af (some ⟨w.heap.size,0,none⟩) k k]).run prog (w.alloc (ak cs 150))=.ok (af A' (n+k) c') w'/\
   w'.ownsRow base 150 2 (af A' (n+k) c') (n+k) (PA (l++m))/\aR base w w':=by
 subst hk
 have aS:aR base w (w.alloc (ak cs 150)):=(Below.refl base w).alloc ad _
 have aT:cs.size=m.length*2:=by rw[<-Array.length_toList,al,qy]
 obtain⟨A',c',w',h2,o2,b2⟩:=oP (kl:=16) underlying111 uH rfl (by decide) (w.alloc (ak cs 150)) base _ (af A n c) n _ (av.alloc _) _ m.length m.length _
  (gX.new w 2 m.length cs 150 aT) (fun u hu=>by rw[al]at hu;exact xm m u hu) (by unfold maxLen;omega) (by omega) 111 (fun h=>by cases h) (Nat.le_trans ad aS.size)
 refine⟨A',c',w',h2,?_,aS.trans b2⟩
 rw[ti,<-al]
 exact o2
theorem xo{ops:Array aA}{o:aA}{a:Act}{w:aq}{K:Act->aq->Prop}{Q:Exit->Act->aq->Prop}{E:Prop}(al:o.guard=none)(f:FuncId)(xs:Array Operand)(ts:Array aB)
  (ho:o.op=.call {callee:=.value (.func f),args:=xs,argTypes:=ts}) (eg:∀args w,(callFunc f args).run prog w=.ok (.enter f args) w) (args:Array ax) (hx:xs.map a.eval=args) {R:Ending->aq->Prop} (hc:aw prog f args w R)
  (h:∀e w',R e w'->∃v,e=ao v/\K (a.put o.dst v) w'):
  if Region.wanted o (aM ops a.tmps)=true then Oper.wp prog o a w K Q else E:=by
 have hw:Region.wanted o (aM ops a.tmps)=true:=by simp[Region.wanted,al]
 rw[if_pos hw]
 unfold Oper.wp
 have ad:(execOp a.eval o).run prog w=.ok (.enter f args) w:=by
  simp[execOp,ho,resolve,invoke,hx,go_sem,eg,Deferred.ofValue]
 rw[ad]
 refine hc.mono fun e w' hr=>?_
 obtain⟨v,rfl,hk⟩:=h e w' hr
 exact hk
theorem Hh{ops:Array aA}{o:aA}{a:Act}{w:aq}{K:Act->aq->Prop}{Q:Exit->Act->aq->Prop}{E:Prop}(hw:Region.wanted o (aM ops a.tmps)=true)(f:FuncId)(xs:Array Operand)(ts:Array aB)
  (ho:o.op=.call {callee:=.value (.func f),args:=xs,argTypes:=ts}) (eg:∀args w,(callFunc f args).run prog w=.ok (.enter f args) w) (args:Array ax) (hx:xs.map a.eval=args) {R:Ending->aq->Prop} (hc:aw prog f args w R)
  (h:∀e w',R e w'->∃v,e=ao v/\K (a.put o.dst v) w'):
  if Region.wanted o (aM ops a.tmps)=true then Oper.wp prog o a w K Q else E:=by
 rw[if_pos hw]
 unfold Oper.wp
 have ad:(execOp a.eval o).run prog w=.ok (.enter f args) w:=by
  simp[execOp,ho,resolve,invoke,hx,go_sem,eg,Deferred.ofValue]
 rw[ad]
 refine hc.mono fun e w' hr=>?_
 obtain⟨v,rfl,hk⟩:=h e w' hr
 exact hk
theorem ph{ops:Array aA}{o:aA}{a:Act}{w:aq}{K:Act->aq->Prop}{Q:Exit->Act->aq->Prop}{E:Prop}(ad:o.guard=none)(ty:aB)(x:Operand)(ho:o.op=.load ty x)(b k:Nat)(hx:a.eval x=ag (some ⟨b,k,none⟩))(cs:List ax)(d:TypeDesc)
  (hS:w.rangeAt b k cs) (hu:prog.underlying ty=some d) (hd:d.isRow=true) (hi:(prog.info? ty).map (·.size)=some cs.length) (h:K (a.put o.dst (ah cs.toArray)) w):
  if Region.wanted o (aM ops a.tmps)=true then Oper.wp prog o a w K Q else E:=by
 rw[if_pos (by simp[Region.wanted,ad])]
 unfold Oper.wp execOp
 simp only[ho,hx,Instr.loadAt,Instr.sureAddr,Sem.run_bind,Sem.run_pure,Result.andThen_ok,run_loadVar_mid w b k ty cs d hS hu hd hi]
 exact h
theorem Hj{w:aq}{X:Nat}{x y p q:ax}(h0:w.cell? ⟨X,0,none⟩=some x)(h1:w.cell? ⟨X,1,none⟩=some y):
  ((w.setCell ⟨X,0,none⟩ p).setCell ⟨X,1,none⟩ q).cell? ⟨X,0,none⟩=some p/\((w.setCell ⟨X,0,none⟩ p).setCell ⟨X,1,none⟩ q).cell? ⟨X,1,none⟩=some q:=
 ⟨(World.cell?_setCell_other _ _ _ _ (by simp)).trans (World.cell?_setCell_same _ _ _ h0),World.cell?_setCell_same _ _ _ ((World.cell?_setCell_other _ _ _ _ (by simp)).trans h1)⟩
theorem oq{ops:Array aA}{o:aA}{a:Act}{w:aq}{K:Act->aq->Prop}{Q:Exit->Act->aq->Prop}{E:Prop}(al:o.guard=none)(ty:aB)(x y:Operand)(ho:o.op=.store ty x y)(ad:o.dst=none)
  (g:Nat) (cells:Array ax) (hx:a.eval x=ag (some ⟨g,0,none⟩)) (hy:a.eval y=ah cells)
  (t:aB) (old:Array ax) (hg:w.heap[g]?=some (ak old t (0,0))) (hi:(prog.info? ty).map (·.size)=some cells.size) (hold:old.size=cells.size) (h1:cells.all (·.oneCell')=true) (h:K a (w.setRow g cells)):
  if Region.wanted o (aM ops a.tmps)=true then Oper.wp prog o a w K Q else E:=by
 rw[if_pos (by simp[Region.wanted,al])]
 unfold Oper.wp execOp
 have:=run_storeVar_row (P:=prog) w g t ty old cells hg hi hold h1
 simp[ho,hx,hy,Instr.storeAt,Instr.sureAddr,this,Result.andThen]
 show K (a.put o.dst undef) (w.setRow g cells)
 rw[show a.put o.dst undef=a by rw[ad];rfl]
 exact h
theorem ou{fn:Func}{t u v x:Tmp}(h:fn.results=#[.tmp t,.tmp u,.tmp v,.tmp x])(tmps:Array ax)(P:az)(w:aq):
  (results fn tmps).run P w=.ok (.tuple #[tmps.getD t undef,tmps.getD u undef,tmps.getD v undef,tmps.getD x undef]) w:=by
 simp[results,h,go_sem]
def kX(T:Nat->Int)(n:Nat):List ax:=(List.range n).map fun i=>ae aj (T i)
def gw(T:Nat->Int)(n:Nat):Array ax:=(kX T n).toArray
theorem ij(T:Nat->Int)(n:Nat):(gw T n).size=n:=by simp[gw,kX]
theorem xp(T:Nat->Int)(n:Nat):(kX T n).length=n:=by simp[kX]
theorem ke(T:Nat->Int)(n:Nat):(gw T n).all (·.oneCell')=true:=
 all_oneCell_toArray fun u hu=>by
  unfold kX at hu;obtain⟨i,_,rfl⟩:=List.mem_map.1 hu;rfl
theorem sB(T:Nat->Int)(n i:Nat)(h:i<n):(gw T n)[i]?=some (ae aj (T i)):=by simp[gw,kX,h]
theorem ru{T T':Nat->Int}{n:Nat}(h:∀i,i<n->T i=T' i):gw T n=gw T' n:=by
 unfold gw kX;congr 1;exact List.map_congr_left fun i hi=>by rw[h i (List.mem_range.1 hi)]
theorem tj(T:Nat->Int)(n i:Nat)(x:Int):(gw T n).setIfInBounds i (ae aj x)=gw (fun k=>if k=i then x else T k) n:=by
 apply Array.ext_getElem?;intro k;rw[Array.getElem?_setIfInBounds,ij];rcases Nat.lt_or_ge k n with h|h
 ·rw[sB _ _ _ h];by_cases e:i=k
  ·subst e;rw[if_pos rfl,if_pos h,sB _ _ _ h,if_pos rfl]
  ·rw[if_neg e,sB _ _ _ h,if_neg (fun g:k=i=>e g.symm)]
 ·have h1:(gw T n)[k]?=none:=Array.getElem?_eq_none (by rw[ij];exact h);have h2:(gw (fun k=>if k=i then x else T k) n)[k]?=none:=Array.getElem?_eq_none (by rw[ij];exact h);rw[h1,h2];by_cases e:i=k
  ·subst e;rw[if_pos rfl,if_neg (by omega)]
  ·rw[if_neg e]
theorem pU{w:aq}{g:Nat}{T:Nat->Int}{n:Nat}{t:aB}(hg:w.heap[g]?=some (ak (gw T n) t (0,0))){i:Nat}(h:i<n):w.cell? ⟨g,i,none⟩=some (ae aj (T i)):=
 (aH w g _ _ _ (0,0) hg).trans (sB T n i h)
theorem pj{w:aq}{g:Nat}{T:Nat->Int}{n:Nat}{t:aB}(hg:w.heap[g]?=some (ak (gw T n) t (0,0))):w.rangeAt g 0 (kX T n):=fun i v hv=>by
 rw[aH w g _ _ _ (0,0) hg,Nat.zero_add];simpa[gw]using hv
theorem ln{B:Nat}{a w:aq}(h:aR B a w){g:Nat}(hp:B<=g)(cs:Array ax):aR B a (w.setRow g cs):=
 ⟨h.os,h.tape,h.output,by rw[size_setRow];exact h.size,fun k hk=>(aL w g k cs (by omega)).trans (h.block k hk)⟩
def iq(w:aq)(z cs:Array ax)(t:aB):aq:=(w.alloc (ak z t)).setRow w.heap.size cs
theorem kY(w:aq)(z cs:Array ax)(t:aB):(iq w z cs t).heap[w.heap.size]?=some (ak cs t (0,0)):=aI _ _ _ _ _ _ (aG w _)
theorem kN(w:aq)(z cs:Array ax)(t:aB):aR w.heap.size w (iq w z cs t):=ln (gC.alloc fZ _) fZ cs
theorem xq(w:aq)(z cs:Array ax)(t:aB):(iq w z cs t).heap.size=w.heap.size+1:=by unfold iq;rw[size_setRow];simp
theorem BB:(prog.info? 217).map (fun i=>(i.zero,i.size))=some (some (ah (gw (fun _=>0) 29)),29):=by kernel_rfl
theorem ox(T:Nat->Int):(prog.info? 217).map (·.size)=some (gw T 29).size:=by rw[ij];kernel_rfl
theorem tk(T:Nat->Int):(prog.info? 217).map (·.size)=some (kX T 29).length:=by rw[xp];kernel_rfl
theorem xt{fn:Func}{p q:Tmp}(h:fn.results=#[.cell p 217,.cell q 217])(tmps:Array ax)(w:aq)(g g2:Nat)(T X:Nat->Int)(hp:tmps.getD p undef=ag (some ⟨g,0,none⟩))(hq:tmps.getD q undef=ag (some ⟨g2,0,none⟩))
  (ht:w.heap[g]?=some (ak (gw T 29) 217 (0,0))) (ad:w.heap[g2]?=some (ak (gw X 29) 217 (0,0))):
  (results fn tmps).run prog w=.ok (.tuple #[ah (gw T 29),ah (gw X 29)]) w:=by
 have al:tmps[p]?.getD undef=ag (some ⟨g,0,none⟩):=by simpa using hp
 have av:tmps[q]?.getD undef=ag (some ⟨g2,0,none⟩):=by simpa using hq
 have hl:=run_loadVar_row (P:=prog) w g 217 217 _ (0,0) _ ht underlying217 rfl (ox T)
 have aS:=run_loadVar_row (P:=prog) w g2 217 217 _ (0,0) _ ad underlying217 rfl (ox X)
 simp[results,h,al,av,asAddr,hl,aS]
theorem Hk:(([3,4,5,6,7,8,9,10,11,13,15,17,19,23,27,31,35,43,51,59,67,83,99,115,131,163,195,227,258]:List Int).map (Value.int aj)).toArray=gw (fun i=>(ib i:Int)) 29:=by kernel_rfl
theorem Hl:(([0,0,0,0,0,0,0,0,1,1,1,1,2,2,2,2,3,3,3,3,4,4,4,4,5,5,5,5,0]:List Int).map (Value.int aj)).toArray=gw (fun i=>(kB i:Int)) 29:=by kernel_rfl
theorem Hm(w:aq):aw prog 144 #[] w fun e w'=>e=ao (.tuple #[ah (gw (fun i=>(ib i:Int)) 29),ah (gw (fun i=>(kB i:Int)) 29)])/\aR w.heap.size w w':=by
 have hz:=(zero_of_info BB).1;obtain⟨T,hT⟩:∃T:Nat->Int,T=fun i=>(ib i:Int):=⟨_,rfl⟩
 obtain⟨X,hX⟩:∃X:Nat->Int,X=fun i=>(kB i:Int):=⟨_,rfl⟩
 obtain⟨Z,hZ⟩:∃Z:Nat->Int,Z=fun _=>0:=⟨_,rfl⟩
 rw[<-hT,<-hX];rw[<-hZ]at hz;have f1:=Hk;have f2:=Hl;rw[<-hT]at f1;rw[<-hX]at f2;obtain⟨b,hb⟩:=fY (w.heap.size);obtain⟨W1,al⟩:=fY ((w.alloc (ak (gw Z 29) 217)).alloc (ak (gw Z 29) 217));obtain⟨W2,av⟩:=fY (iq W1 (gw Z 29) (gw T 29) 217);obtain⟨W3,aS⟩:=fY (iq W2 (gw Z 29) (gw X 29) 217);have s1:W1.heap.size=b+2:=by rw[al,hb];simp
 have s2:W2.heap.size=b+3:=by rw[av,xq,s1]
 have b1:aR w.heap.size w W1:=by rw[al];exact(gC.alloc fZ _).alloc (by simp) _
 have b2:aR W1.heap.size W1 W2:=by rw[av];exact kN _ _ _ _
 have b3:aR W2.heap.size W2 W3:=by rw[aS];exact kN _ _ _ _
 have aY:aR w.heap.size w W3:=(b1.trans (b2.mono (by omega))).trans (b3.mono (by omega));have r0:W1.heap[b]?=some (ak (gw Z 29) 217 (0,0)):=by rw[al,hb];exact(Below.heap_alloc _ _ _ (by simp)).trans (aG w _)
 have r1:W1.heap[b+1]?=some (ak (gw Z 29) 217 (0,0)):=by
  have:=aG (w.alloc (ak (gw Z 29) 217)) (ak (gw Z 29) 217);rw[World.size_alloc,<-al,<-hb]at this;exact this
 have r2:W2.heap[b+2]?=some (ak (gw T 29) 217 (0,0)):=by
  have:=kY W1 (gw Z 29) (gw T 29) 217;rw[s1,<-av]at this;exact this
 have r3:W3.heap[b+3]?=some (ak (gw X 29) 217 (0,0)):=by
  have:=kY W2 (gw Z 29) (gw X 29) 217;rw[s2,<-aS]at this;exact this
 have q0:=(b3.block b (by omega)).trans ((b2.block b (by omega)).trans r0);have q1:=(b3.block (b+1) (by omega)).trans ((b2.block (b+1) (by omega)).trans r1);have q2:=(b3.block (b+2) (by omega)).trans r2;have n2:(W1.alloc (ak (gw Z 29) 217)).heap[w.heap.size+1+1]?=some (ak (gw Z 29) 217 (0,0)):=by
  have:=aG W1 (ak (gw Z 29) 217);rw[s1,hb]at this;exact this
 have v2:(W1.alloc (ak (gw Z 29) 217)).setRow (w.heap.size+1+1) (gw T 29)=W2:=by
  rw[av];unfold iq;rw[s1,hb]
 have aZ:=fX n2;have a1:=fX v2
 have F1:=fX f1;have F2:=fX f2;have a2:=fX al;have a5:=fX av;have a3:=fX aS;have HB:=fX hb;have Q0:=fX q0;have Q1:=fX q1;have Q2:=fX q2;have Q3:=fX r3;have a4:=fX aY;have S1:=fX s1;have S2:=fX s2
 clear n2 v2 f1 f2 al av aS hb q0 q1 q2 r0 r1 r2 r3 b1 b2 b3 aY s1 s2 hT hX hZ;go_enter func144,ntmps144
 go_wp2_with (first
  |(refine wpList_buildFlatArrTo rfl 217 3 29 _ rfl aj [3,4,5,6,7,8,9,10,11,13,15,17,19,23,27,31,35,43,51,59,67,83,99,115,131,163,195,227,258] (some 4) rfl underlying217 (by kernel_rfl) (by kernel_rfl) rfl ?_;rw[F1.out])
  |(refine wpList_buildFlatArrTo rfl 217 3 29 _ rfl aj [0,0,0,0,0,0,0,0,1,1,1,1,2,2,2,2,3,3,3,3,4,4,4,4,5,5,5,5,0] (some 5) rfl underlying217 (by kernel_rfl) (by kernel_rfl) rfl ?_;rw[F2.out])
  |(rw[<-a2.out];refine aC rfl _ _ _ rfl rfl (w.heap.size+1+1) (gw T 29) rfl rfl 217 (gw Z 29) aZ.out (ox _) (by rw[ij,ij]) (ke _ _) ?_;rw[a1.out])
  |(refine aC rfl _ _ _ rfl rfl W2.heap.size (gw X 29) rfl rfl 217 (gw Z 29) (aG W2 _) (ox _) (by rw[ij,ij]) (ke _ _) ?_;change wpList _ _ _ _ _ (iq W2 (gw Z 29) (gw X 29) 217);rw[<-a3.out]))
 have ad:w.heap.size+1≠w.heap.size:=by omega
 have aT:w.heap.size+1+1≠w.heap.size:=by omega
 have aU:w.heap.size+1+1≠w.heap.size+1:=by omega
 have aV:W2.heap.size≠w.heap.size:=by have:=S2.out;have:=HB.out;omega
 have aW:W2.heap.size≠w.heap.size+1:=by have:=S2.out;have:=HB.out;omega
 have q0:W3.drew.heap[w.heap.size]?=some (ak (gw Z 29) 217 (0,0)):=by rw[<-HB.out];exact Q0.out
 have q1:W3.drew.heap[w.heap.size+1]?=some (ak (gw Z 29) 217 (0,0)):=by rw[<-HB.out];exact Q1.out
 have q2:W3.drew.heap[w.heap.size+1+1]?=some (ak (gw T 29) 217 (0,0)):=by rw[<-HB.out];exact Q2.out
 have q3:W3.drew.heap[W2.heap.size]?=some (ak (gw X 29) 217 (0,0)):=by rw[S2.out];exact Q3.out
 have P0:=fX q0;have P1:=fX q1;have P2:=fX q2;have P3:=fX q3;have N1:=fX ad;have N2:=fX aT;have N3:=fX aU;have N4:=fX aV;have N5:=fX aW
 have aX:aQ (∀V:aq,V=(W3.drew.setRow w.heap.size (gw T 29)).setRow (w.heap.size+1) (gw X 29)->V.heap[w.heap.size]?=some (ak (gw T 29) 217 (0,0))/\V.heap[w.heap.size+1]?=some (ak (gw X 29) 217 (0,0))/\aR w.heap.size w V):=fX fun V hV=>by
  have r0:=aI _ _ _ (gw T 29) _ _ q0;have r1:=(aL W3.drew w.heap.size _ (gw T 29) ad).trans q1;rw[hV];refine⟨(aL _ _ _ _ ad.symm).trans r0,aI _ _ _ _ _ _ r1,?_⟩;exact ln (ln (Below.drew a4.out) fZ _) (by omega) _
 clear q0 q1 q2 q3 ad aT aU aV aW;refine wp_region_any (by kernel_rfl) ?_;change wpAny _ _ _ _ _ _ _ (World.drew _);refine wpAny_ready (rs:=[0,1]) (by kernel_rfl) (by simp) ?_;refine AllReady.cons rfl (fun K hK=>?_) (AllReady.cons rfl (fun K hK=>?_) AllReady.nil)
 ·refine ph rfl 217 _ rfl (w.heap.size+1+1) 0 rfl (kX T 29) _ (pj P2.out) underlying217 rfl (tk T) ?_;refine hK _ _ ?_;clear hK K;refine wpAny_ready (rs:=[1,2]) (by kernel_rfl) (by simp) ?_;refine AllReady.cons rfl (fun K hK=>?_) (AllReady.cons rfl (fun K hK=>?_) AllReady.nil)
  ·refine ph rfl 217 _ rfl W2.heap.size 0 rfl (kX X 29) _ (pj P3.out) underlying217 rfl (tk X) ?_;refine hK _ _ ?_;clear hK K;refine wpAny_ready (rs:=[2]) (by kernel_rfl) (by simp) ?_;refine AllReady.cons rfl (fun K hK=>?_) AllReady.nil;refine oq rfl 217 _ _ rfl rfl w.heap.size (gw T 29) rfl rfl 217 (gw Z 29) P0.out (ox _) (by rw[ij,ij]) (ke _ _) ?_;refine hK _ _ ?_;clear hK K;refine wpAny_ready (rs:=[3]) (by kernel_rfl) (by simp) ?_;refine AllReady.cons rfl (fun K hK=>?_) AllReady.nil;refine oq rfl 217 _ _ rfl rfl (w.heap.size+1) (gw X 29) rfl rfl 217 (gw Z 29) ((aL _ _ _ _ N1.out).trans P1.out) (ox _) (by rw[ij,ij]) (ke _ _) ?_;refine hK _ _ ?_;clear hK K;refine wpAny_done (by kernel_rfl) ?_ _;obtain⟨f1,f2,f3⟩:=aX.out _ rfl;obtain⟨V,hV⟩:=fY ((W3.drew.setRow w.heap.size (gw T 29)).setRow (w.heap.size+1) (gw X 29));rw[<-hV]at f1 f2 f3⊢;have G1:=fX f1;have G2:=fX f2;have G3:=fX f3
   clear f1 f2 f3 hV;simp only[Act.put,List.getElem_toArray,List.getElem_cons_zero,List.getElem_cons_succ,List.setIfInBounds_toArray,List.set_cons_zero,List.set_cons_succ];go_wp2;refine aK (xt rfl _ _ w.heap.size (w.heap.size+1) T X rfl rfl G1.out G2.out) rfl ⟨rfl,G3.out⟩
  ·refine oq rfl 217 _ _ rfl rfl w.heap.size (gw T 29) rfl rfl 217 (gw Z 29) P0.out (ox _) (by rw[ij,ij]) (ke _ _) ?_;refine hK _ _ ?_;clear hK K;refine wpAny_ready (rs:=[1]) (by kernel_rfl) (by simp) ?_;refine AllReady.cons rfl (fun K hK=>?_) AllReady.nil;refine ph rfl 217 _ rfl W2.heap.size 0 rfl (kX X 29) _ (pj ((aL _ _ _ _ N4.out).trans P3.out)) underlying217 rfl (tk X) ?_;refine hK _ _ ?_;clear hK K;refine wpAny_ready (rs:=[3]) (by kernel_rfl) (by simp) ?_;refine AllReady.cons rfl (fun K hK=>?_) AllReady.nil;refine oq rfl 217 _ _ rfl rfl (w.heap.size+1) (gw X 29) rfl rfl 217 (gw Z 29) ((aL _ _ _ _ N1.out).trans P1.out) (ox _) (by rw[ij,ij]) (ke _ _) ?_;refine hK _ _ ?_;clear hK K;refine wpAny_done (by kernel_rfl) ?_ _;obtain⟨f1,f2,f3⟩:=aX.out _ rfl;obtain⟨V,hV⟩:=fY ((W3.drew.setRow w.heap.size (gw T 29)).setRow (w.heap.size+1) (gw X 29));rw[<-hV]at f1 f2 f3⊢;have G1:=fX f1;have G2:=fX f2;have G3:=fX f3
   clear f1 f2 f3 hV;simp only[Act.put,List.getElem_toArray,List.getElem_cons_zero,List.getElem_cons_succ,List.setIfInBounds_toArray,List.set_cons_zero,List.set_cons_succ];go_wp2;refine aK (xt rfl _ _ w.heap.size (w.heap.size+1) T X rfl rfl G1.out G2.out) rfl ⟨rfl,G3.out⟩
 ·refine ph rfl 217 _ rfl W2.heap.size 0 rfl (kX X 29) _ (pj P3.out) underlying217 rfl (tk X) ?_;refine hK _ _ ?_;clear hK K;refine wpAny_ready (rs:=[0]) (by kernel_rfl) (by simp) ?_;refine AllReady.cons rfl (fun K hK=>?_) AllReady.nil;refine ph rfl 217 _ rfl (w.heap.size+1+1) 0 rfl (kX T 29) _ (pj P2.out) underlying217 rfl (tk T) ?_;refine hK _ _ ?_;clear hK K;refine wpAny_ready (rs:=[2]) (by kernel_rfl) (by simp) ?_;refine AllReady.cons rfl (fun K hK=>?_) AllReady.nil;refine oq rfl 217 _ _ rfl rfl w.heap.size (gw T 29) rfl rfl 217 (gw Z 29) P0.out (ox _) (by rw[ij,ij]) (ke _ _) ?_;refine hK _ _ ?_;clear hK K;refine wpAny_ready (rs:=[3]) (by kernel_rfl) (by simp) ?_;refine AllReady.cons rfl (fun K hK=>?_) AllReady.nil;refine oq rfl 217 _ _ rfl rfl (w.heap.size+1) (gw X 29) rfl rfl 217 (gw Z 29) ((aL _ _ _ _ N1.out).trans P1.out) (ox _) (by rw[ij,ij]) (ke _ _) ?_;refine hK _ _ ?_;clear hK K;refine wpAny_done (by kernel_rfl) ?_ _;obtain⟨f1,f2,f3⟩:=aX.out _ rfl;obtain⟨V,hV⟩:=fY ((W3.drew.setRow w.heap.size (gw T 29)).setRow (w.heap.size+1) (gw X 29));rw[<-hV]at f1 f2 f3⊢;have G1:=fX f1;have G2:=fX f2;have G3:=fX f3
  clear f1 f2 f3 hV;simp only[Act.put,List.getElem_toArray,List.getElem_cons_zero,List.getElem_cons_succ,List.setIfInBounds_toArray,List.set_cons_zero,List.set_cons_succ];go_wp2;refine aK (xt rfl _ _ w.heap.size (w.heap.size+1) T X rfl rfl G1.out G2.out) rfl ⟨rfl,G3.out⟩
theorem BE:(prog.info? 157).map (fun i=>(i.zero,i.size))=some (some (ah (gw (fun _=>0) 30)),30):=by kernel_rfl
theorem oy(T:Nat->Int):(prog.info? 157).map (·.size)=some (gw T 30).size:=by rw[ij];kernel_rfl
theorem tm(T:Nat->Int):(prog.info? 157).map (·.size)=some (kX T 30).length:=by rw[xp];kernel_rfl
theorem xu{fn:Func}{p q:Tmp}(h:fn.results=#[.cell p 157,.cell q 157])(tmps:Array ax)(w:aq)(g g2:Nat)(T X:Nat->Int)(hp:tmps.getD p undef=ag (some ⟨g,0,none⟩))(hq:tmps.getD q undef=ag (some ⟨g2,0,none⟩))
  (ht:w.heap[g]?=some (ak (gw T 30) 157 (0,0))) (ad:w.heap[g2]?=some (ak (gw X 30) 157 (0,0))):
  (results fn tmps).run prog w=.ok (.tuple #[ah (gw T 30),ah (gw X 30)]) w:=by
 have al:tmps[p]?.getD undef=ag (some ⟨g,0,none⟩):=by simpa using hp
 have av:tmps[q]?.getD undef=ag (some ⟨g2,0,none⟩):=by simpa using hq
 have hl:=run_loadVar_row (P:=prog) w g 157 157 _ (0,0) _ ht underlying157 rfl (oy T)
 have aS:=run_loadVar_row (P:=prog) w g2 157 157 _ (0,0) _ ad underlying157 rfl (oy X)
 simp[results,h,al,av,asAddr,hl,aS]
theorem Hn:(([1,2,3,4,5,7,9,13,17,25,33,49,65,97,129,193,257,385,513,769,1025,1537,2049,3073,4097,6145,8193,12289,16385,24577]:List Int).map (Value.int aj)).toArray=gw (fun i=>(il i:Int)) 30:=by kernel_rfl
theorem Ho:(([0,0,0,0,1,1,2,2,3,3,4,4,5,5,6,6,7,7,8,8,9,9,10,10,11,11,12,12,13,13]:List Int).map (Value.int aj)).toArray=gw (fun i=>(kK i:Int)) 30:=by kernel_rfl
theorem Hp(w:aq):aw prog 145 #[] w fun e w'=>e=ao (.tuple #[ah (gw (fun i=>(il i:Int)) 30),ah (gw (fun i=>(kK i:Int)) 30)])/\aR w.heap.size w w':=by
 have hz:=(zero_of_info BE).1;obtain⟨T,hT⟩:∃T:Nat->Int,T=fun i=>(il i:Int):=⟨_,rfl⟩
 obtain⟨X,hX⟩:∃X:Nat->Int,X=fun i=>(kK i:Int):=⟨_,rfl⟩
 obtain⟨Z,hZ⟩:∃Z:Nat->Int,Z=fun _=>0:=⟨_,rfl⟩
 rw[<-hT,<-hX];rw[<-hZ]at hz;have f1:=Hn;have f2:=Ho;rw[<-hT]at f1;rw[<-hX]at f2;obtain⟨b,hb⟩:=fY (w.heap.size);obtain⟨W1,al⟩:=fY ((w.alloc (ak (gw Z 30) 157)).alloc (ak (gw Z 30) 157));obtain⟨W2,av⟩:=fY (iq W1 (gw Z 30) (gw T 30) 157);obtain⟨W3,aS⟩:=fY (iq W2 (gw Z 30) (gw X 30) 157);have s1:W1.heap.size=b+2:=by rw[al,hb];simp
 have s2:W2.heap.size=b+3:=by rw[av,xq,s1]
 have b1:aR w.heap.size w W1:=by rw[al];exact(gC.alloc fZ _).alloc (by simp) _
 have b2:aR W1.heap.size W1 W2:=by rw[av];exact kN _ _ _ _
 have b3:aR W2.heap.size W2 W3:=by rw[aS];exact kN _ _ _ _
 have aY:aR w.heap.size w W3:=(b1.trans (b2.mono (by omega))).trans (b3.mono (by omega));have r0:W1.heap[b]?=some (ak (gw Z 30) 157 (0,0)):=by rw[al,hb];exact(Below.heap_alloc _ _ _ (by simp)).trans (aG w _)
 have r1:W1.heap[b+1]?=some (ak (gw Z 30) 157 (0,0)):=by
  have:=aG (w.alloc (ak (gw Z 30) 157)) (ak (gw Z 30) 157);rw[World.size_alloc,<-al,<-hb]at this;exact this
 have r2:W2.heap[b+2]?=some (ak (gw T 30) 157 (0,0)):=by
  have:=kY W1 (gw Z 30) (gw T 30) 157;rw[s1,<-av]at this;exact this
 have r3:W3.heap[b+3]?=some (ak (gw X 30) 157 (0,0)):=by
  have:=kY W2 (gw Z 30) (gw X 30) 157;rw[s2,<-aS]at this;exact this
 have q0:=(b3.block b (by omega)).trans ((b2.block b (by omega)).trans r0);have q1:=(b3.block (b+1) (by omega)).trans ((b2.block (b+1) (by omega)).trans r1);have q2:=(b3.block (b+2) (by omega)).trans r2;have n2:(W1.alloc (ak (gw Z 30) 157)).heap[w.heap.size+1+1]?=some (ak (gw Z 30) 157 (0,0)):=by
  have:=aG W1 (ak (gw Z 30) 157);rw[s1,hb]at this;exact this
 have v2:(W1.alloc (ak (gw Z 30) 157)).setRow (w.heap.size+1+1) (gw T 30)=W2:=by
  rw[av];unfold iq;rw[s1,hb]
 have aZ:=fX n2;have a1:=fX v2
 have F1:=fX f1;have F2:=fX f2;have a2:=fX al;have a5:=fX av;have a3:=fX aS;have HB:=fX hb;have Q0:=fX q0;have Q1:=fX q1;have Q2:=fX q2;have Q3:=fX r3;have a4:=fX aY;have S1:=fX s1;have S2:=fX s2
 clear n2 v2 f1 f2 al av aS hb q0 q1 q2 r0 r1 r2 r3 b1 b2 b3 aY s1 s2 hT hX hZ;go_enter func145,ntmps145
 go_wp2_with (first
  |(refine wpList_buildFlatArrTo rfl 157 3 30 _ rfl aj [1,2,3,4,5,7,9,13,17,25,33,49,65,97,129,193,257,385,513,769,1025,1537,2049,3073,4097,6145,8193,12289,16385,24577] (some 4) rfl underlying157 (by kernel_rfl) (by kernel_rfl) rfl ?_;rw[F1.out])
  |(refine wpList_buildFlatArrTo rfl 157 3 30 _ rfl aj [0,0,0,0,1,1,2,2,3,3,4,4,5,5,6,6,7,7,8,8,9,9,10,10,11,11,12,12,13,13] (some 5) rfl underlying157 (by kernel_rfl) (by kernel_rfl) rfl ?_;rw[F2.out])
  |(rw[<-a2.out];refine aC rfl _ _ _ rfl rfl (w.heap.size+1+1) (gw T 30) rfl rfl 157 (gw Z 30) aZ.out (oy _) (by rw[ij,ij]) (ke _ _) ?_;rw[a1.out])
  |(refine aC rfl _ _ _ rfl rfl W2.heap.size (gw X 30) rfl rfl 157 (gw Z 30) (aG W2 _) (oy _) (by rw[ij,ij]) (ke _ _) ?_;change wpList _ _ _ _ _ (iq W2 (gw Z 30) (gw X 30) 157);rw[<-a3.out]))
 have ad:w.heap.size+1≠w.heap.size:=by omega
 have aT:w.heap.size+1+1≠w.heap.size:=by omega
 have aU:w.heap.size+1+1≠w.heap.size+1:=by omega
 have aV:W2.heap.size≠w.heap.size:=by have:=S2.out;have:=HB.out;omega
 have aW:W2.heap.size≠w.heap.size+1:=by have:=S2.out;have:=HB.out;omega
 have q0:W3.drew.heap[w.heap.size]?=some (ak (gw Z 30) 157 (0,0)):=by rw[<-HB.out];exact Q0.out
 have q1:W3.drew.heap[w.heap.size+1]?=some (ak (gw Z 30) 157 (0,0)):=by rw[<-HB.out];exact Q1.out
 have q2:W3.drew.heap[w.heap.size+1+1]?=some (ak (gw T 30) 157 (0,0)):=by rw[<-HB.out];exact Q2.out
 have q3:W3.drew.heap[W2.heap.size]?=some (ak (gw X 30) 157 (0,0)):=by rw[S2.out];exact Q3.out
 have P0:=fX q0;have P1:=fX q1;have P2:=fX q2;have P3:=fX q3;have N1:=fX ad;have N2:=fX aT;have N3:=fX aU;have N4:=fX aV;have N5:=fX aW
 have aX:aQ (∀V:aq,V=(W3.drew.setRow w.heap.size (gw T 30)).setRow (w.heap.size+1) (gw X 30)->V.heap[w.heap.size]?=some (ak (gw T 30) 157 (0,0))/\V.heap[w.heap.size+1]?=some (ak (gw X 30) 157 (0,0))/\aR w.heap.size w V):=fX fun V hV=>by
  have r0:=aI _ _ _ (gw T 30) _ _ q0;have r1:=(aL W3.drew w.heap.size _ (gw T 30) ad).trans q1;rw[hV];refine⟨(aL _ _ _ _ ad.symm).trans r0,aI _ _ _ _ _ _ r1,?_⟩;exact ln (ln (Below.drew a4.out) fZ _) (by omega) _
 clear q0 q1 q2 q3 ad aT aU aV aW;refine wp_region_any (by kernel_rfl) ?_;change wpAny _ _ _ _ _ _ _ (World.drew _);refine wpAny_ready (rs:=[0,1]) (by kernel_rfl) (by simp) ?_;refine AllReady.cons rfl (fun K hK=>?_) (AllReady.cons rfl (fun K hK=>?_) AllReady.nil)
 ·refine ph rfl 157 _ rfl (w.heap.size+1+1) 0 rfl (kX T 30) _ (pj P2.out) underlying157 rfl (tm T) ?_;refine hK _ _ ?_;clear hK K;refine wpAny_ready (rs:=[1,2]) (by kernel_rfl) (by simp) ?_;refine AllReady.cons rfl (fun K hK=>?_) (AllReady.cons rfl (fun K hK=>?_) AllReady.nil)
  ·refine ph rfl 157 _ rfl W2.heap.size 0 rfl (kX X 30) _ (pj P3.out) underlying157 rfl (tm X) ?_;refine hK _ _ ?_;clear hK K;refine wpAny_ready (rs:=[2]) (by kernel_rfl) (by simp) ?_;refine AllReady.cons rfl (fun K hK=>?_) AllReady.nil;refine oq rfl 157 _ _ rfl rfl w.heap.size (gw T 30) rfl rfl 157 (gw Z 30) P0.out (oy _) (by rw[ij,ij]) (ke _ _) ?_;refine hK _ _ ?_;clear hK K;refine wpAny_ready (rs:=[3]) (by kernel_rfl) (by simp) ?_;refine AllReady.cons rfl (fun K hK=>?_) AllReady.nil;refine oq rfl 157 _ _ rfl rfl (w.heap.size+1) (gw X 30) rfl rfl 157 (gw Z 30) ((aL _ _ _ _ N1.out).trans P1.out) (oy _) (by rw[ij,ij]) (ke _ _) ?_;refine hK _ _ ?_;clear hK K;refine wpAny_done (by kernel_rfl) ?_ _;obtain⟨f1,f2,f3⟩:=aX.out _ rfl;obtain⟨V,hV⟩:=fY ((W3.drew.setRow w.heap.size (gw T 30)).setRow (w.heap.size+1) (gw X 30));rw[<-hV]at f1 f2 f3⊢;have G1:=fX f1;have G2:=fX f2;have G3:=fX f3
   clear f1 f2 f3 hV;simp only[Act.put,List.getElem_toArray,List.getElem_cons_zero,List.getElem_cons_succ,List.setIfInBounds_toArray,List.set_cons_zero,List.set_cons_succ];go_wp2;refine aK (xu rfl _ _ w.heap.size (w.heap.size+1) T X rfl rfl G1.out G2.out) rfl ⟨rfl,G3.out⟩
  ·refine oq rfl 157 _ _ rfl rfl w.heap.size (gw T 30) rfl rfl 157 (gw Z 30) P0.out (oy _) (by rw[ij,ij]) (ke _ _) ?_;refine hK _ _ ?_;clear hK K;refine wpAny_ready (rs:=[1]) (by kernel_rfl) (by simp) ?_;refine AllReady.cons rfl (fun K hK=>?_) AllReady.nil;refine ph rfl 157 _ rfl W2.heap.size 0 rfl (kX X 30) _ (pj ((aL _ _ _ _ N4.out).trans P3.out)) underlying157 rfl (tm X) ?_;refine hK _ _ ?_;clear hK K;refine wpAny_ready (rs:=[3]) (by kernel_rfl) (by simp) ?_;refine AllReady.cons rfl (fun K hK=>?_) AllReady.nil;refine oq rfl 157 _ _ rfl rfl (w.heap.size+1) (gw X 30) rfl rfl 157 (gw Z 30) ((aL _ _ _ _ N1.out).trans P1.out) (oy _) (by rw[ij,ij]) (ke _ _) ?_;refine hK _ _ ?_;clear hK K;refine wpAny_done (by kernel_rfl) ?_ _;obtain⟨f1,f2,f3⟩:=aX.out _ rfl;obtain⟨V,hV⟩:=fY ((W3.drew.setRow w.heap.size (gw T 30)).setRow (w.heap.size+1) (gw X 30));rw[<-hV]at f1 f2 f3⊢;have G1:=fX f1;have G2:=fX f2;have G3:=fX f3
   clear f1 f2 f3 hV;simp only[Act.put,List.getElem_toArray,List.getElem_cons_zero,List.getElem_cons_succ,List.setIfInBounds_toArray,List.set_cons_zero,List.set_cons_succ];go_wp2;refine aK (xu rfl _ _ w.heap.size (w.heap.size+1) T X rfl rfl G1.out G2.out) rfl ⟨rfl,G3.out⟩
 ·refine ph rfl 157 _ rfl W2.heap.size 0 rfl (kX X 30) _ (pj P3.out) underlying157 rfl (tm X) ?_;refine hK _ _ ?_;clear hK K;refine wpAny_ready (rs:=[0]) (by kernel_rfl) (by simp) ?_;refine AllReady.cons rfl (fun K hK=>?_) AllReady.nil;refine ph rfl 157 _ rfl (w.heap.size+1+1) 0 rfl (kX T 30) _ (pj P2.out) underlying157 rfl (tm T) ?_;refine hK _ _ ?_;clear hK K;refine wpAny_ready (rs:=[2]) (by kernel_rfl) (by simp) ?_;refine AllReady.cons rfl (fun K hK=>?_) AllReady.nil;refine oq rfl 157 _ _ rfl rfl w.heap.size (gw T 30) rfl rfl 157 (gw Z 30) P0.out (oy _) (by rw[ij,ij]) (ke _ _) ?_;refine hK _ _ ?_;clear hK K;refine wpAny_ready (rs:=[3]) (by kernel_rfl) (by simp) ?_;refine AllReady.cons rfl (fun K hK=>?_) AllReady.nil;refine oq rfl 157 _ _ rfl rfl (w.heap.size+1) (gw X 30) rfl rfl 157 (gw Z 30) ((aL _ _ _ _ N1.out).trans P1.out) (oy _) (by rw[ij,ij]) (ke _ _) ?_;refine hK _ _ ?_;clear hK K;refine wpAny_done (by kernel_rfl) ?_ _;obtain⟨f1,f2,f3⟩:=aX.out _ rfl;obtain⟨V,hV⟩:=fY ((W3.drew.setRow w.heap.size (gw T 30)).setRow (w.heap.size+1) (gw X 30));rw[<-hV]at f1 f2 f3⊢;have G1:=fX f1;have G2:=fX f2;have G3:=fX f3
  clear f1 f2 f3 hV;simp only[Act.put,List.getElem_toArray,List.getElem_cons_zero,List.getElem_cons_succ,List.setIfInBounds_toArray,List.set_cons_zero,List.set_cons_succ];go_wp2;refine aK (xu rfl _ _ w.heap.size (w.heap.size+1) T X rfl rfl G1.out G2.out) rfl ⟨rfl,G3.out⟩
theorem me{p:Prop}[Decidable p](h:¬p):decide p=false:=by simp[h]
theorem lV{p:Prop}[Decidable p](h:p):decide p=true:=by simp[h]
def jT(k:Nat):Nat:=2^k
def rv(w:aq)(z p q:Array ax)(t:aB):aq:=(((w.alloc (ak z t)).alloc (ak z t)).setRow w.heap.size p).setRow (w.heap.size+1) q
theorem BF(w:aq)(z p q:Array ax)(t:aB):((w.alloc (ak z t)).alloc (ak z t)).heap[w.heap.size]?=some (ak z t (0,0))/\(((w.alloc (ak z t)).alloc (ak z t)).setRow w.heap.size p).heap[w.heap.size+1]?=some (ak z t (0,0))/\
  (rv w z p q t).heap[w.heap.size]?=some (ak p t (0,0))/\(rv w z p q t).heap[w.heap.size+1]?=some (ak q t (0,0))/\aR w.heap.size w (rv w z p q t):=by
 have h1:((w.alloc (ak z t)).alloc (ak z t)).heap[w.heap.size]?=some (ak z t (0,0)):=(Below.heap_alloc _ _ _ (by simp)).trans (aG w _)
 have h2:((w.alloc (ak z t)).alloc (ak z t)).heap[w.heap.size+1]?=some (ak z t (0,0)):=by
  have:=aG (w.alloc (ak z t)) (ak z t);rw[World.size_alloc]at this;exact this
 have h3:=(aL ((w.alloc (ak z t)).alloc (ak z t)) w.heap.size (w.heap.size+1) p (by omega)).trans h2
 refine⟨h1,h3,?_,aI _ _ _ _ _ _ h3,?_⟩
 ·exact(aL _ _ _ _ (by omega)).trans (aI _ _ _ _ _ _ h1)
 ·exact ln (ln ((gC.alloc fZ _).alloc (by simp) _) fZ _) (by omega) _
theorem BG(w:aq)(n:Int):aw prog 116 #[ae aj n] w fun e w'=>e=ao (.tuple #[ae aj (ji n),ae aj (kq n),ae aj (kC n),ae aj (ny n)])/\aR w.heap.size w w':=by
 by_cases y0:n<3
 ·have e1:ji n=0:=if_neg (by omega);have e2:kq n=0:=if_neg (by omega);have e3:kC n=0:=if_neg (by omega);have e4:ny n=2:=if_neg (by omega);rw[e1,e2,e3,e4];have d0:decide (n<3)=true:=lV y0;clear e1 e2 e3 e4;go_enter func116,ntmps116
  go_wp2;refine aK (ou rfl _ _ _) rfl ?_;exact⟨rfl,Below.refl _ _⟩
 have d0:decide (n<3)=false:=me y0;by_cases y1:258<n
 ·have e1:ji n=0:=if_neg (by omega);have e2:kq n=0:=if_neg (by omega);have e3:kC n=0:=if_neg (by omega);have e4:ny n=2:=if_neg (by omega);rw[e1,e2,e3,e4];have d1:decide (258<n)=true:=lV y1;clear e1 e2 e3 e4;go_enter func116,ntmps116
  go_wp2;refine aK (ou rfl _ _ _) rfl ?_;exact⟨rfl,Below.refl _ _⟩
 have d1:decide (258<n)=false:=me y1;obtain⟨m,rfl⟩:=Int.eq_ofNat_of_zero_le (show 0<=n by omega);have hk:3<=(m:Int)/\(m:Int)<=258:=by omega
 have hz:=(zero_of_info BB).1;obtain⟨I,hI⟩:=fY (atN ib m 29);obtain⟨q1,q2,q3⟩:=sk (T:=ib) (n:=m) (show 3<=m by omega) 29 (by omega);rw[<-hI]at q1 q2;have e1:ji (m:Int)=(((257+I:Nat)):Int):=by unfold ji pf;rw[if_pos hk,Int.toNat_natCast,<-hI]
 have e2:kq (m:Int)=((kB I:Nat):Int):=by unfold kq pf;rw[if_pos hk,Int.toNat_natCast,<-hI]
 have e3:kC (m:Int)=((m-ib I:Nat):Int):=by
  unfold kC pf;rw[if_pos hk,Int.toNat_natCast,<-hI]
 have e4:ny (m:Int)=0:=if_pos hk;obtain⟨tI,aT⟩:=fY (ib I);obtain⟨xI,aU⟩:=fY (kB I);obtain⟨uI,al⟩:=fY (m-ib I);obtain⟨sI,aV⟩:=fY (257+I);rw[<-aV]at e1;rw[<-aU]at e2;rw[<-al]at e3;rw[<-aT]at al q2;rw[e1,e2,e3,e4];have bf:m<=258:=by omega
 have a1:=fX aT;have a2:=fX aU;have a3:=fX al;have a4:=fX aV
 clear aT aU al aV;have HI:=fX hI;have a5:=fX q2;have a6:=fX (Hm w)
 clear q3 e1 e2 e3 e4 hI q2;go_enter func116,ntmps116
 go_wp2_with fail
 refine a6.out.mono ?_;rintro e w1 ⟨rfl,aW⟩;obtain⟨t1,t2,t3,t4,t5⟩:=BF w1 (gw (fun _=>0) 29) (gw (fun i=>(ib i:Int)) 29) (gw (fun i=>(kB i:Int)) 29) 217;obtain⟨V,hV⟩:=fY (rv w1 (gw (fun _=>0) 29) (gw (fun i=>(ib i:Int)) 29) (gw (fun i=>(kB i:Int)) 29) 217);rw[<-hV]at t3 t4 t5;have TA:=fX t1;have TB:=fX t2;have TC:=fX t3;have TD:=fX t4;have a7:=fX (aW.trans (t5.mono aW.size));have HV:=fX hV
 obtain⟨b,hb⟩:=fY (w1.heap.size);have HB:=fX hb;clear t1 t2 t3 t4 t5 aW hV hb;go_wp2_with (first
  |(refine aC rfl _ _ _ rfl rfl w1.heap.size (gw (fun i=>(ib i:Int)) 29) rfl rfl 217 (gw (fun _=>0) 29) TA.out (ox _) (by rw[ij,ij]) (ke _ _) ?_)
  |(refine aC rfl _ _ _ rfl rfl (w1.heap.size+1) (gw (fun i=>(kB i:Int)) 29) rfl rfl 217 (gw (fun _=>0) 29) TB.out (ox _) (by rw[ij,ij]) (ke _ _) ?_;change wpList _ _ _ _ _ (rv w1 (gw (fun _=>0) 29) (gw (fun i=>(ib i:Int)) 29) (gw (fun i=>(kB i:Int)) 29) 217);rw[<-HV.out]))
 rw[<-HB.out];have aY:aQ (V.heap[b]?=some (ak (gw (fun i=>(ib i:Int)) 29) 217 (0,0))):=fX (by rw[HB.out];exact TC.out);have a8:aQ (V.heap[b+1]?=some (ak (gw (fun i=>(kB i:Int)) 29) 217 (0,0))):=fX (by rw[HB.out];exact TD.out);clear TC TD TA TB hz;go_loopw [8,9] (fun av iv wr=>∃i a:Nat,i<=29/\a<=29/\iv=ae aj (i:Int)/\av=ae aj (a:Int)/\aQ (a=atN ib m i)/\V=wr) (fun _ iv _=>29-(aP iv).toNat)
 case atStart=>exact⟨0,0,Nat.zero_le _,Nat.zero_le _,rfl,rfl,fX rfl,rfl⟩
 case round=>
  obtain⟨i,a,hi,ha,rfl,rfl,HA,rfl⟩:=hrel;by_cases a9:i<29
  ·have aZ:(i:Int)<29:=by omega
   have c1:V.cell? ⟨b,i,none⟩=some (ae aj ((ib i:Nat):Int)):=pU aY.out a9;have ad:atN ib m (i+1)=if ib i<=m then i else atN ib m i:=rfl
   obtain⟨t,ht⟩:=fY (ib i);rw[<-ht]at c1 ad;clear ht;by_cases aS:t<=m
   ·have dt:decide ((t:Int)<=(m:Int))=true:=lV (by omega);have bd:decide (t<=m)=true:=lV aS;rw[if_pos aS]at ad;have aX:=fX ad;clear ad;go_wp2;go_roundw
    case rel=>exact⟨i+1,i,by omega,by omega,by go_num,rfl,fX aX.out.symm,trivial⟩
    case measure=>simp[aP];omega
   ·have dt:decide ((t:Int)<=(m:Int))=false:=me (by omega);have bd:decide (t<=m)=false:=me aS;rw[if_neg aS,<-HA.out]at ad;have aX:=fX ad;clear ad;go_wp2;go_roundw
    case rel=>exact⟨i+1,a,by omega,by omega,by go_num,rfl,fX aX.out.symm,trivial⟩
    case measure=>simp[aP];omega
  ·obtain rfl:i=29:=by omega
   have aZ:¬((29:Nat):Int)<29:=by omega
   obtain rfl:a=I:=HA.out.trans HI.out.symm;have c1:V.drew.cell? ⟨b,a,none⟩=some (ae aj (tI:Int)):=by rw[a1.out];exact pU aY.out q1
   have c2:V.drew.cell? ⟨b+1,a,none⟩=some (ae aj (xI:Int)):=by rw[a2.out];exact pU a8.out q1
   have c3:V.cell? ⟨b,a,none⟩=some (ae aj (tI:Int)):=c1;have c4:V.cell? ⟨b+1,a,none⟩=some (ae aj (xI:Int)):=c2;have w1:IntKind.i64.wrap ((m:Int)-(tI:Int))=(uI:Int):=by rw[IntKind.wrap_i64];have:=a3.out;have:=a5.out;omega
   have w2:IntKind.i64.wrap (257+(a:Int))=(sI:Int):=by rw[IntKind.wrap_i64];have:=a4.out;omega
   have bg:(a:Int)<29:=by omega
   have bj:¬(a:Int)<0:=by omega
   have bk:¬(29:Int)<=(a:Int):=by omega
   go_wp2;go_region;all_goals(
    go_wp2;refine aK (ou rfl _ _ _) rfl ?_;exact⟨rfl,Below.drew a7.out⟩)
theorem BH(w:aq)(n:Int):aw prog 117 #[ae aj n] w fun e w'=>e=ao (.tuple #[ae aj (iV n),ae aj (kr n),ae aj (kL n),ae aj (nz n)])/\aR w.heap.size w w':=by
 by_cases y0:n<1
 ·have e1:iV n=0:=if_neg (by omega);have e2:kr n=0:=if_neg (by omega);have e3:kL n=0:=if_neg (by omega);have e4:nz n=2:=if_neg (by omega);rw[e1,e2,e3,e4];have d0:decide (n<1)=true:=lV y0;clear e1 e2 e3 e4;go_enter func117,ntmps117
  go_wp2;refine aK (ou rfl _ _ _) rfl ?_;exact⟨rfl,Below.refl _ _⟩
 have d0:decide (n<1)=false:=me y0;by_cases y1:32768<n
 ·have e1:iV n=0:=if_neg (by omega);have e2:kr n=0:=if_neg (by omega);have e3:kL n=0:=if_neg (by omega);have e4:nz n=2:=if_neg (by omega);rw[e1,e2,e3,e4];have d1:decide (32768<n)=true:=lV y1;clear e1 e2 e3 e4;go_enter func117,ntmps117
  go_wp2;refine aK (ou rfl _ _ _) rfl ?_;exact⟨rfl,Below.refl _ _⟩
 have d1:decide (32768<n)=false:=me y1;obtain⟨m,rfl⟩:=Int.eq_ofNat_of_zero_le (show 0<=n by omega);have hk:1<=(m:Int)/\(m:Int)<=32768:=by omega
 have hz:=(zero_of_info BE).1;obtain⟨I,hI⟩:=fY (atN il m 30);obtain⟨q1,q2,q3⟩:=sk (T:=il) (n:=m) (show 1<=m by omega) 30 (by omega);rw[<-hI]at q1 q2;have e1:iV (m:Int)=(((I:Nat)):Int):=by unfold iV pg;rw[if_pos hk,Int.toNat_natCast,<-hI]
 have e2:kr (m:Int)=((kK I:Nat):Int):=by unfold kr pg;rw[if_pos hk,Int.toNat_natCast,<-hI]
 have e3:kL (m:Int)=((m-il I:Nat):Int):=by
  unfold kL pg;rw[if_pos hk,Int.toNat_natCast,<-hI]
 have e4:nz (m:Int)=0:=if_pos hk;obtain⟨tI,aT⟩:=fY (il I);obtain⟨xI,aU⟩:=fY (kK I);obtain⟨uI,al⟩:=fY (m-il I);obtain⟨sI,aV⟩:=fY I;rw[<-aV]at e1;rw[<-aU]at e2;rw[<-al]at e3;rw[<-aT]at al q2;rw[e1,e2,e3,e4];have bf:m<=32768:=by omega
 have a1:=fX aT;have a2:=fX aU;have a3:=fX al;have a4:=fX aV
 clear aT aU al aV;have HI:=fX hI;have a5:=fX q2;have a6:=fX (Hp w)
 clear q3 e1 e2 e3 e4 hI q2;go_enter func117,ntmps117
 go_wp2_with fail
 refine a6.out.mono ?_;rintro e w1 ⟨rfl,aW⟩;obtain⟨t1,t2,t3,t4,t5⟩:=BF w1 (gw (fun _=>0) 30) (gw (fun i=>(il i:Int)) 30) (gw (fun i=>(kK i:Int)) 30) 157;obtain⟨V,hV⟩:=fY (rv w1 (gw (fun _=>0) 30) (gw (fun i=>(il i:Int)) 30) (gw (fun i=>(kK i:Int)) 30) 157);rw[<-hV]at t3 t4 t5;have TA:=fX t1;have TB:=fX t2;have TC:=fX t3;have TD:=fX t4;have a7:=fX (aW.trans (t5.mono aW.size));have HV:=fX hV
 obtain⟨b,hb⟩:=fY (w1.heap.size);have HB:=fX hb;clear t1 t2 t3 t4 t5 aW hV hb;go_wp2_with (first
  |(refine aC rfl _ _ _ rfl rfl w1.heap.size (gw (fun i=>(il i:Int)) 30) rfl rfl 157 (gw (fun _=>0) 30) TA.out (oy _) (by rw[ij,ij]) (ke _ _) ?_)
  |(refine aC rfl _ _ _ rfl rfl (w1.heap.size+1) (gw (fun i=>(kK i:Int)) 30) rfl rfl 157 (gw (fun _=>0) 30) TB.out (oy _) (by rw[ij,ij]) (ke _ _) ?_;change wpList _ _ _ _ _ (rv w1 (gw (fun _=>0) 30) (gw (fun i=>(il i:Int)) 30) (gw (fun i=>(kK i:Int)) 30) 157);rw[<-HV.out]))
 rw[<-HB.out];have aY:aQ (V.heap[b]?=some (ak (gw (fun i=>(il i:Int)) 30) 157 (0,0))):=fX (by rw[HB.out];exact TC.out);have a8:aQ (V.heap[b+1]?=some (ak (gw (fun i=>(kK i:Int)) 30) 157 (0,0))):=fX (by rw[HB.out];exact TD.out);clear TC TD TA TB hz;go_loopw [8,9] (fun av iv wr=>∃i a:Nat,i<=30/\a<=30/\iv=ae aj (i:Int)/\av=ae aj (a:Int)/\aQ (a=atN il m i)/\V=wr) (fun _ iv _=>30-(aP iv).toNat)
 case atStart=>exact⟨0,0,Nat.zero_le _,Nat.zero_le _,rfl,rfl,fX rfl,rfl⟩
 case round=>
  obtain⟨i,a,hi,ha,rfl,rfl,HA,rfl⟩:=hrel;by_cases a9:i<30
  ·have aZ:(i:Int)<30:=by omega
   have c1:V.cell? ⟨b,i,none⟩=some (ae aj ((il i:Nat):Int)):=pU aY.out a9;have ad:atN il m (i+1)=if il i<=m then i else atN il m i:=rfl
   obtain⟨t,ht⟩:=fY (il i);rw[<-ht]at c1 ad;clear ht;by_cases aS:t<=m
   ·have dt:decide ((t:Int)<=(m:Int))=true:=lV (by omega);have bd:decide (t<=m)=true:=lV aS;rw[if_pos aS]at ad;have aX:=fX ad;clear ad;go_wp2;go_roundw
    case rel=>exact⟨i+1,i,by omega,by omega,by go_num,rfl,fX aX.out.symm,trivial⟩
    case measure=>simp[aP];omega
   ·have dt:decide ((t:Int)<=(m:Int))=false:=me (by omega);have bd:decide (t<=m)=false:=me aS;rw[if_neg aS,<-HA.out]at ad;have aX:=fX ad;clear ad;go_wp2;go_roundw
    case rel=>exact⟨i+1,a,by omega,by omega,by go_num,rfl,fX aX.out.symm,trivial⟩
    case measure=>simp[aP];omega
  ·obtain rfl:i=30:=by omega
   have aZ:¬((30:Nat):Int)<30:=by omega
   obtain rfl:a=I:=HA.out.trans HI.out.symm;have c1:V.drew.cell? ⟨b,a,none⟩=some (ae aj (tI:Int)):=by rw[a1.out];exact pU aY.out q1
   have c2:V.drew.cell? ⟨b+1,a,none⟩=some (ae aj (xI:Int)):=by rw[a2.out];exact pU a8.out q1
   have c3:V.cell? ⟨b,a,none⟩=some (ae aj (tI:Int)):=c1;have c4:V.cell? ⟨b+1,a,none⟩=some (ae aj (xI:Int)):=c2;have w1:IntKind.i64.wrap ((m:Int)-(tI:Int))=(uI:Int):=by rw[IntKind.wrap_i64];have:=a3.out;have:=a5.out;omega
   obtain rfl:a=sI:=a4.out.symm;have bg:(a:Int)<30:=by omega
   have bj:¬(a:Int)<0:=by omega
   have bk:¬(30:Int)<=(a:Int):=by omega
   go_wp2;go_region;all_goals(
    go_wp2;refine aK (ou rfl _ _ _) rfl ?_;exact⟨rfl,Below.drew a7.out⟩)
theorem BI(n:Nat)(h:n<=1000)(z:Int)(hz:z=(n:Int)):∀u:aq,(Instr.makeSlice 22 (ae aj z) (ae aj z)).run prog u=
  .ok (af (some ⟨u.heap.size,0,none⟩) n n) (u.alloc (ak (aJ #[ae .u8 0] n) 5)):=by subst hz;exact uq n h
theorem BJ(w:aq):aw prog 96 #[] w fun e w'=>e=ao (af (some ⟨w.heap.size,0,none⟩) 32 32)/\iJ w' w.heap.size 32 kW/\aR w.heap.size w w':=by
 have aT:=BI 32 (by omega) 32 rfl;have al:=o6 w 32;have hb:aR w.heap.size w (w.alloc (ak (aJ #[ae .u8 0] 32) 5)):=gC.alloc fZ _;have HR:=fX al;have HB:=fX hb
 clear al hb;go_enter func96,ntmps96
 go_wp2;go_loopw [2] (fun iv wr=>∃(i:Nat) (f:Nat->Nat),i<=32/\iv=ae aj (i:Int)/\aQ (∀j,j<i->f j=kW j)/\aQ (iJ wr w.heap.size 32 f)/\aQ (aR w.heap.size w wr)) (fun iv _=>32-(aP iv).toNat)
 case atStart=>exact⟨0,_,Nat.zero_le _,rfl,fX (fun j hj=>absurd hj (by omega)),HR,HB⟩
 case round=>
  obtain⟨i,f,hi,rfl,HF,ad,av⟩:=hrel;by_cases aS:i<32
  ·have r1:=ad.out.cell aS;have r2:=ad.out.frozen i;obtain⟨x,hx⟩:=fY (f i);rw[<-hx]at r1;clear hx;go_wp2;go_roundw
   case rel=>
    refine⟨i+1,gL f i 5,by omega,by go_num,fX fun j hj=>?_,fX (ad.out.set i 5),fX (av.out.setCell fZ _)⟩;unfold gL;by_cases e:j=i
    ·rw[if_pos e];rfl
    ·rw[if_neg e];exact HF.out j (by omega)
   case measure=>simp[aP];omega
  ·obtain rfl:i=32:=by omega
   go_wp2;go_ret;exact⟨rfl,ad.out.ext fun j hj=>HF.out j hj,av.out⟩
theorem BM(w:aq):aw prog 95 #[] w fun e w'=>e=ao (af (some ⟨w.heap.size,0,none⟩) 288 288)/\iJ w' w.heap.size 288 jG/\aR w.heap.size w w':=by
 have aU:=BI 288 (by omega) 288 rfl;have al:=o6 w 288;have hb:aR w.heap.size w (w.alloc (ak (aJ #[ae .u8 0] 288) 5)):=gC.alloc fZ _;have HR:=fX al;have HB:=fX hb
 clear al hb;go_enter func95,ntmps95
 go_wp2;go_loopw [2] (fun iv wr=>∃(i:Nat) (f:Nat->Nat),i<=288/\iv=ae aj (i:Int)/\aQ (∀j,j<i->f j=jG j)/\aQ (iJ wr w.heap.size 288 f)/\aQ (aR w.heap.size w wr)) (fun iv _=>288-(aP iv).toNat)
 case atStart=>exact⟨0,_,Nat.zero_le _,rfl,fX (fun j hj=>absurd hj (by omega)),HR,HB⟩
 case round=>
  obtain⟨i,f,hi,rfl,HF,ad,aS⟩:=hrel;by_cases aT:i<288
  ·have r1:=ad.out.cell aT;have r2:=ad.out.frozen i;obtain⟨x,hx⟩:=fY (f i);rw[<-hx]at r1;clear hx;have s1:=ad.out.set i 8;have r3:=s1.cell aT;have r4:=s1.frozen i;have e8:gL f i 8 i=8:=if_pos rfl;rw[e8]at r3;have S1:=fX s1;have B1:=fX (aS.out.setCell (p:=⟨w.heap.size,i,none⟩) fZ (ae .u8 ((8:Nat):Int)));clear s1 e8;by_cases h7:256<=i/\i<=279
   ·have d1:decide ((144:Int)<=(i:Int))=true:=lV (by omega);have d2:decide ((i:Int)<=255)=false:=me (by omega);have d3:decide ((256:Int)<=(i:Int))=true:=lV (by omega);have d4:decide ((i:Int)<=279)=true:=lV (by omega);have hv:jG i=7:=if_pos h7;have HV:=fX hv;clear hv;go_wp2;go_roundw
    case rel=>
     refine⟨i+1,gL (gL f i 8) i 7,by omega,by go_num,fX fun j hj=>?_,fX (S1.out.set i 7),fX (B1.out.setCell fZ _)⟩;unfold gL;by_cases e:j=i
     ·rw[if_pos e,e];exact HV.out.symm
     ·rw[if_neg e,if_neg e];exact HF.out j (by omega)
    case measure=>simp[aP];omega
   ·by_cases h9:144<=i/\i<=255
    ·have d1:decide ((144:Int)<=(i:Int))=true:=lV (by omega);have d2:decide ((i:Int)<=255)=true:=lV (by omega);have d3:decide ((256:Int)<=(i:Int))=false:=me (by omega);have hv:jG i=9:=by unfold jG;rw[if_neg h7,if_pos h9]
     have HV:=fX hv;clear hv;go_wp2;go_roundw
     case rel=>
      refine⟨i+1,gL (gL f i 8) i 9,by omega,by go_num,fX fun j hj=>?_,fX (S1.out.set i 9),fX (B1.out.setCell fZ _)⟩;unfold gL;by_cases e:j=i
      ·rw[if_pos e,e];exact HV.out.symm
      ·rw[if_neg e,if_neg e];exact HF.out j (by omega)
     case measure=>simp[aP];omega
    ·have hv:jG i=8:=by unfold jG;rw[if_neg h7,if_neg h9]
     have HV:=fX hv;clear hv;have hrel:∃(i2:Nat) (f2:Nat->Nat),i2<=288/\Value.int aj ((i:Int)+1)=ae aj (i2:Int)/\aQ (∀j,j<i2->f2 j=jG j)/\aQ (iJ (wr.setCell ⟨w.heap.size,i,none⟩ (ae .u8 ((8:Nat):Int))) w.heap.size 288 f2)/\aQ (aR w.heap.size w (wr.setCell ⟨w.heap.size,i,none⟩ (ae .u8 ((8:Nat):Int)))):=by
      refine⟨i+1,gL f i 8,by omega,by go_num,fX fun j hj=>?_,S1,B1⟩;unfold gL;by_cases e:j=i
      ·rw[if_pos e,e];exact HV.out.symm
      ·rw[if_neg e];exact HF.out j (by omega)
     have av:=fX hrel;clear hrel HF ad aS S1 B1 HV;by_cases h4:i<144
     ·have d1:decide ((144:Int)<=(i:Int))=false:=me (by omega);have d3:decide ((256:Int)<=(i:Int))=false:=me (by omega);go_wp2;go_roundw
      case rel=>exact av.out
      case measure=>simp[aP];omega
     ·have d1:decide ((144:Int)<=(i:Int))=true:=lV (by omega);have d2:decide ((i:Int)<=255)=false:=me (by omega);have d3:decide ((256:Int)<=(i:Int))=true:=lV (by omega);have d4:decide ((i:Int)<=279)=false:=me (by omega);go_wp2;go_roundw
      case rel=>exact av.out
      case measure=>simp[aP];omega
  ·obtain rfl:i=288:=by omega
   go_wp2;go_ret;exact⟨rfl,ad.out.ext fun j hj=>HF.out j hj,aS.out⟩
theorem uJ:(prog.info? 193).map (fun i=>(i.zero,i.size))=some (some (ah (gw (fun _=>0) 19)),19):=by kernel_rfl
theorem tp(T:Nat->Int):(prog.info? 193).map (·.size)=some (gw T 19).size:=by rw[ij];kernel_rfl
theorem BO:(([16,17,18,0,8,7,9,6,10,5,11,4,12,3,13,2,14,1,15]:List Int).map (Value.int aj)).toArray=gw (fun i=>(jD i:Int)) 19:=by kernel_rfl
theorem Hq(w:aq):aw prog 122 #[] w fun e w'=>e=ao (ah (gw (fun i=>(jD i:Int)) 19))/\aR w.heap.size w w':=by
 have hz:=(zero_of_info uJ).1;have f1:=BO;obtain⟨T,hT⟩:∃T:Nat->Int,T=fun i=>(jD i:Int):=⟨_,rfl⟩
 obtain⟨Z,hZ⟩:∃Z:Nat->Int,Z=fun _=>0:=⟨_,rfl⟩
 rw[<-hT]at f1⊢;rw[<-hZ]at hz;have F1:=fX f1;have K0:aQ ((w.alloc (ak (gw Z 19) 193)).heap[w.heap.size]?=some (ak (gw Z 19) 193 (0,0))):=fX (aG w _);clear hT hZ f1;go_enter func122,ntmps122
 go_wp2_with (first
  |(refine wpList_buildFlatArrTo rfl 193 3 19 _ rfl aj [16,17,18,0,8,7,9,6,10,5,11,4,12,3,13,2,14,1,15] (some 1) rfl underlying193 (by kernel_rfl) (by kernel_rfl) rfl ?_;rw[F1.out])
  |(refine aC rfl _ _ _ rfl rfl w.heap.size (gw T 19) rfl rfl 193 (gw Z 19) K0.out (tp _) (by rw[ij,ij]) (ke _ _) ?_)
  |fail)
 refine aK (v:=ah (gw T 19)) ?_ rfl ⟨rfl,ln (gC.alloc fZ _) fZ _⟩;exact results_cell_row rfl _ _ w.heap.size _ _ (0,0) _ rfl (aI _ _ _ _ _ _ K0.out) underlying193 rfl (tp _)
def Qc(l:List aA)(n:Nat):Bool:=(List.range n).all fun i=>match l[i]? with
 |some o=>o.guard.isNone&&o.after.all fun e=> !Region.binds .any e||decide (e.on<i)
 |none=>false
def km(n g:Nat):Array Bool:=(List.replicate n true++List.replicate g false).toArray
def tq(l:List aA)(m n:Nat):Bool:=(List.range n).all fun i=>decide (i<m)||(List.range (n+1)).any fun j=>decide (i<j)&&Region.waitsFor .any l.toArray j i
def ry(l:List aA)(m n:Nat):Bool:=Region.noSelect l.toArray&&Region.noSelect (l.take n).toArray&&Region.lexFrom .any (l.take n).toArray (n-m) m (km m (n-m))&&decide (n<l.length)&&tq l m n&&Region.chainB .any l.toArray n&&Qc l n&&Region.seqB .any l.toArray (l.length-n) n (km n (l.length-n))
theorem BP{l:List aA}{m n:Nat}{gv:Array Bool}(hs:tq l m n=true)(hc:Region.chainB .any l.toArray n=true)(hn:n<l.length)(inv:HeadInv .any l.toArray n gv)(hm:∀i,i<m->gv.getD i false=true){i:Nat}(hi:i<n)(hu:gv.getD i true=false):
  ∀t,n<=t->t∉Region.ready .any l.toArray gv:=by
 have a1:gv.size=l.length:=by rw[inv.size];simp
 have key:∀(d i:Nat),d=n-i->i<=n->gv.getD i true=false->n∈Region.ready .any l.toArray gv->i=n:=by
  intro d;induction d using Nat.strongRecOn with
  |_ d ih=>
   intro i hd hi hu hr;rcases Nat.eq_or_lt_of_le hi with e|hi
   ·exact e
   ·exfalso;have aV:¬i<m:=fun h=>by have:=hm i h;rw[getD_both hu]at this;cases this
    have h1:=List.all_eq_true.1 hs i (List.mem_range.2 hi);simp only[Bool.or_eq_true,decide_eq_true_eq]at h1;rcases h1 with h1|h1
    ·exact aV h1
    ·obtain⟨j,hj,aS⟩:=List.any_eq_true.1 h1;simp only[Bool.and_eq_true,decide_eq_true_eq]at aS;obtain⟨oj,aT,e,he,hb,av⟩:=Region.waitsFor_spec aS.2;have aW:j<=n:=by have:=List.mem_range.1 hj;omega
     cases hl:gv.getD j false with
     |true=>
      have h2:=inv.closed j oj aT hl e he hb;rw[av,getD_both hu]at h2;cases h2
     |false=>
      have aX:=ih (n-j) (by omega) j rfl aW (getD_in (by omega) hl) hr;subst aX;obtain⟨_,ot,ad,al⟩:=mem_ready.1 hr;rw[aT]at ad;cases ad;have h2:=al e he hb;rw[av,getD_both hu]at h2;cases h2
 intro t ht hr
 by_cases aY:t=n
 ·subst aY;have:=key (t-i) i rfl (by omega) hu hr;omega
 ·obtain⟨_,ot,ad,al⟩:=mem_ready.1 hr;have aZ:t<l.length:=by have:=(Array.getElem?_eq_some_iff.1 ad).1;simpa using this
  have h1:=List.all_eq_true.1 hc t (List.mem_range.2 (by simpa using aZ));simp only[Bool.or_eq_true,decide_eq_true_eq]at h1;rcases h1 with h1|h1
  ·omega
  ·obtain⟨o',aU,e,he,hb,av⟩:=Region.waitsFor_spec h1;rw[ad]at aU;cases aU;have h2:=al e he hb;rw[av,getD_both (inv.tail (t-1) (by omega) (by simp;omega))]at h2;cases h2
theorem xv{l:List aA}{n i:Nat}(h:Qc l n=true)(hi:i<n):∃o,l[i]?=some o/\o.guard=none/\∀e∈o.after,Region.binds .any e=true->e.on<i:=by
 have h1:=List.all_eq_true.1 h i (List.mem_range.2 hi);split at h1
 ·rename_i o ho;simp only[Bool.and_eq_true]at h1;refine⟨o,ho,by simpa using h1.1,fun e he hb=>?_⟩;have h2:=Array.all_eq_true_iff_forall_mem.1 h1.2 e he;simp only[hb,Bool.not_true,Bool.false_or,decide_eq_true_eq]at h2;exact h2
 ·cases h1
theorem BQ{o:aA}(h:o.guard=none)(y:Nat->Option Bool):Region.wanted o y=true:=by simp[Region.wanted,h]
theorem uK{n g:Nat}{gv:Array Bool}(ad:gv.size=n+g)(h1:∀i,i<n->gv.getD i true=true)(h2:∀t,n<=t->t<n+g->gv.getD t true=false):gv=km n g:=by
 apply Array.ext_getElem?;intro i;unfold km;rcases Nat.lt_or_ge i n with h|h
 ·have:=h1 i h;have hs:i<gv.size:=by omega
  have e:gv[i]?=some true:=by
   rw[Array.getElem?_eq_getElem hs];simp[hs]at this;rw[this]
  rw[e,List.getElem?_toArray,List.getElem?_append_left (by simpa using h),List.getElem?_replicate,if_pos h]
 ·rcases Nat.lt_or_ge i (n+g)with h'|h'
  ·have:=h2 i h h';have hs:i<gv.size:=by omega
   have e:gv[i]?=some false:=by
    rw[Array.getElem?_eq_getElem hs];simp[hs]at this;rw[this]
   rw[e,List.getElem?_toArray,List.getElem?_append_right (by simpa using h),List.length_replicate,List.getElem?_replicate,if_pos (by omega)]
  ·rw[Array.getElem?_eq_none (by omega),List.getElem?_toArray,List.getElem?_eq_none (by simp;omega)]
theorem BR{P:az}{C:aq->Prop}{Q:Exit->Act->aq->Prop}{l:List aA}{m n:Nat}(hn:n<l.length)(hs:tq l m n=true)(hc:Region.chainB .any l.toArray n=true)(aT:Qc l n=true)
  (a1:Region.seqB .any l.toArray (l.length-n) n (km n (l.length-n))=true):
  ∀(f:Nat) (s:List Nat) (gv lh:Array Bool) (a:Act) (w:aq),s.length=f->s.Nodup->(∀i,i∈s↔i<n/\gv.getD i true=false)->HeadInv .any l.toArray n gv->(∀i,i<m->gv.getD i false=true)->(∀i,i<n->lh.getD i true=gv.getD i true/\lh.getD i false=gv.getD i false)->C w->
   wpAnyQ P .any (l.take n).toArray C (fun a'=>∀w',C w'->wpList P l.toArray Q (l.drop n) a' w') f lh a->wpAny P .any l.toArray Q (f+(l.length-n)) gv a w
 |0,s,gv,lh,a,w,hf,_,av,inv,_,_,hw,h=>by
  have bf:s=[]:=List.length_eq_zero_iff.1 hf;subst bf;have h1:∀i,i<n->gv.getD i true=true:=fun i hi=>by
   cases e:gv.getD i true with
   |true=>rfl
   |false=>exact absurd ((av i).2 ⟨hi,e⟩) (by simp)
  have aS:=inv.size;have he:=uK (n:=n) (g:=l.length-n) (gv:=gv) (by rw[aS];simp;omega) h1 (fun t ht bn=>inv.tail t ht (by simp;omega));subst he;have h3:=wpAny_of_seq (P:=P) (md:=.any) (Q':=Q) (l.drop n) n (km n (l.length-n)) a w (fun j=>by simp[List.getElem?_drop]) (by rw[List.length_drop];exact a1) (h.2 w hw);rw[List.length_drop]at h3;rw[Nat.zero_add];exact h3
 |f+1,s,gv,lh,a,w,hf,a5,av,inv,a6,aU,hw,h=>by
  rw[show f+1+(l.length-n)=(f+(l.length-n))+1 by omega];obtain⟨x,hx⟩:∃x,x∈s:=List.exists_mem_of_length_pos (by omega);obtain⟨a7,a8⟩:=(av x).1 hx;have aW:∀i,i∈Region.ready .any l.toArray gv->i<n:=fun i hi=>by
   rcases Nat.lt_or_ge i n with g|g
   ·exact g
   ·exact absurd hi (BP hs hc hn inv a6 a7 a8 i g)
  have a2:∀i,i<n->(i∈Region.ready .any l.toArray gv↔i∈Region.ready .any (l.take n).toArray lh):=fun i hi=>by
   obtain⟨o,ho,hg,aX⟩:=xv aT hi;rw[mem_ready,mem_ready];have e1:l.toArray[i]?=some o:=by simpa using ho
   have e2:(l.take n).toArray[i]?=some o:=by simp[hi,ho]
   rw[e1,e2,(aU i hi).1];constructor
   ·rintro⟨h0,o',a3,ad⟩;cases a3
    exact⟨h0,o,rfl,fun e he hb=>by rw[(aU e.on (by have:=aX e he hb;omega)).2];exact ad e he hb⟩
   ·rintro⟨h0,o',a3,ad⟩;cases a3
    exact⟨h0,o,rfl,fun e he hb=>by have:=ad e he hb;rwa[(aU e.on (by have:=aX e he hb;omega)).2]at this⟩
  refine⟨fun h0=>?_,fun i hi=>?_⟩
  ·exfalso;have aY:∀(d y:Nat),y=d->y<n->gv.getD y true=false->∃z,z∈Region.ready .any l.toArray gv:=by
    intro d;induction d using Nat.strongRecOn with
    |_ d ih=>
     intro y hy bg bj;obtain⟨o,ho,_,aX⟩:=xv aT bg;by_cases ad:∀e∈o.after,Region.binds .any e=true->gv.getD e.on false=true
     ·exact⟨y,mem_ready.2 ⟨bj,o,by simpa using ho,ad⟩⟩
     ·have hex:∃e,e∈o.after/\Region.binds .any e=true/\gv.getD e.on false≠true:=by
       apply Classical.byContradiction;intro bk;exact ad fun e he hb=>Classical.byContradiction fun a4=>bk ⟨e,he,hb,a4⟩
      obtain⟨e,he,hb,a4⟩:=hex;have aZ:=aX e he hb;have aS:=inv.size;refine ih e.on (by omega) e.on rfl (by omega) (getD_in (by rw[aS];simp;omega) (by simpa using a4))
   obtain⟨z,hz⟩:=aY x x rfl a7 a8;rw[h0]at hz;cases hz
  ·have aV:=aW i hi;have h1:=h.2 i ((a2 i aV).1 hi);obtain⟨o,ho,hg,_⟩:=xv aT aV;have e1:l.toArray[i]?=some o:=by simpa using ho
   have e2:(l.take n).toArray[i]?=some o:=by simp[aV,ho]
   have a9:=(mem_ready.1 hi).1;have bl:i∈s:=(av i).2 ⟨aV,a9⟩;unfold wpOp;simp only[e1];rw[if_pos (BQ hg _)];unfold qOp at h1;simp only[e2]at h1;rw[if_pos (BQ hg _)]at h1;refine .inl (Oper.wp_of_quiet hw (fun a' w' bm hk=>?_) h1);refine BR hn hs hc aT a1 f (s.erase i) (gv.setIfInBounds i true) (lh.setIfInBounds i true) a' w' (by rw[List.length_erase_of_mem bl];omega) (a5.erase i) (fun j=>?_) (inv.set hi aV) (fun j hj=>getD_set_true (a6 j hj)) (fun j hj=>?_) bm hk
   ·rw[a5.mem_erase_iff];by_cases al:j=i
    ·subst al;have aS:=inv.size;have aZ:j<gv.size:=by rw[aS];simp;omega
     constructor
     ·intro hh;exact absurd rfl hh.1
     ·rintro⟨_,hh⟩;simp[aZ]at hh
    ·rw[getD_set_ne true (Ne.symm al),av j];constructor
     ·intro hh;exact hh.2
     ·intro hh;exact⟨al,hh⟩
   ·by_cases al:j=i
    ·subst al;have aS:=inv.size;have aZ:j<gv.size:=by rw[aS];simp;omega
     have bd:j<lh.size:=by
      rcases Nat.lt_or_ge j lh.size with g|g
      ·exact g
      ·have:=(aU j hj).1;rw[a9]at this;simp[Array.getElem?_eq_none g]at this
     simp[aZ,bd]
    ·rw[getD_set_ne true (Ne.symm al),getD_set_ne true (Ne.symm al),getD_set_ne false (Ne.symm al),getD_set_ne false (Ne.symm al)];exact aU j hj
theorem sE(n g i:Nat)(d:Bool):(km n g).getD i d=if i<n then true else if i<n+g then false else d:=by
 unfold km;rcases Nat.lt_or_ge i n with h|h
 ·rw[if_pos h];have e:(List.replicate n true++List.replicate g false).toArray[i]?=some true:=by
   rw[List.getElem?_toArray,List.getElem?_append_left (by simpa using h),List.getElem?_replicate,if_pos h]
  rw[Array.getD_eq_getD_getElem?,e];rfl
 ·rw[if_neg (by omega)];rcases Nat.lt_or_ge i (n+g)with h'|h'
  ·rw[if_pos h'];have e:(List.replicate n true++List.replicate g false).toArray[i]?=some false:=by
    rw[List.getElem?_toArray,List.getElem?_append_right (by simpa using h),List.length_replicate,List.getElem?_replicate,if_pos (by omega)]
   rw[Array.getD_eq_getD_getElem?,e];rfl
  ·rw[if_neg (by omega)];have e:(List.replicate n true++List.replicate g false).toArray[i]?=none:=by
    rw[List.getElem?_toArray,List.getElem?_eq_none (by simp;omega)]
   rw[Array.getD_eq_getD_getElem?,e];rfl
theorem BS{P:az}{C:aq->Prop}{Q:Exit->Act->aq->Prop}{l:List aA}{m n:Nat}(hB:ry l m n=true)(aY:m<=n)(ad:∀j oj,l[j]?=some oj->j<m->∀e∈oj.after,Region.binds .any e=true->e.on<m){a:Act}{w:aq}(hC:C w)
  (h:wpQuiet P (l.take n).toArray C (fun a'=>∀w',C w'->wpList P l.toArray Q (l.drop n) a' w') ((l.take n).drop m) a):wpAny P .any l.toArray Q (l.length-m) (km m (l.length-m)) a w:=by
 simp only[ry,Bool.and_eq_true,decide_eq_true_eq]at hB
 obtain⟨⟨⟨⟨⟨⟨⟨_,al⟩,av⟩,hn⟩,hs⟩,hc⟩,aS⟩,aT⟩:=hB
 have aU:((l.take n).drop m).length=n-m:=by simp;omega
 have hq:=wpAnyQ_lex (C:=C) (md:=.any) al ((l.take n).drop m) m (km m (n-m)) a (by simp) (by rw[aU];exact av) h
 rw[aU]at hq
 have hinv:HeadInv .any l.toArray n (km m (l.length-m)):=by
  refine⟨by simp[km];omega,fun j oj hj hl e he hb=>?_,fun t ht aV=>?_⟩
  ·rw[sE]at hl;have aW:j<m:=by
    rcases Nat.lt_or_ge j m with g|g
    ·exact g
    ·rw[if_neg (by omega)]at hl;split at hl<;>cases hl
   rw[sE,if_pos (ad j oj (by simpa using hj) aW e he hb)]
  ·rw[sE,if_neg (by omega),if_pos (by simp at aV;omega)]
 have:=BR (Q:=Q) (m:=m) hn hs hc aS aT (n-m) ((List.range n).drop m) (km m (l.length-m)) (km m (n-m)) a w (by simp) (List.nodup_range.sublist (List.drop_sublist _ _)) (fun i=>by
   rw[sE];constructor
   ·intro hi;obtain⟨k,hk,aX⟩:=List.mem_iff_getElem.1 hi;simp at hk aX;rw[if_neg (by omega),if_pos (by omega)];exact⟨by omega,rfl⟩
   ·rintro⟨hi,hu⟩;have aZ:m<=i:=by
     rcases Nat.lt_or_ge i m with g|g
     ·rw[if_pos g]at hu;cases hu
     ·exact g
    exact List.mem_iff_getElem.2 ⟨i-m,by simp;omega,by simp;omega⟩) hinv (fun i hi=>by rw[sE,if_pos hi]) (fun i hi=>by
   simp only[sE];constructor
   ·by_cases g:i<m
    ·rw[if_pos g,if_pos g]
    ·rw[if_neg g,if_neg g,if_pos (by omega),if_pos (by omega)]
   ·by_cases g:i<m
    ·rw[if_pos g,if_pos g]
    ·rw[if_neg g,if_neg g,if_pos (by omega),if_pos (by omega)]) hC hq
 rw[show n-m+(l.length-n)=l.length-m by omega]at this
 exact this
theorem uL{P:az}{C:aq->Prop}{K:Act->Prop}{a:Act}{o:aA}(t:aB)(parts:Array (Nat×Operand))(ho:o.op=.build t parts)(d:Option Tmp)(hd:o.dst=d)(cells:Array ax)
  (hf:P.built t (parts.map fun(i,x)=>(i,a.eval x)).toList=some cells) (hk:K (a.put d (ah cells))):o.quiet P a C K:=by
 subst hd
 exact⟨_,fun w hw=>by
  unfold Oper.quietAt execOp;simp only[ho,Sem.run_bind,run_build w t _ cells hf,Result.andThen_ok];exact⟨rfl,rfl⟩,hk⟩
theorem Hr{P:az}{id:Nat}{Q:Exit->Act->aq->Prop}{a:Act}{w:aq}{l:List aA}(n:Nat)(C:aq->Prop)(hm:P.follows .mixedOrders=true)(hB:ry l 0 n=true)(hC:C w.drew)
  (h:wpQuiet P (l.take n).toArray C (fun a'=>∀w',C w'->wpList P l.toArray Q (l.drop n) a' w') (l.take n) a):(Code.region id l.toArray true).wp P Q a w:=by
 refine wp_region_any hm ?_
 have h1:=BS (Q:=Q) hB (Nat.zero_le _) (fun j oj _ hj=>absurd hj (by omega)) hC h
 have e:(Array.replicate l.toArray.size false)=km 0 (l.length-0):=by simp[km]
 rw[e]
 exact h1
theorem Hs{P:az}{id:Nat}{Q:Exit->Act->aq->Prop}{a:Act}{w:aq}{o:aA}{l:List aA}(n:Nat)(C:aq->Prop)(hm:P.follows .mixedOrders=true)(hB:ry (o::l) 1 (n+1)=true)(hC:C w.drew)
  (x:Operand) (ho:o.op=.move x) (hg:o.guard=none) (ha:o.after=#[]) (hf:Region.free .any (o::l).toArray (Array.replicate (l.length+1) false) 0=true) (hQ:∀c a' w',Q (.panic c) (a'.put o.dst (a.eval x)) w'->Q (.panic c) a' w')
  (h:wpQuiet P ((o::l).take (n+1)).toArray C (fun a'=>∀w',C w'->wpList P (o::l).toArray Q (l.drop n) a' w') (l.take n) (a.put o.dst (a.eval x))):(Code.region id (o::l).toArray true).wp P Q a w:=by
 refine wp_region_any hm ?_
 have ad:=hB
 simp only[ry,Bool.and_eq_true,decide_eq_true_eq]at ad
 obtain⟨⟨⟨⟨⟨⟨⟨al,_⟩,_⟩,_⟩,_⟩,_⟩,_⟩,_⟩:=ad
 have h1:=BS (Q:=Q) (a:=a.put o.dst (a.eval x)) (w:=w.drew) hB (by omega) (fun j oj hj av e he hb=>by
  obtain rfl:j=0:=by omega
  have:oj=o:=by simpa using hj.symm
  rw[this,ha]at he;simp at he) hC (by simpa using h)
 have e1:(o::l).toArray.size=l.length+1:=by simp
 rw[e1]
 refine wpAny_take (i:=0) (oi:=o) (v:=a.eval x) (by simp) al hf ?_ hQ (.inl ⟨by simp[Region.wanted,hg],fun w'=>by simp[execOp,ho]⟩) ?_
 ·have:0∈Region.ready .any (o::l).toArray (Array.replicate (l.length+1) false):=mem_ready.2 ⟨by simp,o,by simp,fun e he=>by rw[ha]at he;simp at he⟩;simpa using this
 ·have e2:(Array.replicate (l.length+1) false).setIfInBounds 0 true=km 1 ((o::l).length-1):=by
   apply Array.ext_getElem?;intro i;unfold km;rcases i with _|i
   ·simp
   ·simp[Array.getElem?_replicate,List.getElem?_replicate]
  rw[e2];exact h1
theorem BU{P:az}{id:Nat}{Q:Exit->Act->aq->Prop}{a:Act}{w:aq}{l:List aA}(n m:Nat)(U:aq)(hU:aR m U w)(hm:P.follows .mixedOrders=true)(hB:ry l 0 n=true)
  (h:wpQuiet P (l.take n).toArray (fun V=>∃p:ka m U,V=p.w) (fun a'=>∀V,(∃p:ka m U,V=p.w)->wpList P l.toArray Q (l.drop n) a' V) (l.take n) a):(Code.region id l.toArray true).wp P Q a w:=
 Hr n _ hm hB ⟨⟨_,hU.drew⟩,rfl⟩ h
theorem uM{P:az}{id:Nat}{Q:Exit->Act->aq->Prop}{a:Act}{w:aq}{o:aA}{l:List aA}(n m:Nat)(U:aq)(hU:aR m U w)(hm:P.follows .mixedOrders=true)(hB:ry (o::l) 1 (n+1)=true)
  (x:Operand) (v:ax) (hv:a.eval x=v) (d:Option Tmp) (hd:o.dst=d) (ho:o.op=.move x) (hg:o.guard=none) (ha:o.after=#[]) (hf:Region.free .any (o::l).toArray (Array.replicate (l.length+1) false) 0=true) (hQ:∀c a' w',Q (.panic c) (a'.put d v) w'->Q (.panic c) a' w')
  (h:wpQuiet P ((o::l).take (n+1)).toArray (fun V=>∃p:ka m U,V=p.w) (fun a'=>∀V,(∃p:ka m U,V=p.w)->wpList P (o::l).toArray Q (l.drop n) a' V) (l.take n) (a.put d v)):(Code.region id (o::l).toArray true).wp P Q a w:=by
 subst hv;subst hd
 exact Hs n _ hm hB ⟨⟨_,hU.drew⟩,rfl⟩ x ho hg ha hf hQ h
theorem kf(a b:Int):prog.built 150 [(0,ae .u32 a),(1,ae aj b)]=some #[ae .u32 a,ae aj b]:=by kernel_rfl
theorem tt(w:aq)(x n:Nat)(hx:x<4294967296)(hn:n<=32):
  aw prog 115 #[ah #[ae .u32 (x:Int),ae .u8 (n:Int)]] w fun e w'=>e=ao (ah #[ae .u32 ((PI x n:Nat):Int),ae aj (n:Int)])/\aR w.heap.size w w':=by
 obtain⟨U,hU⟩:=fY ((w.alloc (ak #[ae .u32 (x:Int),ae .u8 (n:Int)] 176)).alloc (ak #[ae .u32 0,ae aj 0] 150))
 have h0:U.heap[w.heap.size]?=some (ak #[ae .u32 (x:Int),ae .u8 (n:Int)] 176 (0,0)):=by rw[hU];exact heap_alloc2_old w _ _
 have h1:U.heap[w.heap.size+1]?=some (ak #[ae .u32 0,ae aj 0] 150 (0,0)):=by rw[hU];exact heap_alloc2_new w _ _
 have hb:aR w.heap.size w U:=by rw[hU];exact((Below.refl w.heap.size w).alloc fZ _).alloc (by simp) _
 have ad:w.heap.size<U.heap.size:=(Array.getElem?_eq_some_iff.1 h0).1
 have av:w.heap.size+1<U.heap.size:=(Array.getElem?_eq_some_iff.1 h1).1
 have c0:∀p:ka U.heap.size U,p.w.cell? ⟨w.heap.size,0,none⟩=some (ae .u32 (x:Int)):=fun p=>by
  rw[p.h.cell (p:=⟨w.heap.size,0,none⟩) ad,aH U _ 0 _ _ (0,0) h0];rfl
 have c1:∀p:ka U.heap.size U,p.w.cell? ⟨w.heap.size,1,none⟩=some (ae .u8 (n:Int)):=fun p=>by
  rw[p.h.cell (p:=⟨w.heap.size,1,none⟩) ad,aH U _ 1 _ _ (0,0) h0];rfl
 obtain⟨y,hy⟩:=fY (PI x n)
 have T1:∀V,aR U.heap.size U V->aw prog 143 #[ae .u32 (x:Int),ae aj (n:Int)] V fun e V'=>e=ao (ae .u32 (y:Int))/\aR U.heap.size U V':=fun V hV=>by
  rw[hy];exact(G4 x n V hx hn).mono fun e V' ⟨a,b⟩=>⟨a,b▸hV⟩
 rw[<-hy]
 have al:=kf (y:Int) (n:Int)
 obtain⟨X,hX⟩:∃X:Array ax,X=#[ae .u32 (y:Int),ae aj (n:Int)]:=⟨_,rfl⟩
 obtain⟨x1,x2⟩:X.size=2/\X.all (·.oneCell')=true:=by rw[hX];exact⟨rfl,by simp[Value.oneCell']⟩
 have x3:(prog.info? 150).map (·.size)=some X.size:=by rw[x1];exact Hg
 rw[<-hX]at al⊢
 have X1:=fX x1;have X2:=fX x2;have X3:=fX x3;have aS:=fX al
 clear hX x1 x2 x3 al
 have HB:=fX hb;have H1:=fX h1;have HU:=fX hU;have TT:=fX T1;have aT:=fX av
 clear hb h0 h1 hU ad av hy T1 hx
 go_enter func115,ntmps115
 go_wp2_with fail
 rw[<-HU.out]
 refine BU 9 U.heap.size U gC (by kernel_rfl) (by kernel_rfl) ?_
 simp only[List.take_succ_cons,List.take_zero,List.drop_succ_cons,List.drop_zero]
 repeat (go_big_quiet_step (with_reducible exact mR TT.out _))
 refine wpQuiet_nil ?_
 rintro V ⟨⟨V,hV⟩,rfl⟩
 have h2:=(hV.block _ aT.out).trans H1.out
 have HV:=fX (HB.out.trans (hV.mono HB.out.size));have H2:=fX h2
 clear hV h2 c0 c1
 go_wp2_with (first
  |(refine wpList_buildTo rfl 150 #[(0,.tmp 8),(1,.tmp 11)] rfl (some 12) rfl X ?_ ?_;focus(simpa[Act.eval]using aS.out))
  |(refine aC rfl _ _ _ rfl rfl (w.heap.size+1) X rfl rfl 150 #[ae .u32 0,ae aj 0] H2.out X3.out (by rw[X1.out];rfl) X2.out ?_)
  |fail)
 refine aK (v:=ah X) ?_ rfl ⟨rfl,ln HV.out (by omega) _⟩
 exact results_cell_row rfl _ _ (w.heap.size+1) _ _ (0,0) _ rfl (aI _ _ _ _ _ _ H2.out) underlying150 rfl X3.out
def iE:gA:=⟨0,0,0⟩
def jb(t:gA):List ax:=[ae .u8 (t.x:Int),ae aj t.d,ae aj t.n]
def PO:List gA->List ax
 |[]=>[]
 |t::l=>jb t++PO l
theorem BV:∀l,(PO l).length=l.length*3
 |[]=>rfl
 |t::l=>by simp only[PO,List.length_append,List.length_cons,BV l];simp[jb];omega
theorem xw:∀l m,PO (l++m)=PO l++PO m
 |[],_=>rfl
 |t::l,m=>by simp[PO,xw l m]
theorem uN:∀(l:List gA) (j i:Nat),j<l.length->i<3->(PO l)[j*3+i]?=(jb (l.getD j iE))[i]?
 |[],j,i,h,_=>absurd h (by simp)
 |t::l,0,i,_,hi=>by
  simp only[PO,Nat.zero_mul,Nat.zero_add];rw[List.getElem?_append_left (by simpa[jb]using hi)];rfl
 |t::l,j+1,i,h,hi=>by
  simp only[PO];rw[List.getElem?_append_right (by simp[jb];omega)];have e:(j+1)*3+i-(jb t).length=j*3+i:=by simp[jb];omega
  rw[e,uN l j i (by simpa using h) hi];rfl
theorem BW:(prog.info? 128).map (fun i=>(i.zero,i.size,i.bytes))=some (some (ah #[ae .u8 0,ae aj 0,ae aj 0]),3,24):=by kernel_rfl
theorem sF:(prog.info? 128).map (·.size)=some 3:=by kernel_rfl
def jL(w:aq)(B:Nat)(A:Option au)(l:List gA):Prop:=gX w B 3 A l.length (PO l)
theorem jL.below{w w':aq}{B B':Nat}{A:Option au}{l:List gA}(h:jL w B A l)(hb:aR B' w w')(hB:B<=B'):jL w' B A l:=gX.below h hb hB
theorem jL.more{w:aq}{B B':Nat}{A:Option au}{l:List gA}(h:jL w B A l)(hB:B<=B'):jL w B' A l:=gX.more h hB
theorem jL.nil(w:aq)(B:Nat)(A:Option au):jL w B A []:=gX.none_ w B 3 A
theorem jL.gR{w:aq}{base c n:Nat}{A:Option au}{l:List gA}(h:w.ownsRow base 128 3 (af A n c) n (PO l)):n=l.length/\jL w w.heap.size A l:=by
 have h1:=gX.gR h;have h2:=h1.1;rw[BV]at h2;obtain rfl:n=l.length:=by omega
 exact⟨rfl,h1⟩
theorem jL.at{w:aq}{B:Nat}{A:Option au}{l:List gA}(h:jL w B A l){k:Nat}(hk:k<l.length):∃b o,A=some ⟨b,o,none⟩/\b<B/\∀j,j<l.length->
  w.cell? ⟨b,o+j*3,none⟩=some (ae .u8 ((l.getD j iE).x:Int))/\w.cell? ⟨b,o+j*3+1,none⟩=some (ae aj (l.getD j iE).d)/\w.cell? ⟨b,o+j*3+2,none⟩=some (ae aj (l.getD j iE).n):=by
 obtain⟨b,o,h1,h2,h3⟩:=h.2 (by omega)
 refine⟨b,o,h1,h2,fun j hj=>⟨?_,?_,?_⟩⟩
 ·have:=h3 (j*3+0) _ ((uN l j 0 hj (by omega)).trans rfl);simpa using this
 ·have:=h3 (j*3+1) _ ((uN l j 1 hj (by omega)).trans rfl);rw[show o+j*3+1=o+(j*3+1) by omega];exact this
 ·have:=h3 (j*3+2) _ ((uN l j 2 hj (by omega)).trans rfl);rw[show o+j*3+2=o+(j*3+2) by omega];exact this
theorem jL.range{w:aq}{B:Nat}{A:Option au}{l:List gA}(h:jL w B A l){b o:Nat}(hA:A=some ⟨b,o,none⟩){j:Nat}(hj:j<l.length):w.rangeAt b (o+j*3) (jb (l.getD j iE)):=by
 obtain⟨b',o',h1,_,h3⟩:=h.at hj;rw[hA]at h1;injection h1 with h1
 injection h1 with hb ho _
 subst hb;subst ho;obtain⟨c0,c1,c2⟩:=h3 j hj;intro i v hv;rcases i with _|_|_|i
 ·simp[jb]at hv;subst hv;exact c0
 ·simp[jb]at hv;subst hv;exact c1
 ·simp[jb]at hv;subst hv;exact c2
 ·simp[jb]at hv
theorem pV(w:aq)(base:Nat)(A:Option au)(n c:Nat)(l:List gA)(al:w.ownsRow base 128 3 (af A n c) n (PO l))(t:gA)(hn:n<=1000000)(ad:base<=w.heap.size):
  ∃A' c' w',(Builtin.append_ #[79,79] 79 #[af A n c,af (some ⟨w.heap.size,0,none⟩) 1 1]).run prog (w.alloc (ak #[ae .u8 (t.x:Int),ae aj t.d,ae aj t.n] 128))=.ok (af A' (n+1) c') w'/\
   w'.ownsRow base 128 3 (af A' (n+1) c') (n+1) (PO (l++[t]))/\aR base w w':=by
 have av:aR base w (w.alloc (ak #[ae .u8 (t.x:Int),ae aj t.d,ae aj t.n] 128)):=(Below.refl base w).alloc ad _
 obtain⟨A',c',w',h2,o2,b2⟩:=oP (kl:=24) underlying79 BW rfl (by decide) (w.alloc (ak #[ae .u8 (t.x:Int),ae aj t.d,ae aj t.n] 128)) base _ (af A n c) n _ (al.alloc _) _ 1 1 _
  (gX.new w 3 1 #[ae .u8 (t.x:Int),ae aj t.d,ae aj t.n] 128 rfl) (fun u hu=>by simp at hu;rcases hu with rfl|rfl|rfl<;>rfl) (by unfold maxLen;omega) (by omega) 79 (fun h=>by cases h) (Nat.le_trans ad av.size)
 refine⟨A',c',w',h2,?_,av.trans b2⟩
 rw[xw]
 exact o2
theorem BZ(f:Nat->Nat)(least:Nat):∀k,k<=least->PE f least k=least
 |0,_=>rfl
 |k+1,h=>by simp only[PE];rw[if_neg (by omega)];exact BZ f least k (by omega)
theorem xx(w:aq)(A:Option au)(n c:Nat)(f:Nat->Nat)(least:Nat)(hr:gE w w.heap.size A n f)(hl:least<=n)(hn:n<=1000000)(aU:n<=c)(hc:c<=maxLen)(m:Nat)(hm:m=PE f least n):
  aw prog 119 #[af A n c,ae aj (least:Int)] w fun e w'=>e=ao (af A m c)/\w=w':=by
 unfold maxLen at hc
 have HR:=fX hr;have HM:=fX hm
 have aV:m<=n:=by rw[hm];exact qv f least n hl
 clear hr hm
 go_enter func119,ntmps119
 go_wp2
 go_loopw [5,6] (fun nv iv wr=>∃i k:Nat,least<=i/\i<=n/\k<=n/\nv=ae aj (k:Int)/\iv=ae aj (i:Int)/\aQ (k=PE f least i)/\w=wr) (fun _ iv _=>n-(aP iv).toNat)
 case atStart=>exact⟨least,least,Nat.le_refl _,hl,hl,rfl,rfl,fX (BZ f least least fZ).symm,rfl⟩
 case round=>
  obtain⟨i,k,hi,aW,hk,rfl,rfl,HK,rfl⟩:=hrel;by_cases aT:i<n
  ·have av:(i:Int)<(n:Int):=by omega
   obtain⟨b,o,rfl,_,aS⟩:=HR.out.2 (by omega);have e1:=aS i aT;obtain⟨x,hx⟩:=fY (f i);rw[<-hx]at e1;have ad:PE f least (i+1)=if x=0 then k else i+1:=by
    simp only[PE];rw[<-hx,HK.out];by_cases h0:x=0
    ·rw[if_pos h0,if_neg (fun h=>h.2 h0)]
    ·rw[if_neg h0,if_pos ⟨hi,h0⟩]
   clear aS hx;by_cases h0:x=0
   ·rw[if_pos h0]at ad;have al:=fX ad;have d1:((x:Int) !=0)=false:=by simp;omega
    have d2:(x !=0)=false:=by simpa using h0
    clear ad h0;go_wp2;go_roundw
    case rel=>exact⟨i+1,k,by omega,by omega,hk,rfl,by go_num,fX al.out.symm,trivial⟩
    case measure=>simp[aP];omega
   ·rw[if_neg h0]at ad;have al:=fX ad;have d1:((x:Int) !=0)=true:=by simp;omega
    have d2:(x !=0)=true:=by simpa using h0
    clear ad h0;go_wp2;go_roundw
    case rel=>exact⟨i+1,i+1,by omega,by omega,by omega,by go_num,by go_num,fX al.out.symm,trivial⟩
    case measure=>simp[aP];omega
  ·obtain rfl:i=n:=by omega
   have av:¬(i:Int)<(i:Int):=by omega
   obtain rfl:k=m:=HK.out.trans HM.out.symm;go_wp2;go_ret;exact⟨rfl,rfl⟩
theorem uO(l:List (Nat×Nat))(i:Nat):Pq (l.take i)<=Pq l:=by
 have:=iQ (l.take i) (l.drop i);rw[List.take_append_drop]at this;omega
theorem Ht(l:List (Nat×Nat)){i:Nat}(h:i<l.length):Pq (l.take (i+1))=Pq (l.take i)+(l.getD i nC).2:=by
 rw[List.take_add_one,iQ,List.getElem?_eq_getElem h,List.getD_eq_getElem?_getD,List.getElem?_eq_getElem h];simp[Pq]
theorem B8(w:aq)(A:Option au)(n c:Nat)(l:List (Nat×Nat))(hn:n=l.length)(hr:lJ w w.heap.size A l)(hl:n<=1000000)(hb:Pq l<=1000000000):
  aw prog 74 #[af A n c] w fun e w'=>e=ao (ae aj ((Pq l:Nat):Int))/\w=w':=by
 have HR:=fX hr;have HB:=fX hb;have HN:=fX hn
 obtain⟨z,hz⟩:=fY (Pq l)
 rw[<-hz]
 have HZ:=fX hz
 clear hr hb hn hz
 go_enter func74,ntmps74
 go_wp2
 go_loopw [3,4] (fun nv iv wr=>∃i k:Nat,i<=n/\k<=1000000000/\nv=ae aj (k:Int)/\iv=ae aj (i:Int)/\aQ (k=Pq (l.take i))/\w=wr) (fun _ iv _=>n-(aP iv).toNat)
 case atStart=>exact⟨0,0,Nat.zero_le _,Nat.zero_le _,rfl,rfl,fX rfl,rfl⟩
 case round=>
  obtain⟨i,k,aV,hk,rfl,rfl,HK,rfl⟩:=hrel;by_cases aS:i<n
  ·have al:i<l.length:=by rw[<-HN.out];exact aS
   obtain⟨b,o,rfl,_,av⟩:=HR.out.at al;have e1:=(av i al).2;have ad:=Ht l al;have hle:=Nat.le_trans (uO l (i+1)) HB.out;obtain⟨x,hx⟩:=fY ((l.getD i nC).2);rw[<-hx]at e1 ad;rw[ad,<-HK.out]at hle;rw[<-HK.out]at ad;have aT:=fX ad;clear av hx ad;go_wp2;go_roundw
   case rel=>exact⟨i+1,k+x,by omega,by omega,by go_num,by go_num,fX aT.out.symm,trivial⟩
   case measure=>simp[aP];omega
  ·obtain rfl:i=n:=by omega
   have aU:¬(i:Int)<(i:Int):=by omega
   obtain rfl:k=z:=by rw[HK.out,HZ.out,HN.out,List.take_length]
   go_wp2;go_ret;exact⟨rfl,rfl⟩
theorem Hu{B:Nat}{a w:aq}(h:aR B a w)(n:Nat):aR B a (w.drewN n):=⟨h.os,h.tape,h.output,h.size,h.block⟩
def jm(w:aq)(g n:Nat)(x l:Nat->Nat):Prop:=
 ∃cur:Array ax,w.heap[g]?=some (ak cur 176 (0,0))/\∀j,j<n->cur[j*2]?=some (ae .u32 (x j:Int))/\cur[j*2+1]?=some (ae .u8 (l j:Int))
theorem jm.lt{w:aq}{g n:Nat}{x l:Nat->Nat}(h:jm w g n x l):g<w.heap.size:=by
 obtain⟨cur,h1,_⟩:=h;exact(Array.getElem?_eq_some_iff.1 h1).1
theorem jm.cell{w:aq}{g n:Nat}{x l:Nat->Nat}(h:jm w g n x l){j:Nat}(hj:j<n):w.cell? ⟨g,j*2,none⟩=some (ae .u32 (x j:Int))/\w.cell? ⟨g,j*2+1,none⟩=some (ae .u8 (l j:Int)):=by
 obtain⟨cur,h1,h2⟩:=h;rw[aH w g _ _ _ (0,0) h1,aH w g _ _ _ (0,0) h1];exact h2 j hj
theorem jm.frozen{w:aq}{g n:Nat}{x l:Nat->Nat}(h:jm w g n x l)(j:Nat):w.frozen? ⟨g,j,none⟩=false:=by
 obtain⟨cur,h1,_⟩:=h;exact aO w g j _ _ h1
theorem jm.ext{w:aq}{g n:Nat}{x l x' l':Nat->Nat}(h:jm w g n x l)(ex:∀j,j<n->x j=x' j)(el:∀j,j<n->l j=l' j):jm w g n x' l':=by
 obtain⟨cur,h1,h2⟩:=h;exact⟨cur,h1,fun j hj=>by rw[<-ex j hj,<-el j hj];exact h2 j hj⟩
theorem jm.below{w w':aq}{g n B:Nat}{x l:Nat->Nat}(h:jm w g n x l)(hb:aR B w w')(hg:g<B):jm w' g n x l:=by
 obtain⟨cur,h1,h2⟩:=h;exact⟨cur,(hb.block g hg).trans h1,h2⟩
theorem jm.other{w:aq}{g n:Nat}{x l:Nat->Nat}(h:jm w g n x l){p:au}(hp:g≠p.block)(u:ax):jm (w.setCell p u) g n x l:=by
 obtain⟨cur,h1,h2⟩:=h;exact⟨cur,(Below.heap_setCell w p u g hp).trans h1,h2⟩
theorem jm.set{w:aq}{g n:Nat}{x l:Nat->Nat}(h:jm w g n x l)(i a b:Nat):jm ((w.setCell ⟨g,i*2,none⟩ (ae .u32 (a:Int))).setCell ⟨g,i*2+1,none⟩ (ae .u8 (b:Int))) g n (gL x i a) (gL l i b):=by
 obtain⟨cur,h1,h2⟩:=h;refine⟨(cur.setIfInBounds (i*2) (ae .u32 (a:Int))).setIfInBounds (i*2+1) (ae .u8 (b:Int)),aN _ g _ _ _ _ (aN w g _ cur _ _ h1),fun j hj=>?_⟩;have hs:j*2+1<cur.size:=by
  rcases Nat.lt_or_ge (j*2+1) cur.size with h|h
  ·exact h
  ·have:=(h2 j hj).2;rw[Array.getElem?_eq_none h]at this;cases this
 have h3:=h2 j hj;simp only[Array.getElem?_setIfInBounds,Array.size_setIfInBounds,gL];by_cases e:j=i
 ·subst e;constructor
  ·rw[if_neg (by omega),if_pos rfl,if_pos (by omega),if_pos rfl]
  ·rw[if_pos rfl,if_pos (by omega),if_pos rfl]
 ·constructor
  ·rw[if_neg (by omega),if_neg (by omega),if_neg e];exact h3.1
  ·rw[if_neg (by omega),if_neg (by omega),if_neg e];exact h3.2
def Hv(base:Nat)(w:aq)(A:Option au)(n:Nat)(x l:Nat->Nat):Prop:=n=0\/∃g,A=some ⟨g,0,none⟩/\base<=g/\jm w g n x l
def lp(_:Nat):Nat:=0
theorem B9:(prog.info? 176).map (fun i=>(i.zero,i.size,i.bytes))=some (some (ah #[ae .u32 0,ae .u8 0]),2,8):=by kernel_rfl
theorem Ca(w:aq)(n:Nat):jm (w.alloc (ak (aJ #[ae .u32 0,ae .u8 0] (n*2)) 176)) w.heap.size n lp lp:=by
 refine⟨_,aG w _,fun j hj=>?_⟩;unfold aJ lp;have e1:j*2%2=0:=by omega
 have e2:(j*2+1)%2=1:=by omega
 constructor
 ·simp[show j*2<n*2 by omega,e1]
 ·simp[show j*2+1<n*2 by omega,e2]
theorem Hw(w:aq)(m:Nat)(hm:m<256):
  aw prog 142 #[ae .u8 (m:Int)] w fun e w'=>e=ao (ae aj (pt m:Nat))/\w=w':=by
 go_enter func142,ntmps142
 go_wp2
 go_loop [3,4] (fun p i=>∃k:Nat,k<=m/\i=ae aj k/\p=ae aj (pt k:Nat)) (fun _ i=>m-(aP i).toNat)
 case atStart=>exact⟨0,Nat.zero_le _,rfl,rfl⟩
 case round=>
  obtain⟨k,hk,rfl,rfl⟩:=hrel;have hp:=AE k;have H:=fX (Gn k);obtain⟨p,ad⟩:=fY (pt k);rw[<-ad]at hp H⊢;have HP:=fX ad;clear ad;by_cases al:k<m
  ·go_wp2;refine⟨⟨k+1,al,by go_num,kJ ?_⟩,by simp[aP];omega⟩;rw[H.out];omega
  ·obtain rfl:k=m:=by omega
   clear al hk;go_wp2;go_ret;exact⟨nj (by rw[HP.out]),rfl⟩
def mS(f:Nat->Nat)(m i j:Nat):Bool:=decide (0<f j/\(f j<m\/(f j=m/\j<i)))
def mf(f:Nat->Nat)(n m i j:Nat):Nat:=if mS f m i j=true then iO f n j else 0
def mg(f:Nat->Nat)(m i j:Nat):Nat:=if mS f m i j=true then f j else 0
theorem Cb{f:Nat->Nat}{n m i:Nat}(h:f i=m)(hm:0<m):gL (mf f n m i) i (iO f n i)=mf f n m (i+1)/\gL (mg f m i) i m=mg f m (i+1):=by
 have hb:∀j,j≠i->mS f m i j=mS f m (i+1) j:=fun j hj=>by unfold mS;rw[decide_eq_decide];omega
 have hi:mS f m (i+1) i=true:=decide_eq_true (by omega);constructor
 ·funext j;unfold gL;by_cases e:j=i
  ·subst e;rw[if_pos rfl];unfold mf;rw[hi,if_pos rfl]
  ·rw[if_neg e];unfold mf;rw[hb j e]
 ·funext j;unfold gL;by_cases e:j=i
  ·subst e;rw[if_pos rfl];unfold mg;rw[hi,if_pos rfl,h]
  ·rw[if_neg e];unfold mg;rw[hb j e]
theorem Hx{f:Nat->Nat}{n m i:Nat}(h:f i≠m):mf f n m i=mf f n m (i+1)/\mg f m i=mg f m (i+1):=by
 have hb:∀j,mS f m i j=mS f m (i+1) j:=fun j=>by
  unfold mS;rw[decide_eq_decide];by_cases e:j=i
  ·subst e;omega
  ·omega
 constructor
 ·funext j;unfold mf;rw[hb j]
 ·funext j;unfold mg;rw[hb j]
theorem Cc{f:Nat->Nat}{n m j:Nat}(hj:j<n):mf f n m n j=mf f n (m+1) 0 j/\mg f m n j=mg f (m+1) 0 j:=by
 have hb:mS f m n j=mS f (m+1) 0 j:=by unfold mS;rw[decide_eq_decide];omega
 constructor
 ·unfold mf;rw[hb]
 ·unfold mg;rw[hb]
theorem Cd(f:Nat->Nat)(n j:Nat):lp j=mf f n 1 0 j/\lp j=mg f 1 0 j:=by
 have hb:mS f 1 0 j=false:=decide_eq_false (by omega);constructor
 ·unfold mf;rw[hb];rfl
 ·unfold mg;rw[hb];rfl
theorem Ce{f:Nat->Nat}{n j:Nat}(h:f j<=15):mf f n 16 0 j=iO f n j/\mg f 16 0 j=f j:=by
 by_cases h0:0<f j
 ·have hb:mS f 16 0 j=true:=decide_eq_true (by omega);constructor
  ·unfold mf;rw[hb,if_pos rfl]
  ·unfold mg;rw[hb,if_pos rfl]
 ·have hb:mS f 16 0 j=false:=decide_eq_false (by omega);constructor
  ·unfold mf;rw[hb,if_neg (by decide)];unfold iO;rw[if_pos (by omega)]
  ·unfold mg;rw[hb,if_neg (by decide)];omega
theorem Hy(f:Nat->Nat)(n m:Nat)(hm:0<m):kT f n m n=kT f n (m+1) 0:=by
 obtain⟨k,rfl⟩:∃k,m=k+1:=⟨m-1,by omega⟩;unfold kT;rw[Nat.add_sub_cancel,Nat.add_sub_cancel];simp only[kA,lE];omega
theorem Hz{f:Nat->Nat}{n m i:Nat}(hi:i<=n)(hm:0<m)(ad:m<=15)(h:∀j,j<n->f j<=15)(ha:Pz f n<=32768):kT f n m i<=32768:=by
 rw[tb f n h]at ha;have h1:=AF f m hi;have h2:=AG f n ad;obtain⟨k,rfl⟩:∃k,m=k+1:=⟨m-1,by omega⟩;have e:kA f n (k+1)=kA f n k+lE f (k+1) n:=rfl;unfold kT;rw[Nat.add_sub_cancel];omega
theorem Qm(q:Nat)(h:q<=32768):wrap64 (q:Int)%4294967296=(q:Int):=by unfold wrap64;omega
theorem xA(w:aq)(A:Option au)(n c:Nat)(f:Nat->Nat)(hr:gE w w.heap.size A n f)(hn:n<=1000)(a4:∀j,j<n->f j<=15)(ha:Pz f n<=32768):
  aw prog 114 #[af A n c] w fun e w'=>e=ao (af (some ⟨w.heap.size,0,none⟩) n n)/\aR w.heap.size w w'/\jm w' w.heap.size n (iO f n) f:=by
 obtain⟨i0,hi,bd,bf,bg⟩:=info_parts B9
 have bj:∀u:aq,(Instr.makeSlice 137 (ae aj (n:Int)) (ae aj (n:Int))).run prog u=
   .ok (af (some ⟨u.heap.size,0,none⟩) n n) (u.alloc (ak (aJ #[ae .u32 0,ae .u8 0] (n*2)) 176)):=fun u=>by
  have h:=run_make (P:=prog) u 137 176 i0 (ah #[ae .u32 0,ae .u8 0]) underlying137 hi bd aj aj (n:Int) (n:Int) (by omega) (Int.le_refl _) (by rw[bg];omega) (by omega)
  rw[Int.toNat_natCast]at h
  simpa[bf,Value.cells]using h
 have HR:=fX hr;have aX:=fX a4;have HA:=fX ha
 clear hr a4 ha
 go_enter func114,ntmps114
 go_wp2
 clear bj
 go_loopw [4,5,6] (fun a m _ wr=>∃k:Nat,1<=k/\k<=16/\m=ae aj k/\a=ae aj (kT f n k 0:Nat)/\jm wr w.heap.size n (mf f n k 0) (mg f k 0)/\aR w.heap.size w wr) (fun _ m _ _=>16-(aP m).toNat)
 case atStart=>
  exact⟨1,Nat.le_refl _,by omega,rfl,rfl,(Ca w n).ext (fun j _=>(Cd f n j).1) (fun j _=>(Cd f n j).2),gC.alloc fZ _⟩
 case round=>
  obtain⟨k,a5,hk,rfl,rfl,ad,hb⟩:=hrel;obtain⟨wo,rfl⟩:∃wo:aq,wo=wr:=⟨_,rfl⟩;by_cases bk:k<16
  ·have hd:decide ((k:Int)<=15)=true:=by simp;omega
   have bl:(k:Int)%256=k:=by omega
   have aT:=fX ad;have HB:=fX hb
   clear ad hb;obtain⟨a0,aY⟩:=fY (kT f n k 0);have bm:=fX aY;rw[<-aY];clear aY;go_wp2;go_loopw [4,6] (fun a i wi=>∃j:Nat,j<=n/\i=ae aj j/\a=ae aj (kT f n k j:Nat)/\jm wi w.heap.size n (mf f n k j) (mg f k j)/\aR w.heap.size w wi) (fun _ i _=>n-(aP i).toNat)
   case atStart=>exact⟨0,Nat.zero_le _,rfl,by rw[bm.out],aT.out,HB.out⟩
   case round=>
    obtain⟨j,hj,rfl,rfl,ad,hb⟩:=hrel;have a6:=Hz hj a5 (by omega) aX.out HA.out;by_cases aS:j<n
    ·obtain⟨b,o,rfl,bq,hc⟩:=(HR.out.below hb fZ).2 (by omega);have aZ:=hc j aS;clear hc;have br:=HR.out.1 j;by_cases he:f j=k
     ·have bn:=wS (m:=k) (by omega);have a7:=AE k;have bt:=(ad.cell aS).1;have bu:=(ad.cell aS).2;have bx:=ad.frozen (j*2);have bz:=ad.frozen (j*2+1);have aU:iO f n j=kT f n k j/pt k:=by unfold iO;rw[if_neg (by omega),he]
      have al:kT f n k (j+1)=kT f n k j+pt k:=by unfold kT;simp only[lE];rw[if_pos he];omega
      have av:=fX ad;have aV:=fX hb;have HC:=fX aU;have HS:=fX al;have HE:=fX he
      have a8:((f j:Nat):Int)=(k:Int):=by omega
      rw[a8]at aZ;have bA:((k:Int)==(k:Int))=true:=by simp
      clear ad hb aU al he a8;obtain⟨a,a1⟩:=fY (kT f n k j);obtain⟨p,a2⟩:=fY (pt k);have a9:=fX a1;have a3:=fX a2
      rw[<-a1]at a6⊢;rw[<-a2]at bn a7;clear a1 a2;have hdiv:a/p<=32768:=Nat.le_trans (Nat.div_le_self _ _) a6;go_wp2_with (go_at_call 142;refine(Hw _ k (by omega)).mono ?_;rintro e w' ⟨rfl,rfl⟩;rw[<-a3.out])
      go_roundw
      case rel=>
       have bp:wrap64 ((a:Int)/(p:Int))%4294967296=((iO f n j:Nat):Int):=by
        rw[HC.out,<-a9.out,<-a3.out,<-Int.natCast_ediv];exact Qm _ hdiv
       have aW:=av.out.set j (iO f n j) k;rw[(Cb HE.out (by omega)).1,(Cb (n:=n) HE.out (by omega)).2]at aW;refine⟨j+1,by omega,by go_num,kJ (by rw[HS.out,<-a9.out,<-a3.out];omega),by rw[bp];exact aW,?_⟩;exact(aV.out.setCell fZ _).setCell fZ _
      case measure=>simp[aP];omega
     ·have al:kT f n k (j+1)=kT f n k j:=by unfold kT;simp only[lE];rw[if_neg he];omega
      have bB:(((f j:Nat):Int)==(k:Int))=false:=by simp;omega
      have hm:=Hx (n:=n) he;have av:=fX ad;have aV:=fX hb;have HS:=fX al;have HM:=fX hm
      clear ad hb al hm;go_wp2;go_roundw
      case rel=>
       refine⟨j+1,by omega,by go_num,by rw[HS.out],?_,aV.out⟩;rw[<-HM.out.1,<-HM.out.2];exact av.out
      case measure=>simp[aP];omega
    ·obtain rfl:j=n:=by omega
     have av:=fX ad;have aV:=fX hb
     have HN:=fX (Hy f j k a5);clear ad hb aS hj;go_wp2;go_roundw
     case rel=>exact⟨k+1,by omega,by omega,by go_num,by rw[HN.out],av.out.ext (fun i hi=>(Cc hi).1) (fun i hi=>(Cc (n:=j) hi).2),aV.out⟩
     case measure=>simp[aP];omega
  ·obtain rfl:k=16:=by omega
   have aT:=fX ad;have HB:=fX hb
   clear ad hb bk hk;go_wp2;go_ret;exact⟨rfl,HB.out,aT.out.ext (fun j hj=>(Ce (aX.out j hj)).1) (fun j hj=>(Ce (n:=n) (aX.out j hj)).2)⟩
theorem rz(a b:ax):(prog.info? 176).map (·.size)=some [a,b].length:=by kernel_rfl
theorem jm.range{w:aq}{g n:Nat}{x l:Nat->Nat}(h:jm w g n x l){j:Nat}(hj:j<n):w.rangeAt g (j*2) [ae .u32 (x j:Int),ae .u8 (l j:Int)]:=by
 obtain⟨c0,c1⟩:=h.cell hj;intro i v hv;rcases i with _|_|i
 ·simp at hv;subst hv;exact c0
 ·simp at hv;subst hv;exact c1
 ·simp at hv
theorem tu{F:Nat->Nat}{n:Nat}(ad:∀j,F j<=15)(ha:Pz F n<=32768){j:Nat}(hj:j<n):iO F n j<4294967296:=by
 have h1:=wU hj (fun j _=>ad j) ha;have h2:(2:Nat)^F j<=2^15:=Nat.pow_le_pow_right (by omega) (ad j);have h3:(2:Nat)^15=32768:=rfl;omega
structure xB (l:List gA) (n k:Nat):Prop where
 may:∀t∈l,gS t=true/\t.x<256
 a:∀t∈l,jt t<n
 b:∀t∈l,t.n≠0->kV t<k
theorem Cf{l:List gA}{i:Nat}(h:i<l.length):l.getD i iE∈l:=by
 rw[List.getD_eq_getElem?_getD,List.getElem?_eq_getElem h];exact List.getElem_mem h
theorem Ia{F:Nat->Nat}{n:Nat}{G:Nat->Nat}{k:Nat}{l:List gA}{i:Nat}(h:i<l.length):(l.take (i+1)).flatMap (iR F n G k)=(l.take i).flatMap (iR F n G k)++iR F n G k (l.getD i iE):=by
 rw[List.take_add_one,List.flatMap_append,List.getElem?_eq_getElem h,List.getD_eq_getElem?_getD,List.getElem?_eq_getElem h];simp
theorem uP(w:aq)(A2:Option au)(m c2:Nat)(l:List gA)(A:Option au)(n c:Nat)(F:Nat->Nat)(B:Option au)(k d:Nat)(G:Nat->Nat)(hm:m=l.length)(hr:jL w w.heap.size A2 l)(aW:gE w w.heap.size A n F)(a4:gE w w.heap.size B k G)
  (db:m<=100000) (hn:n<=1000) (hk:k<=1000) (hF:∀j,F j<=15) (hG:∀j,G j<=15) (bT:Pz F n<=32768) (cg:Pz G k<=32768) (bI:256<n) (ch:xB l n k):
  aw prog 94 #[af A2 m c2,af A n c,af B k d] w fun e w'=>∃A' n' c',e=ao (af A' n' c')/\kF w' w'.heap.size A' n' c' (jh F n G k l)/\aR w.heap.size w w':=by
 have cj:=xA w A n c F aW hn (fun j _=>hF j) bT
 have ck:=fX cj;have cJ:=fX a4;have HT:=fX hr;have HF:=fX hF;have HG:=fX hG;have bU:=fX bT;have cl:=fX cg;have bV:=fX ch;have HM:=fX hm
 clear cj a4 hr hF hG bT cg ch aW hm
 go_enter func94,ntmps94
 go_wp2_with fail
 refine ck.out.mono ?_
 rintro e w1 ⟨rfl,bB,a5⟩
 obtain⟨ga,bC⟩:=fY (w.heap.size)
 rw[<-bC]at a5
 have cm:=xA w1 B k d G ((cJ.out.below bB fZ).more bB.size) hk (fun j _=>HG.out j) cl.out
 have cn:=fX cm;have cp:=fX bB;have bW:=fX a5;have dc:=fX bC
 rw[<-bC]
 clear cm bB a5 bC
 go_wp2_with fail
 refine cn.out.mono ?_
 rintro e w2 ⟨rfl,bX,aX⟩
 obtain⟨gb,bY⟩:=fY (w1.heap.size)
 rw[<-bY]at aX
 rw[<-bY]
 have bg:jm w2 ga n (iO F n) F:=bW.out.below bX bW.out.lt
 have bJ:aR w.heap.size w w2:=cp.out.trans (bX.mono cp.out.size)
 have cK:=fX bg;have cq:=fX aX;have bj:=fX bJ
 have bK:=bg.lt
 have bL:=aX.lt
 have cr:=fX bK;have cu:=fX bL
 clear bg aX bJ bX bK bL bY bW ck cn
 go_wp2
 go_loopw [9,10] (fun ov iv wr=>∃(i p:Nat) (At:Option au) (ct:Nat),i<=m/\p<=4*i/\ov=af At p ct/\iv=ae aj (i:Int)/\aQ (wr.ownsRow w2.heap.size 150 2 (af At p ct) p (PA ((l.take i).flatMap (iR F n G k))))/\aQ (aR w2.heap.size w2 wr)) (fun _ iv _=>m-(aP iv).toNat)
 case atStart=>exact⟨0,0,none,0,Nat.zero_le _,Nat.zero_le _,rfl,rfl,fX (World.ownsRow_nil _ _ _ _),fX gC⟩
 case round=>
  obtain⟨i,p,At,ct,hi,hp,rfl,rfl,HO,HB⟩:=hrel;have aW:=cK.out.below HB.out cr.out;have a4:=cq.out.below HB.out cu.out;have bD:=HT.out.below (bj.out.trans (HB.out.mono bj.out.size)) fZ;have bZ:w2.heap.size<=wr.heap.size:=HB.out.size;by_cases cv:i<m
  ·have bk:(i:Int)<(m:Int):=by omega
   have bE:i<l.length:=by rw[<-HM.out];exact cv
   obtain⟨b,o,rfl,dd,b0⟩:=bD.at bE;obtain⟨e0,e1,e2⟩:=b0 i bE;have bl:=Cf bE;obtain⟨bF,hx⟩:=bV.out.may _ bl;have a6:=bV.out.a _ bl;have bm:=bV.out.b _ bl;obtain⟨b1,bn,bp⟩:=lU bF hx;have ad:=Ia (F:=F) (n:=n) (G:=G) (k:=k) bE;obtain⟨⟨tx,td,tn⟩,ht⟩:∃t,t=l.getD i iE:=⟨_,rfl⟩;rw[<-ht]at e0 e1 e2 bF hx a6 bm b1 bn bp ad;dsimp only at e0 e1 e2 hx bm bn bp;by_cases a7:tn=0
   ·subst a7;have cw:tx<n:=by have:=bn rfl;omega
    have a8:=aW.range cw;have bq:iR F n G k ⟨tx,td,0⟩=[jr F n tx]:=if_pos rfl;rw[bq]at ad;have aS:=tu HF.out bU.out cw;have aY:=HF.out tx;unfold jr at ad;obtain⟨X,hX⟩:=fY (iO F n tx);obtain⟨Y,hY⟩:=fY (F tx);rw[<-hX,<-hY]at ad a8;rw[<-hX]at aS;rw[<-hY]at aY;have aT:=tt wr X Y aS (by omega);obtain⟨Z,hZ⟩:=fY (PI X Y);rw[<-hZ]at aT ad;have b2:=fX a8;have br:=fX aT;have a9:=fX ad
    clear aW a4 bD b0 bl bF a6 bm b1 bn bp ad ht a8 aT hZ hX hY bq aS aY e1 bk;go_wp2_with (first
     |(refine aF rfl _ _ rfl ga (tx*2) rfl [ae .u32 (X:Int),ae .u8 (Y:Int)] _ b2.out underlying176 rfl (rz _ _) ?_)
     |fail)
    refine br.out.mono ?_;rintro e w3 ⟨rfl,aU⟩;have aV:aR w2.heap.size w2 w3:=HB.out.trans (aU.mono bZ);obtain⟨A',c',w4,av,al,aZ⟩:=rr w3 w2.heap.size At p ct _ (lF HO.out aU) (Z,Y) (by omega) aV.size;rw[<-a9.out]at al;have a1:=fX av;have a2:=fX al;have b3:=fX (aV.trans aZ)
    clear av al aZ aV aU a9;go_wp2_with (at_builtin;refine wpList_append_run rfl (.tmp 35) (.tmp 45) 111 rfl (af At p ct) (af (some ⟨w3.heap.size,0,none⟩) 1 1) (af A' (p+1) c') w4 rfl rfl a1.out ?_)
    go_roundw
    case rel=>exact⟨i+1,p+1,A',c',by omega,by omega,rfl,by go_num,a2,b3⟩
    case measure=>simp[aP];omega
   ·have de:(tn==0)=false:=by simpa using a7
    obtain⟨b4,b5,bd,bf⟩:=bp a7;obtain⟨_,_,_,_,p1,p2,p3,p4⟩:=rf b4;obtain⟨_,_,_,_,q1,q2,q3,q4⟩:=rh b5;have bt:=bm a7;have bM:jt ⟨tx,td,tn⟩=(ji tn).toNat:=if_neg a7;rw[bM]at a6 bd;have bN:kV ⟨tx,td,tn⟩=(iV td).toNat:=rfl;rw[bN]at bt bf;have bq:iR F n G k ⟨tx,td,tn⟩=[jr F n (ji tn).toNat,((kC tn).toNat,(kq tn).toNat),jr G k (iV td).toNat,((kL td).toNat,(kr td).toNat)]:=if_neg a7;rw[bq]at ad;have cL:0<=iV td:=by unfold iV;split<;>omega
    have b6:=BG wr tn;have b7:=fun V=>BH V td
    obtain⟨zS,b8⟩:=fY ((ji tn).toNat);obtain⟨zB,b9⟩:=fY ((kq tn).toNat);obtain⟨zX,cx⟩:=fY ((kC tn).toNat);obtain⟨yS,ca⟩:=fY ((iV td).toNat);obtain⟨yB,cb⟩:=fY ((kr td).toNat);obtain⟨yX,cy⟩:=fY ((kL td).toNat);rw[<-b8,<-b9,<-cx,<-ca,<-cb,<-cy]at ad;rw[<-b8]at a6 bd;rw[<-ca]at bt bf;rw[<-b9]at p2;rw[<-cb]at q2;have f1:ji tn=(zS:Int):=by omega
    have f2:kq tn=(zB:Int):=by omega
    have f3:kC tn=(zX:Int):=by omega
    have f4:iV td=(yS:Int):=by omega
    have f5:kr td=(yB:Int):=by omega
    have f6:kL td=(yX:Int):=by omega
    rw[f1,f2,f3,b4]at b6;rw[f4,f5,f6,b5]at b7;have c9:zB<=5:=by omega
    have cM:yB<=13:=by omega
    have cN:zX<=32768:=by
     have h1:2^zB<=2^15:=Nat.pow_le_pow_right (by omega) (by omega);have h2:(2:Nat)^15=32768:=rfl;omega
    have cO:yX<=32768:=by
     have h1:2^yB<=2^15:=Nat.pow_le_pow_right (by omega) (by omega);have h2:(2:Nat)^15=32768:=rfl;omega
    have aS:=tu HF.out bU.out a6;have aY:=HF.out zS;have cf:=tu HG.out cl.out bt;have cz:=HG.out yS;unfold jr at ad;have cP:=fX b6;have cQ:=fX b7
    have bO:=fX aW;have bP:=fX a4
    obtain⟨X,hX⟩:=fY (iO F n zS);obtain⟨Y,hY⟩:=fY (F zS);obtain⟨X2,bG⟩:=fY (iO G k yS);obtain⟨Y2,bH⟩:=fY (G yS);rw[<-hX,<-hY,<-bG,<-bH]at ad;rw[<-hX]at aS;rw[<-hY]at aY;rw[<-bG]at cf;rw[<-bH]at cz;have aT:=fun V=>tt V X Y aS (by omega)
    have bu:=fun V=>tt V X2 Y2 cf (by omega)
    obtain⟨Z,hZ⟩:=fY (PI X Y);obtain⟨Z2,cA⟩:=fY (PI X2 Y2);rw[<-hZ]at aT ad;rw[<-cA]at bu ad;have a9:=fX ad;have br:=fX aT;have cB:=fX bu
    have HX:=fX hX;have HY:=fX hY;have cR:=fX bG;have cS:=fX bH;have cC:=fX a6;have cD:=fX bt
    have cT:aQ (wr.cell? ⟨b,o+i*3+1,none⟩=some (ae aj td)):=fX e1;have cE:b<wr.heap.size:=by have:=bj.out.size;omega
    have cU:=fX cE;clear cE b0 bl bF bM bN bm b1 bn bp ht bq aS cf ad aT bu hZ cA hX hY bG bH b6 b7 f1 f2 f3 f4 f5 f6 b8 b9 cx ca cb cy p1 p2 p3 p4 q1 q2 q3 q4 b4 b5 cL aW a4 bD hx a7 e1 e0 a6 bt bd bf aY cz;go_wp2_with fail
    refine cP.out.mono ?_;rintro e w3 ⟨rfl,aU⟩;have cV:w3.cell? ⟨b,o+i*3+1,none⟩=some (ae aj td):=by rw[aU.cell (p:=⟨b,o+i*3+1,none⟩) cU.out];exact cT.out
    have cF:=fX aU;clear aU e2 bk;go_wp2_with fail
    refine(cQ.out w3).mono ?_;rintro e w4 ⟨rfl,aZ⟩;have a3:aR wr.heap.size wr w4:=cF.out.trans (aZ.mono cF.out.size);have bQ:aR w2.heap.size w2 w4:=HB.out.trans (a3.mono bZ);have bx:=bO.out.below a3 bO.out.lt;have bz:=bP.out.below a3 bP.out.lt;have LA:∀V,(∃p:ka w4.heap.size w4,V=p.w)->V.rangeAt ga (zS*2) [ae .u32 (X:Int),ae .u8 (Y:Int)]:=by
     rintro V ⟨q,rfl⟩;rw[HX.out,HY.out];exact(bx.below q.h bx.lt).range cC.out
    have LB:∀V,(∃p:ka w4.heap.size w4,V=p.w)->V.rangeAt gb (yS*2) [ae .u32 (X2:Int),ae .u8 (Y2:Int)]:=by
     rintro V ⟨q,rfl⟩;rw[cR.out,cS.out];exact(bz.below q.h bz.lt).range cD.out
    have TA:∀V,aR w4.heap.size w4 V->aw prog 115 #[ah #[ae .u32 (X:Int),ae .u8 (Y:Int)]] V fun e V'=>e=ao (ah #[ae .u32 (Z:Int),ae aj (Y:Int)])/\aR w4.heap.size w4 V':=fun V hV=>(br.out V).mono fun e V' ⟨a,h⟩=>⟨a,hV.trans (h.mono hV.size)⟩
    have TB:∀V,aR w4.heap.size w4 V->aw prog 115 #[ah #[ae .u32 (X2:Int),ae .u8 (Y2:Int)]] V fun e V'=>e=ao (ah #[ae .u32 (Z2:Int),ae aj (Y2:Int)])/\aR w4.heap.size w4 V':=fun V hV=>(cB.out V).mono fun e V' ⟨a,h⟩=>⟨a,hV.trans (h.mono hV.size)⟩
    have cG:=lF HO.out a3;have cW:=fX LA;have cX:=fX LB;have cY:=fX TA;have cZ:=fX TB;have bR:=fX bQ;have c7:=fX cG
    clear LA LB TA TB bx bz a3 bQ cG cV aZ;have da:zS*2=zS*2:=rfl;have df:(zS:Int)<(n:Int):=by have:=cC.out;omega
    have dg:(yS:Int)<(k:Int):=by have:=cD.out;omega
    go_wp2;refine uM 18 w4.heap.size w4 gC (by kernel_rfl) (by kernel_rfl) (.tmp 9) (af At p ct) rfl (some 69) rfl rfl rfl rfl (by kernel_rfl) (fun _ _ _ h=>h) ?_;simp only[List.take_succ_cons,List.take_zero,List.drop_succ_cons,List.drop_zero,Act.put,List.setIfInBounds_toArray,List.set_cons_zero,List.set_cons_succ];repeat (first
     |(go_big_quiet_want;with_reducible refine oh _ _ rfl _ _ rfl _ _ cW.out underlying176 rfl (rz _ _) ?_;go_big_quiet_on;simp only[Act.put,List.setIfInBounds_toArray,List.set_cons_zero,List.set_cons_succ])
     |(go_big_quiet_want;with_reducible refine oh _ _ rfl _ _ rfl _ _ cX.out underlying176 rfl (rz _ _) ?_;go_big_quiet_on;simp only[Act.put,List.setIfInBounds_toArray,List.set_cons_zero,List.set_cons_succ])
     |(go_big_quiet_want;refine uL 150 #[(0,.tmp 76),(1,.tmp 77)] rfl (some 78) rfl #[ae .u32 (zX:Int),ae aj (zB:Int)] (by simpa[Act.eval]using kf (zX:Int) (zB:Int)) ?_;go_big_quiet_on;simp only[Act.put,List.setIfInBounds_toArray,List.set_cons_zero,List.set_cons_succ])
     |(go_big_quiet_want;refine uL 150 #[(0,.tmp 85),(1,.tmp 86)] rfl (some 87) rfl #[ae .u32 (yX:Int),ae aj (yB:Int)] (by simpa[Act.eval]using kf (yX:Int) (yB:Int)) ?_;go_big_quiet_on;simp only[Act.put,List.setIfInBounds_toArray,List.set_cons_zero,List.set_cons_succ])
     |(go_big_quiet_step (first|(with_reducible exact mR cY.out _)|(with_reducible exact mR cZ.out _))))
    refine wpQuiet_nil ?_;rintro V ⟨⟨V,hV⟩,rfl⟩;have cH:=lF c7.out hV;have bA:aR w2.heap.size w2 V:=bR.out.trans (hV.mono bR.out.size);obtain⟨A',c',w5,av,al,cI⟩:=xn V w2.heap.size At p ct _ cH [(Z,Y),(zX,zB),(Z2,Y2),(yX,yB)] 4 rfl #[ae .u32 (Z:Int),ae aj (Y:Int),ae .u32 (zX:Int),ae aj (zB:Int),ae .u32 (Z2:Int),ae aj (Y2:Int),ae .u32 (yX:Int),ae aj (yB:Int)] rfl (by omega) bA.size;rw[<-a9.out]at al;have a1:=fX av;have a2:=fX al;have c8:=fX (bA.trans cI)
    clear av al cI bA cH hV;go_wp2_with (at_builtin;refine wpList_append_run rfl (.tmp 69) (.tmp 88) 111 rfl (af At p ct) (af (some ⟨V.heap.size,0,none⟩) 4 4) (af A' (p+4) c') w5 rfl rfl a1.out ?_)
    go_roundw
    case rel=>exact⟨i+1,p+4,A',c',by omega,by omega,rfl,by go_num,a2,c8⟩
    case measure=>simp[aP];omega
  ·obtain rfl:i=m:=by omega
   have bk:¬(i:Int)<(i:Int):=by omega
   have a8:=aW.range bI;have aS:=tu HF.out bU.out bI;have aY:=HF.out 256;have ad:(l.take i).flatMap (iR F n G k)++[jr F n 256]=jh F n G k l:=by rw[HM.out,List.take_length];rfl
   unfold jr at ad;obtain⟨X,hX⟩:=fY (iO F n 256);obtain⟨Y,hY⟩:=fY (F 256);rw[<-hX,<-hY]at ad a8;rw[<-hX]at aS;rw[<-hY]at aY;have aT:=tt wr X Y aS (by omega);obtain⟨Z,hZ⟩:=fY (PI X Y);rw[<-hZ]at aT ad;have b2:=fX a8;have br:=fX aT;have a9:=fX ad
   clear aW a4 bD ad a8 aT hZ hX hY aS aY cv;go_wp2_with (first
    |(refine aF rfl _ _ rfl ga 512 rfl [ae .u32 (X:Int),ae .u8 (Y:Int)] _ b2.out underlying176 rfl (rz _ _) ?_)
    |fail)
   refine br.out.mono ?_;rintro e w3 ⟨rfl,aU⟩;have aV:aR w2.heap.size w2 w3:=HB.out.trans (aU.mono bZ);obtain⟨A',c',w4,av,al,aZ⟩:=rr w3 w2.heap.size At p ct _ (lF HO.out aU) (Z,Y) (by omega) aV.size;rw[a9.out]at al;have bS:aR w.heap.size w w4:=bj.out.trans ((aV.trans aZ).mono bj.out.size);have a1:=fX av;have a2:=fX al;have b3:=fX bS
   clear av al aZ aV aU a9 bS;go_wp2_with (at_builtin;refine wpList_append_run rfl (.tmp 90) (.tmp 95) 111 rfl (af At p ct) (af (some ⟨w3.heap.size,0,none⟩) 1 1) (af A' (p+1) c') w4 rfl rfl a1.out ?_)
   go_ret;exact⟨A',p+1,c',rfl,kF.gR a2.out,b3.out⟩
def jy(w:aq)(g n:Nat)(T:Nat->Nat):Prop:=w.heap[g]?=some (ak (gw (fun i=>((T i:Nat):Int)) n) 3 (0,0))
theorem jy.lt{w:aq}{g n:Nat}{T:Nat->Nat}(h:jy w g n T):g<w.heap.size:=(Array.getElem?_eq_some_iff.1 h).1
theorem jy.cell{w:aq}{g n:Nat}{T:Nat->Nat}(h:jy w g n T){i:Nat}(hi:i<n):w.cell? ⟨g,i,none⟩=some (ae aj ((T i:Nat):Int)):=pU h hi
theorem jy.frozen{w:aq}{g n:Nat}{T:Nat->Nat}(h:jy w g n T)(i:Nat):w.frozen? ⟨g,i,none⟩=false:=aO w g i _ _ h
theorem jy.below{w w':aq}{g n B:Nat}{T:Nat->Nat}(h:jy w g n T)(hb:aR B w w')(hg:g<B):jy w' g n T:=(hb.block g hg).trans h
theorem jy.other{w:aq}{g n:Nat}{T:Nat->Nat}(h:jy w g n T){p:au}(hp:g≠p.block)(u:ax):jy (w.setCell p u) g n T:=(Below.heap_setCell w p u g hp).trans h
theorem jy.set{w:aq}{g n:Nat}{T T':Nat->Nat}(h:jy w g n T)(i x:Nat)(he:∀k,k<n->(if k=i then x else T k)=T' k):jy (w.setCell ⟨g,i,none⟩ (ae aj (x:Int))) g n T':=by
 unfold jy;rw[aN w g i _ _ _ h,tj];refine congrArg (fun a=>some (Obj.cells a 3 (0,0))) (ru fun k hk=>?_);rw[<-he k hk];split<;>rfl
theorem jy.rd{w:aq}{g n:Nat}{T:Nat->Nat}(h:jy w g n T):jq w w.heap.size (some ⟨g,0,none⟩) (jR T n):=by
 have e:jg (jR T n)=kX (fun i=>((T i:Nat):Int)) n:=by unfold jg jR kX;rw[List.map_map];rfl
 refine⟨by rw[e,xp,lT,Nat.mul_one],fun _=>⟨g,0,rfl,h.lt,fun j u hu=>?_⟩⟩;rw[e]at hu;rw[Nat.zero_add,aH w g j _ _ (0,0) h];simpa[gw]using hu
theorem Ib(n:Nat):aJ #[ae aj 0] n=gw (fun _=>0) n:=by
 apply Array.ext';rw[toList_madeCells_one];unfold gw kX;apply List.ext_getElem?;intro i;rcases Nat.lt_or_ge i n with h|h
 ·simp[h]
 ·rw[List.getElem?_eq_none (by simpa using h),List.getElem?_eq_none (by simpa using h)]
theorem xC(n:Nat)(h:n<=1000)(z:Int)(hz:z=(n:Int)):∀u:aq,(Instr.makeSlice 185 (ae aj z) (ae aj z)).run prog u=
   .ok (af (some ⟨u.heap.size,0,none⟩) n n) (u.alloc (ak (gw (fun _=>0) n) 3)):=fun u=>by
 subst hz
 obtain⟨i0,hi,ad,al,av⟩:=info_parts sf
 have h:=run_make (P:=prog) u 185 3 i0 (ae aj 0) underlying185 hi ad aj aj (n:Int) (n:Int) (by omega) (Int.le_refl _) (by rw[av];omega) (by omega)
 rw[Int.toNat_natCast]at h
 rw[<-Ib]
 simpa[al,Value.cells]using h
theorem Qb{l:List gA}{i:Nat}(h:i<l.length):l.take (i+1)=l.take i++[l.getD i iE]:=by
 rw[List.take_add_one,List.getElem?_eq_getElem h,List.getD_eq_getElem?_getD,List.getElem?_eq_getElem h];rfl
theorem Ic(w:aq)(A2:Option au)(m c2:Nat)(l:List gA)(hm:m=l.length)(hr:jL w w.heap.size A2 l)(bP:m<=100000)(bk:∀t∈l,gS t=true/\t.x<256):
  aw prog 118 #[af A2 m c2] w fun e w'=>e=ao (.tuple #[af (some ⟨w.heap.size,0,none⟩) 286 286,af (some ⟨w.heap.size+1,0,none⟩) 30 30])/\jy w' w.heap.size 286 (iF l)/\jy w' (w.heap.size+1) 30 (ix l)/\aR w.heap.size w w':=by
 have bQ:=xC 286 (by omega) 286 rfl
 have bR:=xC 30 (by omega) 30 rfl
 obtain⟨U,hU⟩:=fY ((w.alloc (ak (gw (fun _=>0) 286) 3)).alloc (ak (gw (fun _=>0) 30) 3))
 have h0:jy U w.heap.size 286 (fun _=>0):=by rw[hU];exact heap_alloc2_old w _ _
 have h1:jy U (w.heap.size+1) 30 (fun _=>0):=by rw[hU];exact heap_alloc2_new w _ _
 have hb:aR w.heap.size w U:=by rw[hU];exact((Below.refl w.heap.size w).alloc fZ _).alloc (by simp) _
 have k1:=h0.cell (i:=256) (by omega)
 have k2:=h0.frozen 256
 have s0:jy ((w.alloc (ak ((gw (fun _=>0) 286).setIfInBounds 256 (ae aj 1)) 3)).alloc (ak (gw (fun _=>0) 30) 3)) w.heap.size 286 (iF (l.take 0)):=by
  refine(heap_alloc2_old w _ _).trans ?_;rw[tj];refine congrArg (fun a=>some (Obj.cells a 3 (0,0))) (ru fun k hk=>?_);unfold iF;simp only[List.take_zero,List.countP_nil];split<;>rfl
 have s1:jy ((w.alloc (ak ((gw (fun _=>0) 286).setIfInBounds 256 (ae aj 1)) 3)).alloc (ak (gw (fun _=>0) 30) 3)) (w.heap.size+1) 30 (ix (l.take 0)):=heap_alloc2_new w _ _
 have sb:aR w.heap.size w ((w.alloc (ak ((gw (fun _=>0) 286).setIfInBounds 256 (ae aj 1)) 3)).alloc (ak (gw (fun _=>0) 30) 3)):=((Below.refl w.heap.size w).alloc fZ _).alloc (by simp) _
 rw[hU]at k1 k2
 have S0:=fX s0;have S1:=fX s1;have SB:=fX sb;have HU:=fX hU;have HR:=fX hr;have bD:=fX bk;have HM:=fX hm
 clear h0 h1 hb s0 s1 sb hU hr bk hm
 go_enter func118,ntmps118
 go_wp2
 go_loopw [6] (fun iv wr=>∃i:Nat,i<=m/\iv=ae aj (i:Int)/\aQ (jy wr w.heap.size 286 (iF (l.take i)))/\aQ (jy wr (w.heap.size+1) 30 (ix (l.take i)))/\aQ (aR w.heap.size w wr)) (fun iv _=>m-(aP iv).toNat)
 case atStart=>
  exact⟨0,Nat.zero_le _,rfl,S0,S1,SB⟩
 case round=>
  obtain⟨i,hi,rfl,HA,HB,av⟩:=hrel;by_cases a7:i<m
  ·have bl:(i:Int)<(m:Int):=by omega
   have aS:i<l.length:=by rw[<-HM.out];exact a7
   have a8:=HR.out.below av.out fZ;obtain⟨b,o,rfl,bm,a9⟩:=a8.at aS;obtain⟨e0,e1,e2⟩:=a9 i aS;obtain⟨a1,hx⟩:=bD.out _ (Cf aS);obtain⟨aV,a2,aW⟩:=lU a1 hx;have a3:=Qb aS;obtain⟨⟨tx,td,tn⟩,ht⟩:∃t,t=l.getD i iE:=⟨_,rfl⟩;rw[<-ht]at e0 e1 e2 a1 hx aV a2 aW a3;dsimp only at e0 e1 e2 hx a2 aW;have ad:=Bu (l.take i) ⟨tx,td,tn⟩;have aT:=uD (l.take i) ⟨tx,td,tn⟩;rw[<-a3]at ad aT;have hle:=rq (l.take i);have aX:=qu (l.take i);have hlen:(l.take i).length<=100000:=by rw[List.length_take];omega
   by_cases aU:tn=0
   ·subst aU;have bn:jt ⟨tx,td,0⟩=tx:=if_pos rfl;rw[bn]at aV ad;have c1:=HA.out.cell aV;have f1:=HA.out.frozen tx;have hv:=hle tx;obtain⟨q,hq⟩:=fY (iF (l.take i) tx);rw[<-hq]at c1 hv;have bE:q<=100001:=by omega
    have r1:jy (wr.setCell ⟨w.heap.size,tx,none⟩ (ae aj ((q+1:Nat):Int))) w.heap.size 286 (iF (l.take (i+1))):=HA.out.set tx (q+1) fun k hk=>by
     rw[ad k];by_cases e:k=tx
     ·rw[if_pos e,if_pos e.symm,e,hq]
     ·rw[if_neg e,if_neg (fun g=>e g.symm)];rfl
    have r2:jy (wr.setCell ⟨w.heap.size,tx,none⟩ (ae aj ((q+1:Nat):Int))) (w.heap.size+1) 30 (ix (l.take (i+1))):=by
     have e:ix (l.take (i+1))=ix (l.take i):=by
      funext k;rw[aT k,if_neg (fun g=>g.1 rfl)];rfl
     rw[e];exact HB.out.other (p:=⟨w.heap.size,tx,none⟩) (by simp) _
    have r3:=av.out.setCell (p:=⟨w.heap.size,tx,none⟩) fZ (ae aj ((q+1:Nat):Int));have R1:=fX r1;have R2:=fX r2;have R3:=fX r3
    clear r1 r2 r3 ad aT hle aX hlen hv hq a3 a1 a2 aW ht bn a9 a8 e1 bm aS;go_wp2;go_roundw
    case rel=>exact⟨i+1,by omega,by go_num,R1,R2,R3⟩
    case measure=>simp[aP];omega
   ·have bS:(tn==0)=false:=by simpa using aU
    obtain⟨bp,bq,aY,aZ⟩:=aW aU;obtain⟨_,_,_,_,p1,p2,p3,p4⟩:=rf bp;obtain⟨_,_,_,_,q1,q2,q3,q4⟩:=rh bq;have a5:jt ⟨tx,td,tn⟩=(ji tn).toNat:=if_neg aU;have a6:kV ⟨tx,td,tn⟩=(iV td).toNat:=rfl;have bF:0<=iV td:=by unfold iV;split<;>omega
    have bd:=BG wr tn;have bf:=fun V=>BH V td
    obtain⟨zS,br⟩:=fY ((ji tn).toNat);obtain⟨yS,bt⟩:=fY ((iV td).toNat);rw[a5,<-br]at aV aY ad;rw[a6,<-bt]at aZ aT;have f1:ji tn=(zS:Int):=by omega
    have f4:iV td=(yS:Int):=by omega
    rw[f1]at bd;rw[f4]at bf;have bu:=hle zS;have bx:=aX yS;have bG:=fX bd;have bH:=fX bf;have bI:=fX ad;have bJ:=fX aT
    obtain⟨q,hq⟩:=fY (iF (l.take i) zS);obtain⟨y,hy⟩:=fY (ix (l.take i) yS);rw[<-hq]at bu;rw[<-hy]at bx;have bE:q<=100001:=by omega
    have bT:y<=100001:=by omega
    have HQ:=fX hq;have HY:=fX hy;have bK:=fX aU
    have bz:b<wr.heap.size:=by have:=av.out.size;omega
    have bL:=fX bz;clear bd bf ad aT bu bx hq hy hle aX hlen a3 a1 a2 aW ht a9 a8 bm aS aU f1 f4 br bt a5 a6 bF p1 p2 p3 p4 q1 q2 q3 q4 bp bq aY e0 hx bz a7;go_wp2_with fail
    refine bG.out.mono ?_;rintro e w3 ⟨rfl,bg⟩;have bM:w3.cell? ⟨b,o+i*3+1,none⟩=some (ae aj td):=by rw[bg.cell (p:=⟨b,o+i*3+1,none⟩) bL.out];exact e1
    have bA:=fX bg;clear bg e2 e1;go_wp2_with fail
    refine(bH.out w3).mono ?_;rintro e w4 ⟨rfl,bB⟩;have al:aR wr.heap.size wr w4:=bA.out.trans (bB.mono bA.out.size);have ra:=HA.out.below al HA.out.lt;have rb:=HB.out.below al HB.out.lt;have bw:=av.out.trans (al.mono av.out.size);have c1:=ra.cell aV;have f1:=ra.frozen zS;rw[<-HQ.out]at c1;have r1:jy (w4.setCell ⟨w.heap.size,zS,none⟩ (ae aj ((q+1:Nat):Int))) w.heap.size 286 (iF (l.take (i+1))):=ra.set zS (q+1) fun k hk=>by
     rw[bI.out k];by_cases e:k=zS
     ·rw[if_pos e,if_pos e.symm,e,HQ.out]
     ·rw[if_neg e,if_neg (fun g=>e g.symm)];rfl
    have a4:=rb.other (p:=⟨w.heap.size,zS,none⟩) (by simp) (ae aj ((q+1:Nat):Int));have c2:=a4.cell aZ;have f2:=a4.frozen yS;rw[<-HY.out]at c2;have r2:jy ((w4.setCell ⟨w.heap.size,zS,none⟩ (ae aj ((q+1:Nat):Int))).setCell ⟨w.heap.size+1,yS,none⟩ (ae aj ((y+1:Nat):Int))) (w.heap.size+1) 30 (ix (l.take (i+1))):=a4.set yS (y+1) fun k hk=>by
     rw[bJ.out k];by_cases e:k=yS
     ·rw[if_pos e,if_pos ⟨bK.out,e.symm⟩,e,HY.out]
     ·rw[if_neg e,if_neg (fun g=>e g.2.symm)];rfl
    have r3:=r1.other (p:=⟨w.heap.size+1,yS,none⟩) (by simp) (ae aj ((y+1:Nat):Int));have r4:=(bw.setCell (p:=⟨w.heap.size,zS,none⟩) fZ (ae aj ((q+1:Nat):Int))).setCell (p:=⟨w.heap.size+1,yS,none⟩) (by simp) (ae aj ((y+1:Nat):Int));have bj:((q+1:Nat):Int)=(q:Int)+1:=by omega
    have bC:((y+1:Nat):Int)=(y:Int)+1:=by omega
    rw[bj]at c2 f2;rw[bj,bC]at r2 r3 r4;have R2:=fX r2;have R3:=fX r3;have R4:=fX r4
    have bU:(zS:Int)<286:=by omega
    have bV:(yS:Int)<30:=by omega
    clear r1 r2 r3 r4 a4 ra rb bw al bB bM bj bC;go_wp2;go_roundw
    case rel=>exact⟨i+1,by omega,by go_num,R3,R2,R4⟩
    case measure=>simp[aP];omega
  ·obtain rfl:i=m:=by omega
   have bl:¬(i:Int)<(i:Int):=by omega
   have ha:=HA.out;have hb:=HB.out;rw[HM.out,List.take_length]at ha hb;have bN:=fX ha;have bO:=fX hb
   clear ha hb a7;go_wp2;go_ret2;exact⟨rfl,bN.out,bO.out,av.out⟩
end Go.Proofs.YtokpcpjnihinfaaGreat
