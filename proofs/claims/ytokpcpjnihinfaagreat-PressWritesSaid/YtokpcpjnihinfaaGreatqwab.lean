/-
  Words and walks.
-/
import Derived.Laws.CopyOwn
import Derived.StillTailTactics
import Derived.LoopN
import Derived.Deep.SlicePairs
import Derived.Lib.SmallJoins
import Derived.Shelf.Abstract
import Derived.Great.BuildSlice
import Derived.Laws.Tables
import Derived.Deep.DeepCutAuto
import Derived.Deep.WholeRow
import Derived.StillTail
import Derived.Deep.Quiet
import Derived.Test.YtokpcpjnihinfaaGreatqwaa
set_option maxRecDepth 100000
set_option maxHeartbeats 16000000
namespace Go.Proofs.YtokpcpjnihinfaaGreat
open Value renaming int → ae, slice → af, pointer → ag, agg → ah
open IntKind renaming i64 → aj
open Obj renaming cells → ak
open Ending renaming returned → ao
open Go renaming World → aq, Addr → au, Calls → aw, Value → ax, Program → az, Oper → aA, TypeId → aB, wpList_store_rowTo → aC, wpList_load_mid → aF, heap_alloc_new → aG, cell_of_row → aH, setRow_heap → aI, madeCells → aJ, bodyPost_ret → aK, setRow_other → aL, yielded → aM, heap_setCell_same → aN, frozen_of_row → aO
open Go.RowKit renaming intOf → aP, Hid → aQ, Below → aR
open _root_.Go.Proofs.Tryz
open Go.RowKit
theorem Hw(k L:Nat)(w:aq)(h:k<=9223372036854775800)(hL:L=(k+7)/8):
  aw prog 53 #[ae aj (k:Int)] w fun e w'=>e=ao (ae aj (L:Int))/\w=w':=by
 subst hL;exact ve k w h
theorem xS:(prog.info? 5).map (·.size)=some 1:=by kernel_rfl
def iK(n:Nat)(f:Nat->Nat)(j:Nat):Nat:=if j<n then f j else 0
theorem Hx(L n:Nat)(f:Nat->Nat)(hn:n<=L):splice (aJ #[ae .u8 0] L).toList 0 (iw n f)=iw L (iK n f):=by
 rw[toList_madeCells_one];apply List.ext_getElem?;intro j;rw[mh];have hl:(iw n f).length=n:=by simp[iw]
 simp only[splice,List.take_zero,List.nil_append,Nat.zero_add,List.getElem?_append,hl,mh,List.getElem?_drop,List.getElem?_replicate,iK];by_cases h1:j<n
 ·simp[h1];omega
 ·by_cases h2:j<L
  ·simp[h1,h2];omega
  ·simp[h1,h2];omega
theorem Hy{w w':aq}{B n:Nat}{A:Option au}{f:Nat->Nat}(h:iy w B A n f)(hb:aR B w w'):
  0<(iw n f).length->∃ad,A=some ad/\∀j v,(iw n f)[j]?=some v->w'.cell? (ad.add j)=some v:=by
 intro hp
 have hl:(iw n f).length=n:=by simp[iw]
 rw[hl]at hp
 obtain⟨b,o,rfl,al,hc⟩:=h.2 hp
 refine⟨_,rfl,fun j v hv=>?_⟩
 rw[mh]at hv
 by_cases hj:j<n
 ·rw[if_pos hj]at hv;injection hv with hv
  subst hv;have e:(⟨b,o,none⟩:au).add j=⟨b,o+j,none⟩:=by unfold Addr.add;split<;>simp_all
  rw[e,hb.cell (p:=⟨b,o+j,none⟩) al];exact hc j hj
 ·rw[if_neg hj]at hv;cases hv
theorem Hz(w:aq)(A:Option au)(n c:Nat)(f:Nat->Nat)(k m L:Nat)(hr:iy w w.heap.size A n f)(hk:k<=8388608)(hm:m<=64)(hn:n<=L)(hL:L=(k+m+7)/8):
  aw prog 79 #[ah #[af A n c,ae aj (k:Int)],ae aj (m:Int)] w fun e w'=>e=ao (ah #[af (some ⟨w.heap.size+1+1,0,none⟩) L L,ae aj (k:Int)])/\
   aR w.heap.size w w'/\Row w' (w.heap.size+1+1) L (iK n f):=by
 obtain⟨i0,hi,av,aS,aT⟩:=info_parts BI
 have aV:L<=2000000:=by omega
 have aW:∀u:aq,(Instr.makeSlice 22 (ae aj (L:Int)) (ae aj (L:Int))).run prog u=
   .ok (af (some ⟨u.heap.size,0,none⟩) L L) (u.alloc (ak (aJ #[ae .u8 0] L) 5)):=fun u=>by
  have h:=run_make (P:=prog) u 22 5 i0 (ae .u8 0) underlying22 hi av aj aj (L:Int) (L:Int) (by omega) (Int.le_refl _) (by rw[aT];omega) (by omega)
  rw[Int.toNat_natCast]at h
  simpa[aS,Value.cells]using h
 have HL:=gW hL
 have HR:=gW hr
 clear hL hr
 go_enter func79,ntmps79
 go_wp2_with (first
  |(go_at_call 53;refine(Hw (k+m) L _ (by omega) HL.out).mono ?_;rintro e w' ⟨rfl,rfl⟩)
  |(with_reducible refine wpList_copy_splice rfl (.tmp 12) (.tmp 14) 22 22 rfl 5 underlying22 xS _ _ _ _ _ _ rfl rfl (w.heap.size+1+1) 0 (aJ #[ae .u8 0] L).toList 5 ?c1 (iw n f) ?c2 ?c3 ?c4 (sN n f) (w.heap.size+1+1) _ ix gY ?c5))
 case c1=>rw[Array.toArray_toList];simpa using aG ((w.alloc (ak #[af A n c,ae aj (k:Int)] 30)).alloc (ak #[af none 0 0,ae aj 0] 120)) (ak (aJ #[ae .u8 0] L) 5)
 case c2=>simp[iw,Nat.min_eq_left hn]
 case c3=>exact Hy HR.out ((((ix.alloc gY _).alloc (by simp) _).alloc (by simp;omega) _))
 case c4=>simp[iw,size_madeCells];omega
 case c5=>
  intro w4 aU ad;have HB:=gW ad;have aX:w.heap.size+1+1<w4.heap.size:=by have:=ad.size;simp at this;omega
  obtain⟨hc,al⟩:=xn ad;have k1:=(hc w.heap.size 1 (by omega)).trans (by go_simp:_=some (Value.int aj (k:Int)));have k2:=(hc (w.heap.size+1) 0 (by omega)).trans (by go_simp:_=some (Value.slice none 0 0));have k3:=(hc (w.heap.size+1) 1 (by omega)).trans (by go_simp:_=some (Value.int aj 0));have k4:=(al (w.heap.size+1) 0 (by omega)).trans (by go_simp:_=false);have k5:=(al (w.heap.size+1) 1 (by omega)).trans (by go_simp:_=false);clear ad hc al;go_wp2;refine aK (v:=ah #[af (some ⟨w.heap.size+1+1,0,none⟩) L L,ae aj (k:Int)]) ?_ rfl ⟨rfl,?_,?_⟩
  ·simp[results,Tryz.results79,go_sem,k2,k3]
  ·exact(((((ix.alloc gY _).alloc (by simp) _).alloc (by simp;omega) _).trans (HB.out.mono (by omega))).setCell (by simp) _).setCell (by simp) _
  ·unfold Row;rw[Below.heap_setCell _ _ _ _ (by simp),Below.heap_setCell _ _ _ _ (by simp),<-Hx L n f hn];exact aU.out
def rV(w:aq)(p g L k:Nat):Prop:=w.heap[p]?=some (ak #[af (some ⟨g,0,none⟩) L L,ae aj (k:Int)] 120 (0,0))
theorem Ia(x:Nat)(h:x<256):(x:Int)%256=(x:Int):=by omega
theorem Ib(w:aq)(p g L k:Nat)(f:Nat->Nat)(x:Nat)(hx:x<2)(hp:rV w p g L k)(ad:Row w g L f)(al:p≠g)(hk:k<8*L)(hL:L<=2000000)(hf:f (k/8)<2^(k%8)):
  aw prog 80 #[ag (some ⟨p,0,none⟩),ae .u32 (x:Int)] w fun e w'=>e=ao (.tuple #[])/\w'=(((w.setCell ⟨g,k/8,none⟩ (ae .u8 ((f (k/8)+x*2^(k%8):Nat):Int))).setCell ⟨p,1,none⟩ (ae aj ((k+1:Nat):Int))).drew):=by
 have c0:w.cell? ⟨p,0,none⟩=some (af (some ⟨g,0,none⟩) L L):=by rw[aH w p 0 _ 120 (0,0) hp];rfl
 have c1:w.cell? ⟨p,1,none⟩=some (ae aj (k:Int)):=by rw[aH w p 1 _ 120 (0,0) hp];rfl
 have c2:=ad.cell (j:=k/8) (by omega)
 have z1:w.frozen? ⟨p,1,none⟩=false:=by unfold rV at hp;simp[World.frozen?,hp]
 have z2:=ad.frozen (k/8)
 have av:k/8<L:=by omega
 have HF:=gW hf;have HP:=gW hp;have HR:=gW ad
 clear hf hp ad
 have hv:bits .or .u8 ((f (k/8):Nat):Int) ((x:Int)*2^(k%8)%256)=((f (k/8)+x*2^(k%8):Nat):Int):=by
  have h8:k%8<8:=Nat.mod_lt _ (by omega);have h1:2^(k%8)*2<=256:=by
   have:=Nat.pow_le_pow_right (n:=2) (by omega) (show k%8+1<=8 by omega);rw[Nat.pow_succ]at this;simpa using this
  have h2:x*2^(k%8)<=1*2^(k%8):=Nat.mul_le_mul_right _ (by omega);have h3:=HF.out;rw[zT,Ia _ (by omega),QN _ _ (by omega) (by omega),Nat.or_comm,xj _ _ (k%8) h3 (Nat.dvd_mul_left _ _),Nat.add_comm]
 have HV:=gW hv
 clear hv
 go_enter func80,ntmps80
 go_wp2
 go_region
 go_wp2
 go_end0
 rw[HV.out]
 exact⟨rfl,rfl⟩
def kP(f:Nat->Nat)(k b:Nat):Nat->Nat:=iG f (k/8) (f (k/8)+b*2^(k%8))
def Qf(f:Nat->Nat)(k v:Nat):Nat->(Nat->Nat)
 |0=>f
 |i+1=>kP (Qf f k v i) (k+i) (v/2^i%2)
def Qa(f:Nat->Nat)(k:Nat):Prop:=(∀j,f j<256)/\(∀j,k/8<j->f j=0)/\f (k/8)<2^(k%8)
theorem Qa.step{f:Nat->Nat}{k b:Nat}(h:Qa f k)(hb:b<2):Qa (kP f k b) (k+1):=by
 obtain⟨h1,h2,h3⟩:=h;have h8:k%8<8:=Nat.mod_lt _ (by omega);have hp:2^(k%8)*2<=256:=by
  have:=Nat.pow_le_pow_right (n:=2) (by omega) (show k%8+1<=8 by omega);rw[Nat.pow_succ]at this;simpa using this
 have hq:b*2^(k%8)<=1*2^(k%8):=Nat.mul_le_mul_right _ (by omega);refine⟨fun j=>?_,fun j hj=>?_,?_⟩
 ·unfold kP iG;split
  ·omega
  ·exact h1 j
 ·unfold kP iG;rw[if_neg (by omega)];exact h2 j (by omega)
 ·unfold kP iG;by_cases e:k%8=7
  ·rw[if_neg (by omega),h2 _ (by omega)];exact Nat.two_pow_pos _
  ·rw[if_pos (by omega),show(k+1)%8=k%8+1 by omega,Nat.pow_succ];omega
theorem Qa.put{f:Nat->Nat}{k:Nat}(h:Qa f k)(v:Nat):∀i,Qa (Qf f k v i) (k+i)
 |0=>h
 |i+1=>(Qa.put h v i).step (Nat.mod_lt _ (by omega))
theorem Ic(w:aq)(p g L k:Nat)(f:Nat->Nat)(x:Nat)(y:Int)(hy:y=(x:Int))(hx:x<2)(hp:rV w p g L k)(ad:Row w g L f)(al:p≠g)(hk:k<8*L)(hL:L<=2000000)(hf:Qa f k):
  aw prog 80 #[ag (some ⟨p,0,none⟩),ae .u32 y] w fun e w'=>e=ao (.tuple #[])/\rV w' p g L (k+1)/\Row w' g L (kP f k x)/\∀B,B<=p->B<=g->aR B w w':=by
 subst hy
 refine(Ib w p g L k f x hx hp ad al hk hL hf.2.2).mono ?_
 rintro e w' ⟨rfl,rfl⟩
 refine⟨rfl,?_,?_,fun B h1 h2=>((ix.setCell h2 _).setCell h1 _).drew⟩
 ·have h1:rV (w.setCell ⟨g,k/8,none⟩ (ae .u8 ((f (k/8)+x*2^(k%8):Nat):Int))) p g L k:=(Below.heap_setCell w ⟨g,k/8,none⟩ _ p al).trans hp;show(World.setCell _ _ _).heap[p]?=_
  unfold rV at h1;simp[World.setCell,Array.getElem?_modify]at h1⊢;simp[h1]
 ·exact(ad.set (k/8) _).other (p:=⟨p,1,none⟩) (fun e=>al e.symm) _
theorem Ie(w:aq)(A:Option au)(n c:Nat)(f:Nat->Nat)(k m L v:Nat)(hr:iy w w.heap.size A n f)(aT:Qa (iK n f) k)(hk:k<=8388608)(hm:m<=32)(hn:n<=L)(hL:L=(k+m+7)/8)(hv:v<4294967296):
  aw prog 62 #[ah #[af A n c,ae aj (k:Int)],ae .u32 (v:Int),ae aj (m:Int)] w fun e w'=>∃g,e=ao (ah #[af (some ⟨g,0,none⟩) L L,ae aj ((k+m:Nat):Int)])/\
   w.heap.size<=g/\aR w.heap.size w w'/\Row w' g L (Qf (iK n f) k v m):=by
 have aW:L<=2000000:=by omega
 have aY:k+m<=8*L:=by omega
 have HL:=gW hL
 have HR:=gW hr
 have HC:=gW aT
 clear hL hr aT
 go_enter func62,ntmps62
 go_wp2_with fail
 refine(Hz _ A n c f k m L (HR.out.below ((ix.alloc gY _).alloc (by simp) _) gY|>.more (by simp;omega)) hk (by omega) hn HL.out).mono ?_
 rintro e w2 ⟨rfl,hb,ad⟩
 have HB:=gW hb
 have aU:=gW ad
 have aX:=ad.lt
 simp only[World.size_alloc]at aX
 clear hb ad
 go_wp2
 go_loopw [13] (fun i wr=>∃j:Nat,j<=m/\i=ae aj j/\rV wr w2.heap.size (w.heap.size+1+1+1+1) L (k+j)/\Row wr (w.heap.size+1+1+1+1) L (Qf (iK n f) k v j)/\aR (w.heap.size+1+1) w2 wr) (fun i _=>m-(aP i).toNat)
 case atStart=>
  refine⟨0,Nat.zero_le _,rfl,aG _ _,?_,?_⟩
  ·exact(Row.alloc (by simpa using aU.out) _:Row _ _ L (iK n f))
  ·exact ix.alloc (by omega) _
 case round=>
  obtain⟨j,hj,rfl,hp,ad,al⟩:=hrel;have HP:=gW hp;have HW:=gW ad;have av:=gW al;clear hp ad al;by_cases aV:j<m
  ·go_wp2_with fail
   refine(Ic _ _ _ L (k+j) _ (v/2^j%2) _ (zU v j hv) (Nat.mod_lt _ (by omega)) HP.out HW.out (by omega) (by omega) aW (HC.out.put v j)).mono ?_;rintro e w5 ⟨rfl,h1,h2,h3⟩;have h4:=gW (av.out.trans (h3 (w.heap.size+1+1) (by omega) (by omega)));have h5:=gW h1;have h6:=gW h2;clear h1 h2 h3;go_wp2;go_roundw
   case rel=>exact⟨j+1,aV,by go_num,h5.out,h6.out,h4.out⟩
   case measure=>simp[aP];omega
  ·obtain rfl:j=m:=by omega
   have d0:wr.cell? ⟨w2.heap.size,0,none⟩=some (af (some ⟨w.heap.size+1+1+1+1,0,none⟩) L L):=by rw[aH _ _ 0 _ 120 (0,0) HP.out];rfl
   have d1:wr.cell? ⟨w2.heap.size,1,none⟩=some (ae aj ((k+j:Nat):Int)):=by rw[aH _ _ 1 _ 120 (0,0) HP.out];rfl
   obtain⟨hc,aS⟩:=xn (HB.out.mono (B':=w.heap.size+1+1) (by simp)|>.trans av.out);have k2:=(hc (w.heap.size+1) 0 (by omega)).trans (by go_simp:_=some (Value.slice none 0 0));have k3:=(hc (w.heap.size+1) 1 (by omega)).trans (by go_simp:_=some (Value.int aj 0));have k4:=(aS (w.heap.size+1) 0 (by omega)).trans (by go_simp:_=false);have k5:=(aS (w.heap.size+1) 1 (by omega)).trans (by go_simp:_=false);clear hc aS;go_wp2;refine aK (v:=ah #[af (some ⟨w.heap.size+1+1+1+1,0,none⟩) L L,ae aj ((k+j:Nat):Int)]) ?_ rfl ⟨_,rfl,by omega,?_,?_⟩
   ·simp[results,Tryz.results62,go_sem,k2,k3]
   ·exact(((ix.alloc gY _).alloc (by simp) _).trans ((HB.out.mono (by simp;omega)).trans (av.out.mono (by omega)))).setCell (by simp) _|>.setCell (by simp) _
   ·exact(HW.out.other (p:=⟨w.heap.size+1,0,none⟩) (by simp;omega) _).other (p:=⟨w.heap.size+1,1,none⟩) (by simp;omega) _
def PR:List (Nat×Nat)->Nat
 |[]=>0
 |x::l=>x.2+PR l
def iE(f:Nat->Nat)(k:Nat):List (Nat×Nat)->Nat->Nat
 |[]=>f
 |x::l=>iE (Qf f k x.1 x.2) (k+x.2) l
theorem jC:∀a b,PR (a++b)=PR a+PR b
 |[],b=>by simp[PR]
 |x::a,b=>by simp only[List.cons_append,PR,jC a b];omega
theorem mj(f:Nat->Nat)(k:Nat):∀a b,iE f k (a++b)=iE (iE f k a) (k+PR a) b
 |[],b=>by simp[PR,iE]
 |x::a,b=>by
  simp only[List.cons_append,PR,iE];rw[mj _ _ a b,Nat.add_assoc]
theorem Qa.rW{f:Nat->Nat}{k:Nat}(h:Qa f k):∀l,Qa (iE f k l) (k+PR l)
 |[]=>h
 |x::l=>by
  have:=(h.put x.1 x.2).rW l;simp only[iE,PR];rwa[Nat.add_assoc]at this
def jT(F:Nat->Nat)(n i:Nat):Nat×Nat:=(Qg (jz F n i) (F i),F i)
def jU(t:iu):Nat:=if t.n=0 then t.x else(jN t.n).toNat
def lK(t:iu):Nat:=(jH t.d).toNat
def jD(F:Nat->Nat)(n:Nat)(G:Nat->Nat)(m:Nat)(t:iu):List (Nat×Nat):=
 if t.n=0 then[jT F n t.x]else[jT F n (jN t.n).toNat,((ll t.n).toNat,(kY t.n).toNat),jT G m (jH t.d).toNat,((lC t.d).toNat,(kZ t.d).toNat)]
def jM(F:Nat->Nat)(n:Nat)(G:Nat->Nat)(m:Nat)(l:List iu):List (Nat×Nat):=l.flatMap (jD F n G m)++[jT F n 256]
def kg(i:Nat):Nat:=if 256<=i/\i<=279 then 7 else if 144<=i/\i<=255 then 9 else 8
def lL(_:Nat):Nat:=5
def kc(i:Nat):Nat:=[16,17,18,0,8,7,9,6,10,5,11,4,12,3,13,2,14,1,15].getD i 0
def jn(l:List iu)(i:Nat):Nat:=(if i=256 then 1 else 0)+l.countP fun t=>decide (jU t=i)
def jg(l:List iu)(i:Nat):Nat:=l.countP fun t=>decide (t.n≠0/\lK t=i)
theorem BJ(l:List iu)(t:iu)(i:Nat):jn (l++[t]) i=jn l i+if jU t=i then 1 else 0:=by
 unfold jn;rw[List.countP_append,List.countP_singleton];simp only[decide_eq_true_eq];omega
theorem vf(l:List iu)(t:iu)(i:Nat):jg (l++[t]) i=jg l i+if t.n≠0/\lK t=i then 1 else 0:=by
 unfold jg;rw[List.countP_append,List.countP_singleton];simp only[decide_eq_true_eq]
theorem rX(l:List iu)(i:Nat):jn l i<=l.length+1:=by
 have:=List.countP_le_length (p:=fun t=>decide (jU t=i)) (l:=l);unfold jn;split<;>omega
theorem qY(l:List iu)(i:Nat):jg l i<=l.length:=List.countP_le_length
theorem xT{l:List iu}{t:iu}(h:t∈l):0<jn l (jU t):=by
 have:0<l.countP fun u=>decide (jU u=jU t):=List.countP_pos_iff.2 ⟨t,h,by simp⟩
 unfold jn;omega
theorem xU{l:List iu}{t:iu}(h:t∈l)(hn:t.n≠0):0<jg l (lK t):=List.countP_pos_iff.2 ⟨t,h,by simp[hn]⟩
def kz(c:Nat->Nat)(n:Nat):List Int:=(List.range n).map fun i=>((c i:Nat):Int)
theorem mG(c:Nat->Nat)(n:Nat):(kz c n).length=n:=by simp[kz]
theorem sZ(c:Nat->Nat){n i:Nat}(h:i<n):(kz c n).getD i 0=((c i:Nat):Int):=by
 unfold kz;rw[List.getD_eq_getElem?_getD];simp[h]
theorem BN(c:Nat->Nat){n i:Nat}(h:i<n):iq (kz c n) i=c i:=by unfold iq;rw[sZ c h];rfl
theorem xV{c:Nat->Nat}{n:Nat}{il:Nat}(h1:1<=il)(h2:il<=15)(hn:n<=320)(ad:n<=2^il)(hc:∀i,c i<=1073741824):nF (kz c n) (il:Int)=0:=by
 unfold nF;rw[mG,if_neg (by omega),if_neg (by omega),if_neg,if_neg]
 ·have:=pB (iq (kz c n)) n;rw[Int.toNat_natCast];omega
 ·unfold qV;simp only[decide_eq_true_eq];rintro⟨j,hj,hb⟩;rw[sZ c hj]at hb;unfold qU at hb;simp only[decide_eq_true_eq]at hb;have:=hc j;omega
def mv(c:Nat->Nat)(n il:Nat):Nat->Nat:=oe (kz c n) (il:Int)
theorem BO(c:Nat->Nat)(n il i:Nat):mv c n il i<256:=sU _ _ _
theorem s8{c:Nat->Nat}{n:Nat}{il:Nat}(h1:1<=il)(h2:il<=15)(hn:n<=320)(ad:n<=2^il)(hc:∀i,c i<=1073741824):
  (∀i,mv c n il i<=il)/\P8 (mv c n il) n<=32768/\(∀i,i<n->(0<mv c n il i↔0<c i))/\mv c n il=jx (iq (kz c n)) n il/\nI (iq (kz c n)) n<=2^il:=by
 have ha:=xV h1 h2 hn ad hc
 obtain⟨h3,h4,h5⟩:=Bi ha
 rw[mG]at h4 h5
 obtain⟨_,_,_,_,g5,_⟩:=tH h4
 have al:nI (iq (kz c n)) n<=2^il:=Nat.le_trans (pB _ _) ad
 have e:mv c n il=jx (iq (kz c n)) n il:=by
  funext i;unfold mv oe;rw[if_pos ha,mG,Int.toNat_natCast]
 refine⟨fun i=>by rw[e];exact xC _ (by omega) i,g5,fun i hi=>?_,e,al⟩
 rw[e]
 constructor
 ·intro g;rcases Nat.eq_zero_or_pos (c i)with h0|h0
  ·unfold jx at g;rw[BN c hi,if_pos h0]at g;omega
  ·exact h0
 ·intro g;exact(xB (by omega) al hi (by rw[BN c hi];exact g)).1
def Qc(f:Nat->Nat)(least:Nat):Nat->Nat
 |0=>least
 |k+1=>if least<=k/\f k≠0 then k+1 else Qc f least k
theorem s9(f:Nat->Nat)(least:Nat):∀n,least<=Qc f least n
 |0=>Nat.le_refl _
 |k+1=>by
  simp only[Qc];split
  ·omega
  ·exact s9 f least k
theorem qZ(f:Nat->Nat)(least:Nat):∀n,least<=n->Qc f least n<=n
 |0,h=>h
 |k+1,h=>by
  simp only[Qc];split
  ·omega
  ·rename_i g;rcases Nat.eq_or_lt_of_le h with e|e
   ·have:∀j,j<=k->Qc f least j=least:=by
     intro j;induction j with
     |zero=>intro _;rfl
     |succ j ih=>intro hj;simp only[Qc];rw[if_neg (by omega)];exact ih (by omega)
    rw[this k gY];omega
   ·exact Nat.le_trans (qZ f least k (by omega)) (by omega)
theorem vg(f:Nat->Nat)(least:Nat):∀n i,i<n->f i≠0->i<Qc f least n
 |0,i,h,_=>absurd h (by omega)
 |k+1,i,h,hf=>by
  simp only[Qc];split
  ·omega
  ·rename_i g;rcases Nat.eq_or_lt_of_le (Nat.le_of_lt_succ h)with e|e
   ·subst e;have:=s9 f least i;have:¬least<=i:=fun h2=>g ⟨h2,hf⟩
    omega
   ·exact vg f least k i e hf
theorem BP(f:Nat->Nat){a b:Nat}(h:a<=b):P8 f a<=P8 f b:=by
 induction b with
 |zero=>rw[show a=0 by omega];exact Nat.le_refl _
 |succ b ih=>
  rcases Nat.eq_or_lt_of_le h with h|h
  ·subst h;exact Nat.le_refl _
  ·exact Nat.le_trans (ih (by omega)) (Nat.le_add_right _ _)
def jA(l:List iu):Nat->Nat:=mv (jn l) 286 15
def jE(l:List iu):Nat->Nat:=mv (jg l) 30 15
def nA(l:List iu):Nat:=Qc (jA l) 257 286
def nB(l:List iu):Nat:=Qc (jE l) 1 30
def oK(l:List iu):Nat->Nat:=cat (jA l) (nA l) (jE l)
def jV(l:List iu):List (Int×Int):=lJ (oK l) (nA l+nB l) 0
def ld(l:List (Int×Int))(i:Nat):Nat:=l.countP fun r=>decide (r.1=(i:Int))
theorem BQ(l:List (Int×Int))(r:Int×Int)(i:Nat):ld (l++[r]) i=ld l i+if r.1=(i:Int)then 1 else 0:=by
 unfold ld;rw[List.countP_append,List.countP_singleton];simp only[decide_eq_true_eq]
theorem rf(l:List (Int×Int))(i:Nat):ld l i<=l.length:=List.countP_le_length
def kj(l:List iu):Nat->Nat:=mv (ld (jV l)) 19 7
def kl(l:List iu)(i:Nat):Nat:=kj l (kc i)
def nR(l:List iu):Nat:=Qc (kl l) 4 19
def kA(F:Nat->Nat)(r:Int×Int):List (Nat×Nat):=[jT F 19 r.1.toNat,(r.2.toNat,(jG r.1).toNat)]
def lD(l:List iu):List (Nat×Nat):=
 [(nA l-257,5),(nB l-1,5),(nR l-4,4)]++((List.range (nR l)).map fun i=>(kl l i,3))++(jV l).flatMap (kA (kj l))
def kT(a:Nat):Nat:=(8-(a+3)%8)%8
def ri(a n:Nat)(r:Nat->Nat):List (Nat×Nat):=List.replicate (kT a) (0,1)++[(n,16),(65535-n,16)]++((List.range n).map fun i=>(r i,8))
def iM(a kind n:Nat)(r:Nat->Nat)(l:List iu)(last:Bool):List (Nat×Nat):=
 [(if last then 1 else 0,1),(kind,2)]++(if kind=1 then jM kg 288 lL 32 l else if kind=2 then lD l++jM (jA l) (nA l) (jE l) (nB l) l else ri a n r)
def m9(kind n:Nat)(l:List iu):Int:=if 2<kind then 2 else if 65535<n\/65535<l.length then 4 else if l.all iO then 0 else 8
theorem mH{t:iu}(h:iO t=true)(hx:t.x<256):jU t<286/\(t.n=0->jU t=t.x)/\(t.n≠0->oh t.n=0/\oo t.d=0/\257<=jU t/\lK t<30):=by
 unfold iO at h;simp only[decide_eq_true_eq]at h;unfold jU lK;by_cases h0:t.n=0
 ·rw[if_pos h0];exact⟨by omega,fun _=>rfl,fun g=>absurd h0 g⟩
 ·rw[if_neg h0];obtain⟨_,_,h3,h4,h5,h6⟩:t.n≠0/\t.x=0/\3<=t.n/\t.n<=258/\1<=t.d/\t.d<=32768:=by
   rcases h with⟨a,_⟩|h
   ·exact absurd a h0
   ·exact h
  have e1:oh t.n=0:=if_pos ⟨h3,h4⟩;have e2:oo t.d=0:=if_pos ⟨h5,h6⟩;have a1:=(sW (T:=iW) (n:=t.n.toNat) (show 3<=t.n.toNat by omega) 29 (by omega)).1;have a2:=(sW (T:=jb) (n:=t.d.toNat) (show 1<=t.d.toNat by omega) 30 (by omega)).1;have s1:jN t.n=((257+pT t.n:Nat):Int):=if_pos ⟨h3,h4⟩;have s2:jH t.d=((pU t.d:Nat):Int):=if_pos ⟨h5,h6⟩;have b1:pT t.n<29:=a1;have b2:pU t.d<30:=a2;refine⟨by omega,fun g=>absurd g h0,fun _=>⟨e1,e2,by omega,by omega⟩⟩
theorem nc(l:List iu)(hl:l.length<=1000000):
  (∀i,jA l i<=15)/\(∀i,jE l i<=15)/\P8 (jA l) (nA l)<=32768/\P8 (jE l) (nB l)<=32768/\257<=nA l/\nA l<=286/\1<=nB l/\nB l<=30/\
  (∀i,i<286->0<jn l i->i<nA l/\0<jA l i)/\(∀i,i<30->0<jg l i->i<nB l/\0<jE l i):=by
 obtain⟨a1,a2,a3,_,_⟩:=s8 (c:=jn l) (n:=286) (il:=15) (by omega) (by omega) (by omega) (by decide) (fun i=>by have:=rX l i;omega)
 obtain⟨b1,b2,b3,_,_⟩:=s8 (c:=jg l) (n:=30) (il:=15) (by omega) (by omega) (by omega) (by decide) (fun i=>by have:=qY l i;omega)
 have c1:=s9 (jA l) 257 286
 have c2:=qZ (jA l) 257 286 (by omega)
 have d1:=s9 (jE l) 1 30
 have d2:=qZ (jE l) 1 30 (by omega)
 refine⟨a1,b1,Nat.le_trans (BP _ c2) a2,Nat.le_trans (BP _ d2) b2,c1,c2,d1,d2,fun i hi h=>?_,fun i hi h=>?_⟩
 ·have:=(a3 i hi).2 h;exact⟨vg _ _ _ i hi (by unfold jA;omega),this⟩
 ·have:=(b3 i hi).2 h;exact⟨vg _ _ _ i hi (by unfold jE;omega),this⟩
theorem vh(l:List iu)(hl:l.length<=1000000)(i:Nat):oK l i<=15:=by
 obtain⟨h1,h2,_⟩:=nc l hl;unfold oK cat;split
 ·exact h1 _
 ·exact h2 _
def ib(w:aq)(B:Nat)(A:Option au)(n c:Nat)(f:Nat->Nat):Prop:=iy w B A n f/\(A=none->c=0)/\n<=c/\c<=maxLen
theorem ib.below{w w':aq}{B B' n c:Nat}{A:Option au}{f:Nat->Nat}(h:ib w B A n c f)(hb:aR B' w w')(hB:B<=B'):ib w' B A n c f:=⟨h.1.below hb hB,h.2⟩
theorem ib.more{w:aq}{B B' n c:Nat}{A:Option au}{f:Nat->Nat}(h:ib w B A n c f)(hB:B<=B'):ib w B' A n c f:=⟨h.1.more hB,h.2⟩
theorem ib.nil(w:aq)(B:Nat)(f:Nat->Nat)(hf:∀j,f j<256):ib w B none 0 0 f:=⟨⟨hf,fun h=>by omega⟩,fun _=>rfl,Nat.le_refl _,by unfold maxLen;omega⟩
theorem ib.iI{w:aq}{base n c:Nat}{A:Option au}{f:Nat->Nat}(h:w.ownsRow base 5 1 (af A n c) n (iw n f))(hf:∀j,f j<256):ib w w.heap.size A n c f:=by
 refine⟨iy.iI h hf,?_⟩;rcases h.2 with⟨hv,h0⟩|⟨g,cap,cur,hv,_,_,h1,h2,_⟩
 ·injection hv with h3 h4 h5
  exact⟨fun _=>h5,by omega,by unfold maxLen;omega⟩
 ·injection hv with h3 h4 h5
  exact⟨(fun h=>by rw[h]at h3;cases h3),by omega,by omega⟩
theorem vm{H:Type}{enc:aB×ax->H}{W:aq}{base:Nat}{sp:Nat->Bool}{hd:Bool}{a:Option au}{len cap:Nat}{d:DataW H}{p:List MemPlace}
  (h:∃fuel,DataW.trod enc prog W base sp hd fuel 22 (Value.slice a len cap).cells.toList=some (d,p)):∃f,ib W W.heap.size a len cap f:=by
 obtain⟨f,h1,h2,h3,h4⟩:=Gg h
 exact⟨f,h1,h2,h3,h4⟩
theorem ib.drop{w:aq}{B n c p:Nat}{a:au}{A2:Option au}{f:Nat->Nat}(h:ib w B (some a) n c f)(hp:p<=n)(hA:(if c=p then some a else some (a.add p))=A2):ib w B A2 (n-p) (c-p) (fun j=>f (j+p)):=by
 obtain⟨h1,h2,h3,h4⟩:=h;refine⟨⟨fun j=>h1.1 _,fun hn=>?_⟩,fun h=>?_,by omega,by omega⟩
 ·obtain⟨b,o,e,hb,ad⟩:=h1.2 (by omega);cases e
  rw[if_neg (by omega)]at hA;have e:(⟨b,o,none⟩:au).add p=⟨b,o+p,none⟩:=by unfold Addr.add;split<;>simp_all
  rw[e]at hA;refine⟨b,o+p,hA.symm,hb,fun j hj=>?_⟩;have:=ad (j+p) (by omega);rw[show o+p+j=o+(j+p) by omega];exact this
 ·rw[h]at hA;split at hA<;>cases hA
theorem ib.drew{w:aq}{B n c:Nat}{A:Option au}{f:Nat->Nat}(h:ib w B A n c f):ib w.drew B A n c f:=h
theorem Ig(w:aq)(n:Nat)(hn:n<=1000000000000):
  aw prog 60 #[af none 0 0,ae aj (n:Int)] w fun e w'=>∃A c,e=ao (af A 0 c)/\w'.ownsRow w.heap.size 5 1 (af A 0 c) 0 []/\aR w.heap.size w w':=by
 rcases Nat.eq_zero_or_pos n with h0|h0
 ·subst h0;go_enter func60,ntmps60
  go_wp2;go_ret;exact⟨none,0,rfl,World.ownsRow_nil _ _ _ _,Below.refl _ _⟩
 ·obtain⟨i0,hi,aS,aW,aT⟩:=info_parts pz;have ad:=Lib.run_append_nil_zeros (P:=prog) w 22 3 22 5 i0 (ae .u8 0) aj aj underlying22 underlying3 hi aS n h0 (by omega) (by omega) (by rw[aT];omega);have aX:=grownCap_ge w n 0 5;have hle:=grownCap_le_maxLen w n 0 5 (by unfold maxLen;omega);obtain⟨c,hc⟩:=gX (grownCap w n 0 5);rw[<-hc]at ad aX hle;obtain⟨Z,hZ⟩:=gX ((Builtin.zeroCells (Value.int .u8 0).cells n++Builtin.zeroCells (Value.int .u8 0).cells (c-n)));rw[<-hZ]at ad;have aU:Z.size=c*1:=by rw[hZ];simp[size_zeroCells,Value.cells];omega
  have al:=World.ownsRow_made (base:=w.heap.size) (e:=5) (size:=1) w.drew Z c gY hle aU;have av:aR w.heap.size w (w.drew.alloc (ak Z 5)):=(Below.refl w.heap.size w).drew.alloc gY _;obtain⟨w1,aV⟩:=gX (w.drew.alloc (ak Z 5));rw[<-aV]at ad al av;have HR:=gW ad;have HO:=gW al;have HB:=gW av
  unfold maxLen at hle;clear ad al av hZ aU aV hc hi aS aW aT;have hp:(0:Int)<(n:Int):=by omega
  go_enter func60,ntmps60
  go_wp2_with (at_builtin;refine Lib.wpList_append_run _ rfl _ _ _ _ rfl _ _ rfl rfl _ _ HR.out ?_)
  go_ret;exact⟨_,_,rfl,HO.out,HB.out⟩
theorem ta{n:Nat}{f g:Nat->Nat}(h:∀j,j<n->f j=g j):iw n f=iw n g:=by
 unfold iw;exact List.map_congr_left fun j hj=>by rw[h j (List.mem_range.1 hj)]
theorem Ih(w:aq)(base:Nat)(A:Option au)(n c:Nat)(F:Nat->Nat)(hF:∀j,F j<256)(al:w.ownsRow base 5 1 (af A n c) n (iw n F))(x:Nat)(hx:x=F n)(hn:n<=1000000000)(ad:base<=w.heap.size):
  ∃A' c' w',(Builtin.append_ #[22,22] 22 #[af A n c,af (some ⟨w.heap.size,0,none⟩) 1 1]).run prog (w.alloc (ak #[ae .u8 (x:Int)] 5))=.ok (af A' (n+1) c') w'/\
   w'.ownsRow base 5 1 (af A' (n+1) c') (n+1) (iw (n+1) F)/\aR base w w':=by
 subst hx
 have av:aR base w (w.alloc (ak #[ae .u8 (F n:Int)] 5)):=(Below.refl base w).alloc ad _
 have hr:iy (w.alloc (ak #[ae .u8 (F n:Int)] 5)) (w.alloc (ak #[ae .u8 (F n:Int)] 5)).heap.size (some ⟨w.heap.size,0,none⟩) 1 (fun _=>F n):=
  ⟨fun _=>hF n,fun _=>⟨w.heap.size,0,rfl,by simp,fun j hj=>by
   obtain rfl:j=0:=by omega
   rw[aH _ _ _ _ _ (0,0) (aG w _)];rfl⟩⟩
 obtain⟨A',c',w',h1,h2,h3⟩:=sO (w.alloc (ak #[ae .u8 (F n:Int)] 5)) base _ (af A n c) n F (al.alloc _) (some ⟨w.heap.size,0,none⟩) 1 1 (fun _=>F n) hr (by omega) 22 (fun h=>by cases h) (Nat.le_trans ad av.size)
 refine⟨A',c',w',h1,?_,av.trans h3⟩
 rw[<-ta (f:=cat F n (fun _=>F n)) (g:=F)]
 ·exact h2
 ·intro j hj;unfold cat;split
  ·rfl
  ·rw[show j=n by omega]
def Qd(n:Nat->Nat):Nat->Nat
 |0=>0
 |k+1=>Qd n k+n k
def oL(n:Nat->Nat)(f:Nat->Nat->Nat):Nat->Nat->Nat
 |0,_=>0
 |k+1,j=>cat (oL n f k) (Qd n k) (f k) j
theorem BR{n:Nat->Nat}{f:Nat->Nat->Nat}(hf:∀i j,f i j<256):∀k j,oL n f k j<256
 |0,_=>by show 0<256;omega
 |k+1,j=>by show cat _ _ _ _<256;exact zV (BR hf k) (hf k) j
theorem vn(n:Nat->Nat){a b:Nat}(h:a<=b):Qd n a<=Qd n b:=by
 induction h with
 |refl=>exact Nat.le_refl _
 |step _ ih=>exact Nat.le_trans ih (Nat.le_add_right _ _)
def Qu(w:aq)(B:Nat)(A:Option au)(k:Nat)(n:Nat->Nat)(f:Nat->Nat->Nat):Prop:=
 0<k->∃b o,A=some ⟨b,o,none⟩/\b<B/\∀i,i<k->∃Ai ci,w.cell? ⟨b,o+i,none⟩=some (af Ai (n i) ci)/\iy w B Ai (n i) (f i)/\(Ai=none->ci=0)
theorem Qu.below{w w':aq}{B B' k:Nat}{A:Option au}{n:Nat->Nat}{f:Nat->Nat->Nat}(h:Qu w B A k n f)(hb:aR B' w w')(hB:B<=B'):Qu w' B A k n f:=fun hk=>by
 obtain⟨b,o,h1,h2,h3⟩:=h hk;refine⟨b,o,h1,h2,fun i hi=>?_⟩;obtain⟨Ai,ci,q1,q2,q3⟩:=h3 i hi;exact⟨Ai,ci,by rw[hb.cell (p:=⟨b,o+i,none⟩) (by show b<B';omega)];exact q1,q2.below hb hB,q3⟩
theorem Ii(w:aq)(A:Option au)(k c:Nat)(n:Nat->Nat)(f:Nat->Nat->Nat)(hf:∀i j,f i j<256)(hr:Qu w w.heap.size A k n f)(hk:k<=1000000)(hs:Qd n k<=1000000000):
  aw prog 45 #[af A k c] w fun e w'=>∃A' c',e=ao (af A' (Qd n k) c')/\ib w' w'.heap.size A' (Qd n k) c' (oL n f k)/\aR w.heap.size w w'/\(∀b,A'.map (·.block)=some b->w.heap.size<=b):=by
 have HR:=gW hr;have HF:=gW hf;have HS:=gW hs
 obtain⟨N,hN⟩:=gX (Qd n k)
 rw[<-hN]at hs⊢
 have HN:=gW hN
 clear hr hf hN
 go_enter func45,ntmps45
 go_wp2_with fail
 go_loopw [3,11] (fun s i wr=>∃j q:Nat,j<=k/\i=ae aj (j:Int)/\s=ae aj (q:Int)/\aQ (q=Qd n j)/\w=wr) (fun _ i _=>k-(aP i).toNat)
 case atStart=>exact⟨0,0,Nat.zero_le _,rfl,rfl,gW rfl,rfl⟩
 case round=>
  obtain⟨j,q,hj,rfl,rfl,HQ,rfl⟩:=hrel;by_cases aZ:j<k
  ·have aV:(j:Int)<(k:Int):=by omega
   obtain⟨b,o,rfl,hb,al⟩:=HR.out (by omega);obtain⟨Ai,ci,c1,_,_⟩:=al j aZ;have ad:Qd n (j+1)=q+n j:=by rw[HQ.out];rfl
   have av:=vn n (show j+1<=k by omega);have aS:=HS.out;obtain⟨m,hm⟩:=gX (n j);rw[<-hm]at c1 ad;have a5:q+m<=1000000000:=by omega
   have a6:¬((q:Int)+(m:Int)<0):=by omega
   have aT:=gW ad;clear al ad av aS hm;go_wp2;go_roundw
   case rel=>exact⟨j+1,q+m,by omega,by go_num,by go_num,gW aT.out.symm,trivial⟩
   case measure=>simp[aP];omega
  ·obtain rfl:j=k:=by omega
   have aV:¬(j:Int)<(j:Int):=by omega
   have a1:q=N:=by rw[HQ.out,HN.out]
   subst a1;go_wp2_with fail
   refine(Ig _ q (by omega)).mono ?_;rintro e w1 ⟨A1,c1,rfl,aW,aX⟩;have a2:=gW aW;have a3:=gW aX
   clear aW aX;go_wp2_with fail
   go_loopw [6,27] (fun s i wr=>∃(t p:Nat) (At:Option au) (ct:Nat),t<=j/\i=ae aj (t:Int)/\s=af At p ct/\aQ (p=Qd n t)/\aQ (wr.ownsRow w.heap.size 5 1 (af At p ct) p (iw p (oL n f t)))/\aQ (aR w.heap.size w wr)) (fun _ i _=>j-(aP i).toNat)
   case atStart=>exact⟨0,0,A1,c1,Nat.zero_le _,rfl,rfl,gW rfl,a2,a3⟩
   case round=>
    obtain⟨t,p,At,ct,ht,rfl,rfl,HP,HO,HB⟩:=hrel;by_cases aY:t<j
    ·have aU:(t:Int)<(j:Int):=by omega
     obtain⟨b,o,rfl,hb,al⟩:=(HR.out.below HB.out gY) (by omega);obtain⟨Ai,ci,k1,k2,k3⟩:=al t aY;have ad:Qd n (t+1)=p+n t:=by rw[HP.out];rfl
     have av:=vn n (show t+1<=j by omega);have aS:=HS.out;obtain⟨A',c',w',r1,r2,r3⟩:=sO wr w.heap.size _ (af At p ct) p _ HO.out Ai (n t) ci (f t) k2 (by omega) 22 k3 HB.out.size;obtain⟨m,hm⟩:=gX (n t);rw[<-hm]at k1 r1 r2 ad;have e1:cat (oL n f t) p (f t)=oL n f (t+1):=by funext x;rw[HP.out];rfl
     rw[e1]at r2;have aT:=gW ad;have R1:=gW r1;have R2:=gW r2;have R3:=gW (HB.out.trans r3)
     clear al ad av aS r1 r2 r3 k2 k3 hm e1;go_wp2_with (at_builtin;refine wpList_append_run rfl (.tmp 31) (.tmp 32) 22 rfl (af At p ct) (af Ai m ci) (af A' (p+m) c') w' rfl rfl R1.out ?_)
     go_roundw
     case rel=>exact⟨t+1,p+m,A',c',by omega,by go_num,rfl,gW aT.out.symm,R2,R3⟩
     case measure=>simp[aP];omega
    ·obtain rfl:t=j:=by omega
     have aU:¬(t:Int)<(t:Int):=by omega
     have a4:p=q:=by rw[HP.out,HN.out]
     subst a4;go_wp2;go_ret;exact⟨At,ct,rfl,ib.iI HO.out (BR HF.out t),HB.out,fun b hb=>by subst hb;exact zY HO.out b.block rfl⟩
open Go.ChangeShapes Go.WideShapes Go.ChangeAt Go.Joins
def oq:Nat×Nat:=(0,0)
def ln(r:Nat×Nat):List ax:=[ae .u32 (r.1:Int),ae aj (r.2:Int)]
def P9:List (Nat×Nat)->List ax
 |[]=>[]
 |r::l=>ln r++P9 l
theorem rj:∀l,(P9 l).length=l.length*2
 |[]=>rfl
 |r::l=>by simp only[P9,List.length_append,List.length_cons,rj l];simp[ln];omega
theorem tM:∀l m,P9 (l++m)=P9 l++P9 m
 |[],_=>rfl
 |r::l,m=>by simp[P9,tM l m]
theorem xW:∀(l:List (Nat×Nat)) (j i:Nat),j<l.length->i<2->(P9 l)[j*2+i]?=(ln (l.getD j oq))[i]?
 |[],j,i,h,_=>absurd h (by simp)
 |r::l,0,i,_,hi=>by
  simp only[P9,Nat.zero_mul,Nat.zero_add];rw[List.getElem?_append_left (by simpa[ln]using hi)];rfl
 |r::l,j+1,i,h,hi=>by
  simp only[P9];rw[List.getElem?_append_right (by simp[ln];omega)];have e:(j+1)*2+i-(ln r).length=j*2+i:=by simp[ln];omega
  rw[e,xW l j i (by simpa using h) hi];rfl
theorem xX(l:List (Nat×Nat)):∀u∈P9 l,u.oneCell'=true:=by
 induction l with
 |nil=>intro u hu;simp[P9]at hu
 |cons r l ih=>
  intro u hu;simp only[P9,List.mem_append]at hu;rcases hu with hu|hu
  ·simp[ln]at hu;rcases hu with rfl|rfl<;>rfl
  ·exact ih u hu
theorem vo:(prog.info? 150).map (fun i=>(i.zero,i.size,i.bytes))=some (some (ah #[ae .u32 0,ae aj 0]),2,16):=by kernel_rfl
theorem Ij:(prog.info? 150).map (·.size)=some 2:=by kernel_rfl
def mo(w:aq)(B:Nat)(A:Option au)(l:List (Nat×Nat)):Prop:=iQ w B 2 A l.length (P9 l)
theorem mo.below{w w':aq}{B B':Nat}{A:Option au}{l:List (Nat×Nat)}(h:mo w B A l)(hb:aR B' w w')(hB:B<=B'):mo w' B A l:=iQ.below h hb hB
theorem mo.more{w:aq}{B B':Nat}{A:Option au}{l:List (Nat×Nat)}(h:mo w B A l)(hB:B<=B'):mo w B' A l:=iQ.more h hB
theorem mo.iI{w:aq}{base c n:Nat}{A:Option au}{l:List (Nat×Nat)}(h:w.ownsRow base 150 2 (af A n c) n (P9 l)):n=l.length/\mo w w.heap.size A l:=by
 have h1:=iQ.iI h;have h2:=h1.1;rw[rj]at h2;obtain rfl:n=l.length:=by omega
 exact⟨rfl,h1⟩
theorem mo.at{w:aq}{B:Nat}{A:Option au}{l:List (Nat×Nat)}(h:mo w B A l){k:Nat}(hk:k<l.length):∃b o,A=some ⟨b,o,none⟩/\b<B/\∀j,j<l.length->
  w.cell? ⟨b,o+j*2,none⟩=some (ae .u32 ((l.getD j oq).1:Int))/\w.cell? ⟨b,o+j*2+1,none⟩=some (ae aj ((l.getD j oq).2:Int)):=by
 obtain⟨b,o,h1,h2,h3⟩:=h.2 (by omega)
 refine⟨b,o,h1,h2,fun j hj=>⟨?_,?_⟩⟩
 ·have:=h3 (j*2+0) _ ((xW l j 0 hj (by omega)).trans rfl);simpa using this
 ·have:=h3 (j*2+1) _ ((xW l j 1 hj (by omega)).trans rfl);rw[show o+j*2+1=o+(j*2+1) by omega];exact this
theorem mo.range{w:aq}{B:Nat}{A:Option au}{l:List (Nat×Nat)}(h:mo w B A l){b o:Nat}(hA:A=some ⟨b,o,none⟩){j:Nat}(hj:j<l.length):w.rangeAt b (o+j*2) (ln (l.getD j oq)):=by
 obtain⟨b',o',h1,_,h3⟩:=h.at hj;rw[hA]at h1;injection h1 with h1
 injection h1 with hb ho _
 subst hb;subst ho;obtain⟨c0,c1⟩:=h3 j hj;intro i v hv;rcases i with _|_|i
 ·simp[ln]at hv;subst hv;exact c0
 ·simp[ln]at hv;subst hv;exact c1
 ·simp[ln]at hv
theorem rY(w:aq)(base:Nat)(A:Option au)(n c:Nat)(l:List (Nat×Nat))(al:w.ownsRow base 150 2 (af A n c) n (P9 l))(r:Nat×Nat)(hn:n<=1000000)(ad:base<=w.heap.size):
  ∃A' c' w',(Builtin.append_ #[111,111] 111 #[af A n c,af (some ⟨w.heap.size,0,none⟩) 1 1]).run prog (w.alloc (ak #[ae .u32 (r.1:Int),ae aj (r.2:Int)] 150))=.ok (af A' (n+1) c') w'/\
   w'.ownsRow base 150 2 (af A' (n+1) c') (n+1) (P9 (l++[r]))/\aR base w w':=by
 have av:aR base w (w.alloc (ak #[ae .u32 (r.1:Int),ae aj (r.2:Int)] 150)):=(Below.refl base w).alloc ad _
 obtain⟨A',c',w',h2,o2,b2⟩:=pC (kS:=16) underlying111 vo rfl (by decide) (w.alloc (ak #[ae .u32 (r.1:Int),ae aj (r.2:Int)] 150)) base _ (af A n c) n _ (al.alloc _) _ 1 1 _
  (iQ.new w 2 1 #[ae .u32 (r.1:Int),ae aj (r.2:Int)] 150 rfl) (fun u hu=>by simp at hu;rcases hu with rfl|rfl<;>rfl) (by unfold maxLen;omega) (by omega) 111 (fun h=>by cases h) (Nat.le_trans ad av.size)
 refine⟨A',c',w',h2,?_,av.trans b2⟩
 rw[tM]
 exact o2
def lp(w:aq)(B:Nat)(A:Option au)(n c:Nat)(l:List (Nat×Nat)):Prop:=n=l.length/\mo w B A l/\(A=none->c=0)/\n<=c/\c<=maxLen
theorem lp.below{w w':aq}{B B' n c:Nat}{A:Option au}{l:List (Nat×Nat)}(h:lp w B A n c l)(hb:aR B' w w')(hB:B<=B'):lp w' B A n c l:=⟨h.1,h.2.1.below hb hB,h.2.2⟩
theorem lp.more{w:aq}{B B' n c:Nat}{A:Option au}{l:List (Nat×Nat)}(h:lp w B A n c l)(hB:B<=B'):lp w B' A n c l:=⟨h.1,h.2.1.more hB,h.2.2⟩
theorem lp.iI{w:aq}{base n c:Nat}{A:Option au}{l:List (Nat×Nat)}(h:w.ownsRow base 150 2 (af A n c) n (P9 l)):lp w w.heap.size A n c l:=by
 obtain⟨h1,h2⟩:=mo.iI h;refine⟨h1,h2,?_⟩;rcases h.2 with⟨hv,h0⟩|⟨g,cap,cur,hv,_,_,k1,k2,_⟩
 ·injection hv with h3 h4 h5
  exact⟨fun _=>h5,by omega,by unfold maxLen;omega⟩
 ·injection hv with h3 h4 h5
  exact⟨(fun h=>by rw[h]at h3;cases h3),by omega,by omega⟩
theorem me{w w':aq}{base:Nat}{e:aB}{sz:Nat}{v:ax}{n:Nat}{xs:List ax}(h:w.ownsRow base e sz v n xs)(hb:aR w.heap.size w w'):w'.ownsRow base e sz v n xs:=by
 obtain⟨h1,h2⟩:=h;refine⟨h1,?_⟩;rcases h2 with h2|⟨g,cap,cur,hv,hg,hh,r⟩
 ·exact .inl h2
 ·exact .inr ⟨g,cap,cur,hv,hg,(hb.block g (Array.getElem?_eq_some_iff.1 hh).1).trans hh,r⟩
theorem xY(w:aq)(base:Nat)(A:Option au)(n c:Nat)(l:List (Nat×Nat))(av:w.ownsRow base 150 2 (af A n c) n (P9 l))(m:List (Nat×Nat))(k:Nat)(hk:k=m.length)(cs:Array ax)(al:cs.toList=P9 m)(hn:n+k<=1000000)(ad:base<=w.heap.size):
  ∃A' c' w',(Builtin.append_ #[111,111] 111 #[af A n c,af (some ⟨w.heap.size,0,none⟩) k k]).run prog (w.alloc (ak cs 150))=.ok (af A' (n+k) c') w'/\
   w'.ownsRow base 150 2 (af A' (n+k) c') (n+k) (P9 (l++m))/\aR base w w':=by
 subst hk
 have aS:aR base w (w.alloc (ak cs 150)):=(Below.refl base w).alloc ad _
 have aT:cs.size=m.length*2:=by rw[<-Array.length_toList,al,rj]
 obtain⟨A',c',w',h2,o2,b2⟩:=pC (kS:=16) underlying111 vo rfl (by decide) (w.alloc (ak cs 150)) base _ (af A n c) n _ (av.alloc _) _ m.length m.length _
  (iQ.new w 2 m.length cs 150 aT) (fun u hu=>by rw[al]at hu;exact xX m u hu) (by unfold maxLen;omega) (by omega) 111 (fun h=>by cases h) (Nat.le_trans ad aS.size)
 refine⟨A',c',w',h2,?_,aS.trans b2⟩
 rw[tM,<-al]
 exact o2
theorem xZ{ops:Array aA}{o:aA}{a:Act}{w:aq}{K:Act->aq->Prop}{Q:Exit->Act->aq->Prop}{E:Prop}(al:o.guard=none)(f:FuncId)(xs:Array Operand)(ts:Array aB)
  (ho:o.op=.call {callee:=.value (.func f),args:=xs,argTypes:=ts}) (eg:∀args w,(callFunc f args).run prog w=.ok (.enter f args) w) (args:Array ax) (hx:xs.map a.eval=args) {R:Ending->aq->Prop} (hc:aw prog f args w R)
  (h:∀e w',R e w'->∃v,e=ao v/\K (a.put o.dst v) w'):
  if Region.wanted o (aM ops a.tmps)=true then Oper.wp prog o a w K Q else E:=by
 have hw:Region.wanted o (aM ops a.tmps)=true:=by simp[Region.wanted,al]
 rw[if_pos hw]
 unfold Oper.wp
 have ad:(execOp a.eval o).run prog w=.ok (.enter f args) w:=by
  simp[execOp,ho,resolve,invoke,hx,go_sem,eg,Deferred.ofValue]
 rw[ad]
 refine hc.mono fun e w' hr=>?_
 obtain⟨v,rfl,hk⟩:=h e w' hr
 exact hk
theorem Ik{ops:Array aA}{o:aA}{a:Act}{w:aq}{K:Act->aq->Prop}{Q:Exit->Act->aq->Prop}{E:Prop}(hw:Region.wanted o (aM ops a.tmps)=true)(f:FuncId)(xs:Array Operand)(ts:Array aB)
  (ho:o.op=.call {callee:=.value (.func f),args:=xs,argTypes:=ts}) (eg:∀args w,(callFunc f args).run prog w=.ok (.enter f args) w) (args:Array ax) (hx:xs.map a.eval=args) {R:Ending->aq->Prop} (hc:aw prog f args w R)
  (h:∀e w',R e w'->∃v,e=ao v/\K (a.put o.dst v) w'):
  if Region.wanted o (aM ops a.tmps)=true then Oper.wp prog o a w K Q else E:=by
 rw[if_pos hw]
 unfold Oper.wp
 have ad:(execOp a.eval o).run prog w=.ok (.enter f args) w:=by
  simp[execOp,ho,resolve,invoke,hx,go_sem,eg,Deferred.ofValue]
 rw[ad]
 refine hc.mono fun e w' hr=>?_
 obtain⟨v,rfl,hk⟩:=h e w' hr
 exact hk
theorem pV{ops:Array aA}{o:aA}{a:Act}{w:aq}{K:Act->aq->Prop}{Q:Exit->Act->aq->Prop}{E:Prop}(ad:o.guard=none)(ty:aB)(x:Operand)(ho:o.op=.load ty x)(b k:Nat)(hx:a.eval x=ag (some ⟨b,k,none⟩))(cs:List ax)(d:TypeDesc)
  (hS:w.rangeAt b k cs) (hu:prog.underlying ty=some d) (hd:d.isRow=true) (hi:(prog.info? ty).map (·.size)=some cs.length) (h:K (a.put o.dst (ah cs.toArray)) w):
  if Region.wanted o (aM ops a.tmps)=true then Oper.wp prog o a w K Q else E:=by
 rw[if_pos (by simp[Region.wanted,ad])]
 unfold Oper.wp execOp
 simp only[ho,hx,Instr.loadAt,Instr.sureAddr,Sem.run_bind,Sem.run_pure,Result.andThen_ok,run_loadVar_mid w b k ty cs d hS hu hd hi]
 exact h
theorem Il{w:aq}{X:Nat}{x y p q:ax}(h0:w.cell? ⟨X,0,none⟩=some x)(h1:w.cell? ⟨X,1,none⟩=some y):
  ((w.setCell ⟨X,0,none⟩ p).setCell ⟨X,1,none⟩ q).cell? ⟨X,0,none⟩=some p/\((w.setCell ⟨X,0,none⟩ p).setCell ⟨X,1,none⟩ q).cell? ⟨X,1,none⟩=some q:=
 ⟨(World.cell?_setCell_other _ _ _ _ (by simp)).trans (World.cell?_setCell_same _ _ _ h0),World.cell?_setCell_same _ _ _ ((World.cell?_setCell_other _ _ _ _ (by simp)).trans h1)⟩
theorem o6{ops:Array aA}{o:aA}{a:Act}{w:aq}{K:Act->aq->Prop}{Q:Exit->Act->aq->Prop}{E:Prop}(al:o.guard=none)(ty:aB)(x y:Operand)(ho:o.op=.store ty x y)(ad:o.dst=none)
  (g:Nat) (cells:Array ax) (hx:a.eval x=ag (some ⟨g,0,none⟩)) (hy:a.eval y=ah cells)
  (t:aB) (old:Array ax) (hg:w.heap[g]?=some (ak old t (0,0))) (hi:(prog.info? ty).map (·.size)=some cells.size) (hold:old.size=cells.size) (h1:cells.all (·.oneCell')=true) (h:K a (w.setRow g cells)):
  if Region.wanted o (aM ops a.tmps)=true then Oper.wp prog o a w K Q else E:=by
 rw[if_pos (by simp[Region.wanted,al])]
 unfold Oper.wp execOp
 have:=run_storeVar_row (P:=prog) w g t ty old cells hg hi hold h1
 simp[ho,hx,hy,Instr.storeAt,Instr.sureAddr,this,Result.andThen]
 show K (a.put o.dst undef) (w.setRow g cells)
 rw[show a.put o.dst undef=a by rw[ad];rfl]
 exact h
theorem o7{fn:Func}{t u v x:Tmp}(h:fn.results=#[.tmp t,.tmp u,.tmp v,.tmp x])(tmps:Array ax)(P:az)(w:aq):
  (results fn tmps).run P w=.ok (.tuple #[tmps.getD t undef,tmps.getD u undef,tmps.getD v undef,tmps.getD x undef]) w:=by
 simp[results,h,go_sem]
def lM(T:Nat->Int)(n:Nat):List ax:=(List.range n).map fun i=>ae aj (T i)
def ik(T:Nat->Int)(n:Nat):Array ax:=(lM T n).toArray
theorem iZ(T:Nat->Int)(n:Nat):(ik T n).size=n:=by simp[ik,lM]
theorem ya(T:Nat->Int)(n:Nat):(lM T n).length=n:=by simp[lM]
theorem kQ(T:Nat->Int)(n:Nat):(ik T n).all (·.oneCell')=true:=
 all_oneCell_toArray fun u hu=>by
  unfold lM at hu;obtain⟨i,_,rfl⟩:=List.mem_map.1 hu;rfl
theorem tb(T:Nat->Int)(n i:Nat)(h:i<n):(ik T n)[i]?=some (ae aj (T i)):=by simp[ik,lM,h]
theorem rZ{T T':Nat->Int}{n:Nat}(h:∀i,i<n->T i=T' i):ik T n=ik T' n:=by
 unfold ik lM;congr 1;exact List.map_congr_left fun i hi=>by rw[h i (List.mem_range.1 hi)]
theorem tN(T:Nat->Int)(n i:Nat)(x:Int):(ik T n).setIfInBounds i (ae aj x)=ik (fun k=>if k=i then x else T k) n:=by
 apply Array.ext_getElem?;intro k;rw[Array.getElem?_setIfInBounds,iZ];rcases Nat.lt_or_ge k n with h|h
 ·rw[tb _ _ _ h];by_cases e:i=k
  ·subst e;rw[if_pos rfl,if_pos h,tb _ _ _ h,if_pos rfl]
  ·rw[if_neg e,tb _ _ _ h,if_neg (fun g:k=i=>e g.symm)]
 ·have h1:(ik T n)[k]?=none:=Array.getElem?_eq_none (by rw[iZ];exact h);have h2:(ik (fun k=>if k=i then x else T k) n)[k]?=none:=Array.getElem?_eq_none (by rw[iZ];exact h);rw[h1,h2];by_cases e:i=k
  ·subst e;rw[if_pos rfl,if_neg (by omega)]
  ·rw[if_neg e]
theorem qw{w:aq}{g:Nat}{T:Nat->Int}{n:Nat}{t:aB}(hg:w.heap[g]?=some (ak (ik T n) t (0,0))){i:Nat}(h:i<n):w.cell? ⟨g,i,none⟩=some (ae aj (T i)):=
 (aH w g _ _ _ (0,0) hg).trans (tb T n i h)
theorem pW{w:aq}{g:Nat}{T:Nat->Int}{n:Nat}{t:aB}(hg:w.heap[g]?=some (ak (ik T n) t (0,0))):w.rangeAt g 0 (lM T n):=fun i v hv=>by
 rw[aH w g _ _ _ (0,0) hg,Nat.zero_add];simpa[ik]using hv
theorem lX{B:Nat}{a w:aq}(h:aR B a w){g:Nat}(hp:B<=g)(cs:Array ax):aR B a (w.setRow g cs):=
 ⟨h.os,h.tape,h.output,by rw[size_setRow];exact h.size,fun k hk=>(aL w g k cs (by omega)).trans (h.block k hk)⟩
def iP(w:aq)(z cs:Array ax)(t:aB):aq:=(w.alloc (ak z t)).setRow w.heap.size cs
theorem lq(w:aq)(z cs:Array ax)(t:aB):(iP w z cs t).heap[w.heap.size]?=some (ak cs t (0,0)):=aI _ _ _ _ _ _ (aG w _)
theorem kU(w:aq)(z cs:Array ax)(t:aB):aR w.heap.size w (iP w z cs t):=lX (ix.alloc gY _) gY cs
theorem yb(w:aq)(z cs:Array ax)(t:aB):(iP w z cs t).heap.size=w.heap.size+1:=by unfold iP;rw[size_setRow];simp
theorem BS:(prog.info? 217).map (fun i=>(i.zero,i.size))=some (some (ah (ik (fun _=>0) 29)),29):=by kernel_rfl
theorem o8(T:Nat->Int):(prog.info? 217).map (·.size)=some (ik T 29).size:=by rw[iZ];kernel_rfl
theorem tO(T:Nat->Int):(prog.info? 217).map (·.size)=some (lM T 29).length:=by rw[ya];kernel_rfl
theorem yc{fn:Func}{p q:Tmp}(h:fn.results=#[.cell p 217,.cell q 217])(tmps:Array ax)(w:aq)(g g2:Nat)(T X:Nat->Int)(hp:tmps.getD p undef=ag (some ⟨g,0,none⟩))(hq:tmps.getD q undef=ag (some ⟨g2,0,none⟩))
  (ht:w.heap[g]?=some (ak (ik T 29) 217 (0,0))) (ad:w.heap[g2]?=some (ak (ik X 29) 217 (0,0))):
  (results fn tmps).run prog w=.ok (.tuple #[ah (ik T 29),ah (ik X 29)]) w:=by
 have al:tmps[p]?.getD undef=ag (some ⟨g,0,none⟩):=by simpa using hp
 have av:tmps[q]?.getD undef=ag (some ⟨g2,0,none⟩):=by simpa using hq
 have hl:=run_loadVar_row (P:=prog) w g 217 217 _ (0,0) _ ht underlying217 rfl (o8 T)
 have aS:=run_loadVar_row (P:=prog) w g2 217 217 _ (0,0) _ ad underlying217 rfl (o8 X)
 simp[results,h,al,av,asAddr,hl,aS]
theorem Im:(([3,4,5,6,7,8,9,10,11,13,15,17,19,23,27,31,35,43,51,59,67,83,99,115,131,163,195,227,258]:List Int).map (Value.int aj)).toArray=ik (fun i=>(iW i:Int)) 29:=by kernel_rfl
theorem Io:(([0,0,0,0,0,0,0,0,1,1,1,1,2,2,2,2,3,3,3,3,4,4,4,4,5,5,5,5,0]:List Int).map (Value.int aj)).toArray=ik (fun i=>(lk i:Int)) 29:=by kernel_rfl
theorem Ip(w:aq):aw prog 144 #[] w fun e w'=>e=ao (.tuple #[ah (ik (fun i=>(iW i:Int)) 29),ah (ik (fun i=>(lk i:Int)) 29)])/\aR w.heap.size w w':=by
 have hz:=(zero_of_info BS).1;obtain⟨T,hT⟩:∃T:Nat->Int,T=fun i=>(iW i:Int):=⟨_,rfl⟩
 obtain⟨X,hX⟩:∃X:Nat->Int,X=fun i=>(lk i:Int):=⟨_,rfl⟩
 obtain⟨Z,hZ⟩:∃Z:Nat->Int,Z=fun _=>0:=⟨_,rfl⟩
 rw[<-hT,<-hX];rw[<-hZ]at hz;have f1:=Im;have f2:=Io;rw[<-hT]at f1;rw[<-hX]at f2;obtain⟨b,hb⟩:=gX (w.heap.size);obtain⟨W1,al⟩:=gX ((w.alloc (ak (ik Z 29) 217)).alloc (ak (ik Z 29) 217));obtain⟨W2,av⟩:=gX (iP W1 (ik Z 29) (ik T 29) 217);obtain⟨W3,aS⟩:=gX (iP W2 (ik Z 29) (ik X 29) 217);have s1:W1.heap.size=b+2:=by rw[al,hb];simp
 have s2:W2.heap.size=b+3:=by rw[av,yb,s1]
 have b1:aR w.heap.size w W1:=by rw[al];exact(ix.alloc gY _).alloc (by simp) _
 have b2:aR W1.heap.size W1 W2:=by rw[av];exact kU _ _ _ _
 have b3:aR W2.heap.size W2 W3:=by rw[aS];exact kU _ _ _ _
 have aY:aR w.heap.size w W3:=(b1.trans (b2.mono (by omega))).trans (b3.mono (by omega));have r0:W1.heap[b]?=some (ak (ik Z 29) 217 (0,0)):=by rw[al,hb];exact(Below.heap_alloc _ _ _ (by simp)).trans (aG w _)
 have r1:W1.heap[b+1]?=some (ak (ik Z 29) 217 (0,0)):=by
  have:=aG (w.alloc (ak (ik Z 29) 217)) (ak (ik Z 29) 217);rw[World.size_alloc,<-al,<-hb]at this;exact this
 have r2:W2.heap[b+2]?=some (ak (ik T 29) 217 (0,0)):=by
  have:=lq W1 (ik Z 29) (ik T 29) 217;rw[s1,<-av]at this;exact this
 have r3:W3.heap[b+3]?=some (ak (ik X 29) 217 (0,0)):=by
  have:=lq W2 (ik Z 29) (ik X 29) 217;rw[s2,<-aS]at this;exact this
 have q0:=(b3.block b (by omega)).trans ((b2.block b (by omega)).trans r0);have q1:=(b3.block (b+1) (by omega)).trans ((b2.block (b+1) (by omega)).trans r1);have q2:=(b3.block (b+2) (by omega)).trans r2;have n2:(W1.alloc (ak (ik Z 29) 217)).heap[w.heap.size+1+1]?=some (ak (ik Z 29) 217 (0,0)):=by
  have:=aG W1 (ak (ik Z 29) 217);rw[s1,hb]at this;exact this
 have v2:(W1.alloc (ak (ik Z 29) 217)).setRow (w.heap.size+1+1) (ik T 29)=W2:=by
  rw[av];unfold iP;rw[s1,hb]
 have aZ:=gW n2;have a1:=gW v2
 have F1:=gW f1;have F2:=gW f2;have a2:=gW al;have a5:=gW av;have a3:=gW aS;have HB:=gW hb;have Q0:=gW q0;have Q1:=gW q1;have Q2:=gW q2;have Q3:=gW r3;have a4:=gW aY;have S1:=gW s1;have S2:=gW s2
 clear n2 v2 f1 f2 al av aS hb q0 q1 q2 r0 r1 r2 r3 b1 b2 b3 aY s1 s2 hT hX hZ;go_enter func144,ntmps144
 go_wp2_with (first
  |(refine wpList_buildFlatArrTo rfl 217 3 29 _ rfl aj [3,4,5,6,7,8,9,10,11,13,15,17,19,23,27,31,35,43,51,59,67,83,99,115,131,163,195,227,258] (some 4) rfl underlying217 (by kernel_rfl) (by kernel_rfl) rfl ?_;rw[F1.out])
  |(refine wpList_buildFlatArrTo rfl 217 3 29 _ rfl aj [0,0,0,0,0,0,0,0,1,1,1,1,2,2,2,2,3,3,3,3,4,4,4,4,5,5,5,5,0] (some 5) rfl underlying217 (by kernel_rfl) (by kernel_rfl) rfl ?_;rw[F2.out])
  |(rw[<-a2.out];refine aC rfl _ _ _ rfl rfl (w.heap.size+1+1) (ik T 29) rfl rfl 217 (ik Z 29) aZ.out (o8 _) (by rw[iZ,iZ]) (kQ _ _) ?_;rw[a1.out])
  |(refine aC rfl _ _ _ rfl rfl W2.heap.size (ik X 29) rfl rfl 217 (ik Z 29) (aG W2 _) (o8 _) (by rw[iZ,iZ]) (kQ _ _) ?_;change wpList _ _ _ _ _ (iP W2 (ik Z 29) (ik X 29) 217);rw[<-a3.out]))
 have ad:w.heap.size+1≠w.heap.size:=by omega
 have aT:w.heap.size+1+1≠w.heap.size:=by omega
 have aU:w.heap.size+1+1≠w.heap.size+1:=by omega
 have aV:W2.heap.size≠w.heap.size:=by have:=S2.out;have:=HB.out;omega
 have aW:W2.heap.size≠w.heap.size+1:=by have:=S2.out;have:=HB.out;omega
 have q0:W3.drew.heap[w.heap.size]?=some (ak (ik Z 29) 217 (0,0)):=by rw[<-HB.out];exact Q0.out
 have q1:W3.drew.heap[w.heap.size+1]?=some (ak (ik Z 29) 217 (0,0)):=by rw[<-HB.out];exact Q1.out
 have q2:W3.drew.heap[w.heap.size+1+1]?=some (ak (ik T 29) 217 (0,0)):=by rw[<-HB.out];exact Q2.out
 have q3:W3.drew.heap[W2.heap.size]?=some (ak (ik X 29) 217 (0,0)):=by rw[S2.out];exact Q3.out
 have P0:=gW q0;have P1:=gW q1;have P2:=gW q2;have P3:=gW q3;have N1:=gW ad;have N2:=gW aT;have N3:=gW aU;have N4:=gW aV;have N5:=gW aW
 have aX:aQ (∀V:aq,V=(W3.drew.setRow w.heap.size (ik T 29)).setRow (w.heap.size+1) (ik X 29)->V.heap[w.heap.size]?=some (ak (ik T 29) 217 (0,0))/\V.heap[w.heap.size+1]?=some (ak (ik X 29) 217 (0,0))/\aR w.heap.size w V):=gW fun V hV=>by
  have r0:=aI _ _ _ (ik T 29) _ _ q0;have r1:=(aL W3.drew w.heap.size _ (ik T 29) ad).trans q1;rw[hV];refine⟨(aL _ _ _ _ ad.symm).trans r0,aI _ _ _ _ _ _ r1,?_⟩;exact lX (lX (Below.drew a4.out) gY _) (by omega) _
 clear q0 q1 q2 q3 ad aT aU aV aW;refine wp_region_any (by kernel_rfl) ?_;change wpAny _ _ _ _ _ _ _ (World.drew _);refine wpAny_ready (rs:=[0,1]) (by kernel_rfl) (by simp) ?_;refine AllReady.cons rfl (fun K hK=>?_) (AllReady.cons rfl (fun K hK=>?_) AllReady.nil)
 ·refine pV rfl 217 _ rfl (w.heap.size+1+1) 0 rfl (lM T 29) _ (pW P2.out) underlying217 rfl (tO T) ?_;refine hK _ _ ?_;clear hK K;refine wpAny_ready (rs:=[1,2]) (by kernel_rfl) (by simp) ?_;refine AllReady.cons rfl (fun K hK=>?_) (AllReady.cons rfl (fun K hK=>?_) AllReady.nil)
  ·refine pV rfl 217 _ rfl W2.heap.size 0 rfl (lM X 29) _ (pW P3.out) underlying217 rfl (tO X) ?_;refine hK _ _ ?_;clear hK K;refine wpAny_ready (rs:=[2]) (by kernel_rfl) (by simp) ?_;refine AllReady.cons rfl (fun K hK=>?_) AllReady.nil;refine o6 rfl 217 _ _ rfl rfl w.heap.size (ik T 29) rfl rfl 217 (ik Z 29) P0.out (o8 _) (by rw[iZ,iZ]) (kQ _ _) ?_;refine hK _ _ ?_;clear hK K;refine wpAny_ready (rs:=[3]) (by kernel_rfl) (by simp) ?_;refine AllReady.cons rfl (fun K hK=>?_) AllReady.nil;refine o6 rfl 217 _ _ rfl rfl (w.heap.size+1) (ik X 29) rfl rfl 217 (ik Z 29) ((aL _ _ _ _ N1.out).trans P1.out) (o8 _) (by rw[iZ,iZ]) (kQ _ _) ?_;refine hK _ _ ?_;clear hK K;refine wpAny_done (by kernel_rfl) ?_ _;obtain⟨f1,f2,f3⟩:=aX.out _ rfl;obtain⟨V,hV⟩:=gX ((W3.drew.setRow w.heap.size (ik T 29)).setRow (w.heap.size+1) (ik X 29));rw[<-hV]at f1 f2 f3⊢;have G1:=gW f1;have G2:=gW f2;have G3:=gW f3
   clear f1 f2 f3 hV;simp only[Act.put,List.getElem_toArray,List.getElem_cons_zero,List.getElem_cons_succ,List.setIfInBounds_toArray,List.set_cons_zero,List.set_cons_succ];go_wp2;refine aK (yc rfl _ _ w.heap.size (w.heap.size+1) T X rfl rfl G1.out G2.out) rfl ⟨rfl,G3.out⟩
  ·refine o6 rfl 217 _ _ rfl rfl w.heap.size (ik T 29) rfl rfl 217 (ik Z 29) P0.out (o8 _) (by rw[iZ,iZ]) (kQ _ _) ?_;refine hK _ _ ?_;clear hK K;refine wpAny_ready (rs:=[1]) (by kernel_rfl) (by simp) ?_;refine AllReady.cons rfl (fun K hK=>?_) AllReady.nil;refine pV rfl 217 _ rfl W2.heap.size 0 rfl (lM X 29) _ (pW ((aL _ _ _ _ N4.out).trans P3.out)) underlying217 rfl (tO X) ?_;refine hK _ _ ?_;clear hK K;refine wpAny_ready (rs:=[3]) (by kernel_rfl) (by simp) ?_;refine AllReady.cons rfl (fun K hK=>?_) AllReady.nil;refine o6 rfl 217 _ _ rfl rfl (w.heap.size+1) (ik X 29) rfl rfl 217 (ik Z 29) ((aL _ _ _ _ N1.out).trans P1.out) (o8 _) (by rw[iZ,iZ]) (kQ _ _) ?_;refine hK _ _ ?_;clear hK K;refine wpAny_done (by kernel_rfl) ?_ _;obtain⟨f1,f2,f3⟩:=aX.out _ rfl;obtain⟨V,hV⟩:=gX ((W3.drew.setRow w.heap.size (ik T 29)).setRow (w.heap.size+1) (ik X 29));rw[<-hV]at f1 f2 f3⊢;have G1:=gW f1;have G2:=gW f2;have G3:=gW f3
   clear f1 f2 f3 hV;simp only[Act.put,List.getElem_toArray,List.getElem_cons_zero,List.getElem_cons_succ,List.setIfInBounds_toArray,List.set_cons_zero,List.set_cons_succ];go_wp2;refine aK (yc rfl _ _ w.heap.size (w.heap.size+1) T X rfl rfl G1.out G2.out) rfl ⟨rfl,G3.out⟩
 ·refine pV rfl 217 _ rfl W2.heap.size 0 rfl (lM X 29) _ (pW P3.out) underlying217 rfl (tO X) ?_;refine hK _ _ ?_;clear hK K;refine wpAny_ready (rs:=[0]) (by kernel_rfl) (by simp) ?_;refine AllReady.cons rfl (fun K hK=>?_) AllReady.nil;refine pV rfl 217 _ rfl (w.heap.size+1+1) 0 rfl (lM T 29) _ (pW P2.out) underlying217 rfl (tO T) ?_;refine hK _ _ ?_;clear hK K;refine wpAny_ready (rs:=[2]) (by kernel_rfl) (by simp) ?_;refine AllReady.cons rfl (fun K hK=>?_) AllReady.nil;refine o6 rfl 217 _ _ rfl rfl w.heap.size (ik T 29) rfl rfl 217 (ik Z 29) P0.out (o8 _) (by rw[iZ,iZ]) (kQ _ _) ?_;refine hK _ _ ?_;clear hK K;refine wpAny_ready (rs:=[3]) (by kernel_rfl) (by simp) ?_;refine AllReady.cons rfl (fun K hK=>?_) AllReady.nil;refine o6 rfl 217 _ _ rfl rfl (w.heap.size+1) (ik X 29) rfl rfl 217 (ik Z 29) ((aL _ _ _ _ N1.out).trans P1.out) (o8 _) (by rw[iZ,iZ]) (kQ _ _) ?_;refine hK _ _ ?_;clear hK K;refine wpAny_done (by kernel_rfl) ?_ _;obtain⟨f1,f2,f3⟩:=aX.out _ rfl;obtain⟨V,hV⟩:=gX ((W3.drew.setRow w.heap.size (ik T 29)).setRow (w.heap.size+1) (ik X 29));rw[<-hV]at f1 f2 f3⊢;have G1:=gW f1;have G2:=gW f2;have G3:=gW f3
  clear f1 f2 f3 hV;simp only[Act.put,List.getElem_toArray,List.getElem_cons_zero,List.getElem_cons_succ,List.setIfInBounds_toArray,List.set_cons_zero,List.set_cons_succ];go_wp2;refine aK (yc rfl _ _ w.heap.size (w.heap.size+1) T X rfl rfl G1.out G2.out) rfl ⟨rfl,G3.out⟩
theorem BU:(prog.info? 157).map (fun i=>(i.zero,i.size))=some (some (ah (ik (fun _=>0) 30)),30):=by kernel_rfl
theorem o9(T:Nat->Int):(prog.info? 157).map (·.size)=some (ik T 30).size:=by rw[iZ];kernel_rfl
theorem tP(T:Nat->Int):(prog.info? 157).map (·.size)=some (lM T 30).length:=by rw[ya];kernel_rfl
theorem yd{fn:Func}{p q:Tmp}(h:fn.results=#[.cell p 157,.cell q 157])(tmps:Array ax)(w:aq)(g g2:Nat)(T X:Nat->Int)(hp:tmps.getD p undef=ag (some ⟨g,0,none⟩))(hq:tmps.getD q undef=ag (some ⟨g2,0,none⟩))
  (ht:w.heap[g]?=some (ak (ik T 30) 157 (0,0))) (ad:w.heap[g2]?=some (ak (ik X 30) 157 (0,0))):
  (results fn tmps).run prog w=.ok (.tuple #[ah (ik T 30),ah (ik X 30)]) w:=by
 have al:tmps[p]?.getD undef=ag (some ⟨g,0,none⟩):=by simpa using hp
 have av:tmps[q]?.getD undef=ag (some ⟨g2,0,none⟩):=by simpa using hq
 have hl:=run_loadVar_row (P:=prog) w g 157 157 _ (0,0) _ ht underlying157 rfl (o9 T)
 have aS:=run_loadVar_row (P:=prog) w g2 157 157 _ (0,0) _ ad underlying157 rfl (o9 X)
 simp[results,h,al,av,asAddr,hl,aS]
theorem Iq:(([1,2,3,4,5,7,9,13,17,25,33,49,65,97,129,193,257,385,513,769,1025,1537,2049,3073,4097,6145,8193,12289,16385,24577]:List Int).map (Value.int aj)).toArray=ik (fun i=>(jb i:Int)) 30:=by kernel_rfl
theorem Ir:(([0,0,0,0,1,1,2,2,3,3,4,4,5,5,6,6,7,7,8,8,9,9,10,10,11,11,12,12,13,13]:List Int).map (Value.int aj)).toArray=ik (fun i=>(ly i:Int)) 30:=by kernel_rfl
theorem Is(w:aq):aw prog 145 #[] w fun e w'=>e=ao (.tuple #[ah (ik (fun i=>(jb i:Int)) 30),ah (ik (fun i=>(ly i:Int)) 30)])/\aR w.heap.size w w':=by
 have hz:=(zero_of_info BU).1;obtain⟨T,hT⟩:∃T:Nat->Int,T=fun i=>(jb i:Int):=⟨_,rfl⟩
 obtain⟨X,hX⟩:∃X:Nat->Int,X=fun i=>(ly i:Int):=⟨_,rfl⟩
 obtain⟨Z,hZ⟩:∃Z:Nat->Int,Z=fun _=>0:=⟨_,rfl⟩
 rw[<-hT,<-hX];rw[<-hZ]at hz;have f1:=Iq;have f2:=Ir;rw[<-hT]at f1;rw[<-hX]at f2;obtain⟨b,hb⟩:=gX (w.heap.size);obtain⟨W1,al⟩:=gX ((w.alloc (ak (ik Z 30) 157)).alloc (ak (ik Z 30) 157));obtain⟨W2,av⟩:=gX (iP W1 (ik Z 30) (ik T 30) 157);obtain⟨W3,aS⟩:=gX (iP W2 (ik Z 30) (ik X 30) 157);have s1:W1.heap.size=b+2:=by rw[al,hb];simp
 have s2:W2.heap.size=b+3:=by rw[av,yb,s1]
 have b1:aR w.heap.size w W1:=by rw[al];exact(ix.alloc gY _).alloc (by simp) _
 have b2:aR W1.heap.size W1 W2:=by rw[av];exact kU _ _ _ _
 have b3:aR W2.heap.size W2 W3:=by rw[aS];exact kU _ _ _ _
 have aY:aR w.heap.size w W3:=(b1.trans (b2.mono (by omega))).trans (b3.mono (by omega));have r0:W1.heap[b]?=some (ak (ik Z 30) 157 (0,0)):=by rw[al,hb];exact(Below.heap_alloc _ _ _ (by simp)).trans (aG w _)
 have r1:W1.heap[b+1]?=some (ak (ik Z 30) 157 (0,0)):=by
  have:=aG (w.alloc (ak (ik Z 30) 157)) (ak (ik Z 30) 157);rw[World.size_alloc,<-al,<-hb]at this;exact this
 have r2:W2.heap[b+2]?=some (ak (ik T 30) 157 (0,0)):=by
  have:=lq W1 (ik Z 30) (ik T 30) 157;rw[s1,<-av]at this;exact this
 have r3:W3.heap[b+3]?=some (ak (ik X 30) 157 (0,0)):=by
  have:=lq W2 (ik Z 30) (ik X 30) 157;rw[s2,<-aS]at this;exact this
 have q0:=(b3.block b (by omega)).trans ((b2.block b (by omega)).trans r0);have q1:=(b3.block (b+1) (by omega)).trans ((b2.block (b+1) (by omega)).trans r1);have q2:=(b3.block (b+2) (by omega)).trans r2;have n2:(W1.alloc (ak (ik Z 30) 157)).heap[w.heap.size+1+1]?=some (ak (ik Z 30) 157 (0,0)):=by
  have:=aG W1 (ak (ik Z 30) 157);rw[s1,hb]at this;exact this
 have v2:(W1.alloc (ak (ik Z 30) 157)).setRow (w.heap.size+1+1) (ik T 30)=W2:=by
  rw[av];unfold iP;rw[s1,hb]
 have aZ:=gW n2;have a1:=gW v2
 have F1:=gW f1;have F2:=gW f2;have a2:=gW al;have a5:=gW av;have a3:=gW aS;have HB:=gW hb;have Q0:=gW q0;have Q1:=gW q1;have Q2:=gW q2;have Q3:=gW r3;have a4:=gW aY;have S1:=gW s1;have S2:=gW s2
 clear n2 v2 f1 f2 al av aS hb q0 q1 q2 r0 r1 r2 r3 b1 b2 b3 aY s1 s2 hT hX hZ;go_enter func145,ntmps145
 go_wp2_with (first
  |(refine wpList_buildFlatArrTo rfl 157 3 30 _ rfl aj [1,2,3,4,5,7,9,13,17,25,33,49,65,97,129,193,257,385,513,769,1025,1537,2049,3073,4097,6145,8193,12289,16385,24577] (some 4) rfl underlying157 (by kernel_rfl) (by kernel_rfl) rfl ?_;rw[F1.out])
  |(refine wpList_buildFlatArrTo rfl 157 3 30 _ rfl aj [0,0,0,0,1,1,2,2,3,3,4,4,5,5,6,6,7,7,8,8,9,9,10,10,11,11,12,12,13,13] (some 5) rfl underlying157 (by kernel_rfl) (by kernel_rfl) rfl ?_;rw[F2.out])
  |(rw[<-a2.out];refine aC rfl _ _ _ rfl rfl (w.heap.size+1+1) (ik T 30) rfl rfl 157 (ik Z 30) aZ.out (o9 _) (by rw[iZ,iZ]) (kQ _ _) ?_;rw[a1.out])
  |(refine aC rfl _ _ _ rfl rfl W2.heap.size (ik X 30) rfl rfl 157 (ik Z 30) (aG W2 _) (o9 _) (by rw[iZ,iZ]) (kQ _ _) ?_;change wpList _ _ _ _ _ (iP W2 (ik Z 30) (ik X 30) 157);rw[<-a3.out]))
 have ad:w.heap.size+1≠w.heap.size:=by omega
 have aT:w.heap.size+1+1≠w.heap.size:=by omega
 have aU:w.heap.size+1+1≠w.heap.size+1:=by omega
 have aV:W2.heap.size≠w.heap.size:=by have:=S2.out;have:=HB.out;omega
 have aW:W2.heap.size≠w.heap.size+1:=by have:=S2.out;have:=HB.out;omega
 have q0:W3.drew.heap[w.heap.size]?=some (ak (ik Z 30) 157 (0,0)):=by rw[<-HB.out];exact Q0.out
 have q1:W3.drew.heap[w.heap.size+1]?=some (ak (ik Z 30) 157 (0,0)):=by rw[<-HB.out];exact Q1.out
 have q2:W3.drew.heap[w.heap.size+1+1]?=some (ak (ik T 30) 157 (0,0)):=by rw[<-HB.out];exact Q2.out
 have q3:W3.drew.heap[W2.heap.size]?=some (ak (ik X 30) 157 (0,0)):=by rw[S2.out];exact Q3.out
 have P0:=gW q0;have P1:=gW q1;have P2:=gW q2;have P3:=gW q3;have N1:=gW ad;have N2:=gW aT;have N3:=gW aU;have N4:=gW aV;have N5:=gW aW
 have aX:aQ (∀V:aq,V=(W3.drew.setRow w.heap.size (ik T 30)).setRow (w.heap.size+1) (ik X 30)->V.heap[w.heap.size]?=some (ak (ik T 30) 157 (0,0))/\V.heap[w.heap.size+1]?=some (ak (ik X 30) 157 (0,0))/\aR w.heap.size w V):=gW fun V hV=>by
  have r0:=aI _ _ _ (ik T 30) _ _ q0;have r1:=(aL W3.drew w.heap.size _ (ik T 30) ad).trans q1;rw[hV];refine⟨(aL _ _ _ _ ad.symm).trans r0,aI _ _ _ _ _ _ r1,?_⟩;exact lX (lX (Below.drew a4.out) gY _) (by omega) _
 clear q0 q1 q2 q3 ad aT aU aV aW;refine wp_region_any (by kernel_rfl) ?_;change wpAny _ _ _ _ _ _ _ (World.drew _);refine wpAny_ready (rs:=[0,1]) (by kernel_rfl) (by simp) ?_;refine AllReady.cons rfl (fun K hK=>?_) (AllReady.cons rfl (fun K hK=>?_) AllReady.nil)
 ·refine pV rfl 157 _ rfl (w.heap.size+1+1) 0 rfl (lM T 30) _ (pW P2.out) underlying157 rfl (tP T) ?_;refine hK _ _ ?_;clear hK K;refine wpAny_ready (rs:=[1,2]) (by kernel_rfl) (by simp) ?_;refine AllReady.cons rfl (fun K hK=>?_) (AllReady.cons rfl (fun K hK=>?_) AllReady.nil)
  ·refine pV rfl 157 _ rfl W2.heap.size 0 rfl (lM X 30) _ (pW P3.out) underlying157 rfl (tP X) ?_;refine hK _ _ ?_;clear hK K;refine wpAny_ready (rs:=[2]) (by kernel_rfl) (by simp) ?_;refine AllReady.cons rfl (fun K hK=>?_) AllReady.nil;refine o6 rfl 157 _ _ rfl rfl w.heap.size (ik T 30) rfl rfl 157 (ik Z 30) P0.out (o9 _) (by rw[iZ,iZ]) (kQ _ _) ?_;refine hK _ _ ?_;clear hK K;refine wpAny_ready (rs:=[3]) (by kernel_rfl) (by simp) ?_;refine AllReady.cons rfl (fun K hK=>?_) AllReady.nil;refine o6 rfl 157 _ _ rfl rfl (w.heap.size+1) (ik X 30) rfl rfl 157 (ik Z 30) ((aL _ _ _ _ N1.out).trans P1.out) (o9 _) (by rw[iZ,iZ]) (kQ _ _) ?_;refine hK _ _ ?_;clear hK K;refine wpAny_done (by kernel_rfl) ?_ _;obtain⟨f1,f2,f3⟩:=aX.out _ rfl;obtain⟨V,hV⟩:=gX ((W3.drew.setRow w.heap.size (ik T 30)).setRow (w.heap.size+1) (ik X 30));rw[<-hV]at f1 f2 f3⊢;have G1:=gW f1;have G2:=gW f2;have G3:=gW f3
   clear f1 f2 f3 hV;simp only[Act.put,List.getElem_toArray,List.getElem_cons_zero,List.getElem_cons_succ,List.setIfInBounds_toArray,List.set_cons_zero,List.set_cons_succ];go_wp2;refine aK (yd rfl _ _ w.heap.size (w.heap.size+1) T X rfl rfl G1.out G2.out) rfl ⟨rfl,G3.out⟩
  ·refine o6 rfl 157 _ _ rfl rfl w.heap.size (ik T 30) rfl rfl 157 (ik Z 30) P0.out (o9 _) (by rw[iZ,iZ]) (kQ _ _) ?_;refine hK _ _ ?_;clear hK K;refine wpAny_ready (rs:=[1]) (by kernel_rfl) (by simp) ?_;refine AllReady.cons rfl (fun K hK=>?_) AllReady.nil;refine pV rfl 157 _ rfl W2.heap.size 0 rfl (lM X 30) _ (pW ((aL _ _ _ _ N4.out).trans P3.out)) underlying157 rfl (tP X) ?_;refine hK _ _ ?_;clear hK K;refine wpAny_ready (rs:=[3]) (by kernel_rfl) (by simp) ?_;refine AllReady.cons rfl (fun K hK=>?_) AllReady.nil;refine o6 rfl 157 _ _ rfl rfl (w.heap.size+1) (ik X 30) rfl rfl 157 (ik Z 30) ((aL _ _ _ _ N1.out).trans P1.out) (o9 _) (by rw[iZ,iZ]) (kQ _ _) ?_;refine hK _ _ ?_;clear hK K;refine wpAny_done (by kernel_rfl) ?_ _;obtain⟨f1,f2,f3⟩:=aX.out _ rfl;obtain⟨V,hV⟩:=gX ((W3.drew.setRow w.heap.size (ik T 30)).setRow (w.heap.size+1) (ik X 30));rw[<-hV]at f1 f2 f3⊢;have G1:=gW f1;have G2:=gW f2;have G3:=gW f3
   clear f1 f2 f3 hV;simp only[Act.put,List.getElem_toArray,List.getElem_cons_zero,List.getElem_cons_succ,List.setIfInBounds_toArray,List.set_cons_zero,List.set_cons_succ];go_wp2;refine aK (yd rfl _ _ w.heap.size (w.heap.size+1) T X rfl rfl G1.out G2.out) rfl ⟨rfl,G3.out⟩
 ·refine pV rfl 157 _ rfl W2.heap.size 0 rfl (lM X 30) _ (pW P3.out) underlying157 rfl (tP X) ?_;refine hK _ _ ?_;clear hK K;refine wpAny_ready (rs:=[0]) (by kernel_rfl) (by simp) ?_;refine AllReady.cons rfl (fun K hK=>?_) AllReady.nil;refine pV rfl 157 _ rfl (w.heap.size+1+1) 0 rfl (lM T 30) _ (pW P2.out) underlying157 rfl (tP T) ?_;refine hK _ _ ?_;clear hK K;refine wpAny_ready (rs:=[2]) (by kernel_rfl) (by simp) ?_;refine AllReady.cons rfl (fun K hK=>?_) AllReady.nil;refine o6 rfl 157 _ _ rfl rfl w.heap.size (ik T 30) rfl rfl 157 (ik Z 30) P0.out (o9 _) (by rw[iZ,iZ]) (kQ _ _) ?_;refine hK _ _ ?_;clear hK K;refine wpAny_ready (rs:=[3]) (by kernel_rfl) (by simp) ?_;refine AllReady.cons rfl (fun K hK=>?_) AllReady.nil;refine o6 rfl 157 _ _ rfl rfl (w.heap.size+1) (ik X 30) rfl rfl 157 (ik Z 30) ((aL _ _ _ _ N1.out).trans P1.out) (o9 _) (by rw[iZ,iZ]) (kQ _ _) ?_;refine hK _ _ ?_;clear hK K;refine wpAny_done (by kernel_rfl) ?_ _;obtain⟨f1,f2,f3⟩:=aX.out _ rfl;obtain⟨V,hV⟩:=gX ((W3.drew.setRow w.heap.size (ik T 30)).setRow (w.heap.size+1) (ik X 30));rw[<-hV]at f1 f2 f3⊢;have G1:=gW f1;have G2:=gW f2;have G3:=gW f3
  clear f1 f2 f3 hV;simp only[Act.put,List.getElem_toArray,List.getElem_cons_zero,List.getElem_cons_succ,List.setIfInBounds_toArray,List.set_cons_zero,List.set_cons_succ];go_wp2;refine aK (yd rfl _ _ w.heap.size (w.heap.size+1) T X rfl rfl G1.out G2.out) rfl ⟨rfl,G3.out⟩
theorem mR{p:Prop}[Decidable p](h:¬p):decide p=false:=by simp[h]
theorem mI{p:Prop}[Decidable p](h:p):decide p=true:=by simp[h]
def kB(k:Nat):Nat:=2^k
def sc(w:aq)(z p q:Array ax)(t:aB):aq:=(((w.alloc (ak z t)).alloc (ak z t)).setRow w.heap.size p).setRow (w.heap.size+1) q
theorem BV(w:aq)(z p q:Array ax)(t:aB):((w.alloc (ak z t)).alloc (ak z t)).heap[w.heap.size]?=some (ak z t (0,0))/\(((w.alloc (ak z t)).alloc (ak z t)).setRow w.heap.size p).heap[w.heap.size+1]?=some (ak z t (0,0))/\
  (sc w z p q t).heap[w.heap.size]?=some (ak p t (0,0))/\(sc w z p q t).heap[w.heap.size+1]?=some (ak q t (0,0))/\aR w.heap.size w (sc w z p q t):=by
 have h1:((w.alloc (ak z t)).alloc (ak z t)).heap[w.heap.size]?=some (ak z t (0,0)):=(Below.heap_alloc _ _ _ (by simp)).trans (aG w _)
 have h2:((w.alloc (ak z t)).alloc (ak z t)).heap[w.heap.size+1]?=some (ak z t (0,0)):=by
  have:=aG (w.alloc (ak z t)) (ak z t);rw[World.size_alloc]at this;exact this
 have h3:=(aL ((w.alloc (ak z t)).alloc (ak z t)) w.heap.size (w.heap.size+1) p (by omega)).trans h2
 refine⟨h1,h3,?_,aI _ _ _ _ _ _ h3,?_⟩
 ·exact(aL _ _ _ _ (by omega)).trans (aI _ _ _ _ _ _ h1)
 ·exact lX (lX ((ix.alloc gY _).alloc (by simp) _) gY _) (by omega) _
theorem BW(w:aq)(n:Int):aw prog 116 #[ae aj n] w fun e w'=>e=ao (.tuple #[ae aj (jN n),ae aj (kY n),ae aj (ll n),ae aj (oh n)])/\aR w.heap.size w w':=by
 by_cases y0:n<3
 ·have e1:jN n=0:=if_neg (by omega);have e2:kY n=0:=if_neg (by omega);have e3:ll n=0:=if_neg (by omega);have e4:oh n=2:=if_neg (by omega);rw[e1,e2,e3,e4];have d0:decide (n<3)=true:=mI y0;clear e1 e2 e3 e4;go_enter func116,ntmps116
  go_wp2;refine aK (o7 rfl _ _ _) rfl ?_;exact⟨rfl,Below.refl _ _⟩
 have d0:decide (n<3)=false:=mR y0;by_cases y1:258<n
 ·have e1:jN n=0:=if_neg (by omega);have e2:kY n=0:=if_neg (by omega);have e3:ll n=0:=if_neg (by omega);have e4:oh n=2:=if_neg (by omega);rw[e1,e2,e3,e4];have d1:decide (258<n)=true:=mI y1;clear e1 e2 e3 e4;go_enter func116,ntmps116
  go_wp2;refine aK (o7 rfl _ _ _) rfl ?_;exact⟨rfl,Below.refl _ _⟩
 have d1:decide (258<n)=false:=mR y1;obtain⟨m,rfl⟩:=Int.eq_ofNat_of_zero_le (show 0<=n by omega);have hk:3<=(m:Int)/\(m:Int)<=258:=by omega
 have hz:=(zero_of_info BS).1;obtain⟨I,hI⟩:=gX (atN iW m 29);obtain⟨q1,q2,q3⟩:=sW (T:=iW) (n:=m) (show 3<=m by omega) 29 (by omega);rw[<-hI]at q1 q2;have e1:jN (m:Int)=(((257+I:Nat)):Int):=by unfold jN pT;rw[if_pos hk,Int.toNat_natCast,<-hI]
 have e2:kY (m:Int)=((lk I:Nat):Int):=by unfold kY pT;rw[if_pos hk,Int.toNat_natCast,<-hI]
 have e3:ll (m:Int)=((m-iW I:Nat):Int):=by
  unfold ll pT;rw[if_pos hk,Int.toNat_natCast,<-hI]
 have e4:oh (m:Int)=0:=if_pos hk;obtain⟨tI,aT⟩:=gX (iW I);obtain⟨xI,aU⟩:=gX (lk I);obtain⟨uI,al⟩:=gX (m-iW I);obtain⟨sI,aV⟩:=gX (257+I);rw[<-aV]at e1;rw[<-aU]at e2;rw[<-al]at e3;rw[<-aT]at al q2;rw[e1,e2,e3,e4];have bf:m<=258:=by omega
 have a1:=gW aT;have a2:=gW aU;have a3:=gW al;have a4:=gW aV
 clear aT aU al aV;have HI:=gW hI;have a5:=gW q2;have a6:=gW (Ip w)
 clear q3 e1 e2 e3 e4 hI q2;go_enter func116,ntmps116
 go_wp2_with fail
 refine a6.out.mono ?_;rintro e w1 ⟨rfl,aW⟩;obtain⟨t1,t2,t3,t4,t5⟩:=BV w1 (ik (fun _=>0) 29) (ik (fun i=>(iW i:Int)) 29) (ik (fun i=>(lk i:Int)) 29) 217;obtain⟨V,hV⟩:=gX (sc w1 (ik (fun _=>0) 29) (ik (fun i=>(iW i:Int)) 29) (ik (fun i=>(lk i:Int)) 29) 217);rw[<-hV]at t3 t4 t5;have TA:=gW t1;have TB:=gW t2;have TC:=gW t3;have TD:=gW t4;have a7:=gW (aW.trans (t5.mono aW.size));have HV:=gW hV
 obtain⟨b,hb⟩:=gX (w1.heap.size);have HB:=gW hb;clear t1 t2 t3 t4 t5 aW hV hb;go_wp2_with (first
  |(refine aC rfl _ _ _ rfl rfl w1.heap.size (ik (fun i=>(iW i:Int)) 29) rfl rfl 217 (ik (fun _=>0) 29) TA.out (o8 _) (by rw[iZ,iZ]) (kQ _ _) ?_)
  |(refine aC rfl _ _ _ rfl rfl (w1.heap.size+1) (ik (fun i=>(lk i:Int)) 29) rfl rfl 217 (ik (fun _=>0) 29) TB.out (o8 _) (by rw[iZ,iZ]) (kQ _ _) ?_;change wpList _ _ _ _ _ (sc w1 (ik (fun _=>0) 29) (ik (fun i=>(iW i:Int)) 29) (ik (fun i=>(lk i:Int)) 29) 217);rw[<-HV.out]))
 rw[<-HB.out];have aY:aQ (V.heap[b]?=some (ak (ik (fun i=>(iW i:Int)) 29) 217 (0,0))):=gW (by rw[HB.out];exact TC.out);have a8:aQ (V.heap[b+1]?=some (ak (ik (fun i=>(lk i:Int)) 29) 217 (0,0))):=gW (by rw[HB.out];exact TD.out);clear TC TD TA TB hz;go_loopw [8,9] (fun av iv wr=>∃i a:Nat,i<=29/\a<=29/\iv=ae aj (i:Int)/\av=ae aj (a:Int)/\aQ (a=atN iW m i)/\V=wr) (fun _ iv _=>29-(aP iv).toNat)
 case atStart=>exact⟨0,0,Nat.zero_le _,Nat.zero_le _,rfl,rfl,gW rfl,rfl⟩
 case round=>
  obtain⟨i,a,hi,ha,rfl,rfl,HA,rfl⟩:=hrel;by_cases a9:i<29
  ·have aZ:(i:Int)<29:=by omega
   have c1:V.cell? ⟨b,i,none⟩=some (ae aj ((iW i:Nat):Int)):=qw aY.out a9;have ad:atN iW m (i+1)=if iW i<=m then i else atN iW m i:=rfl
   obtain⟨t,ht⟩:=gX (iW i);rw[<-ht]at c1 ad;clear ht;by_cases aS:t<=m
   ·have dt:decide ((t:Int)<=(m:Int))=true:=mI (by omega);have bd:decide (t<=m)=true:=mI aS;rw[if_pos aS]at ad;have aX:=gW ad;clear ad;go_wp2;go_roundw
    case rel=>exact⟨i+1,i,by omega,by omega,by go_num,rfl,gW aX.out.symm,trivial⟩
    case measure=>simp[aP];omega
   ·have dt:decide ((t:Int)<=(m:Int))=false:=mR (by omega);have bd:decide (t<=m)=false:=mR aS;rw[if_neg aS,<-HA.out]at ad;have aX:=gW ad;clear ad;go_wp2;go_roundw
    case rel=>exact⟨i+1,a,by omega,by omega,by go_num,rfl,gW aX.out.symm,trivial⟩
    case measure=>simp[aP];omega
  ·obtain rfl:i=29:=by omega
   have aZ:¬((29:Nat):Int)<29:=by omega
   obtain rfl:a=I:=HA.out.trans HI.out.symm;have c1:V.drew.cell? ⟨b,a,none⟩=some (ae aj (tI:Int)):=by rw[a1.out];exact qw aY.out q1
   have c2:V.drew.cell? ⟨b+1,a,none⟩=some (ae aj (xI:Int)):=by rw[a2.out];exact qw a8.out q1
   have c3:V.cell? ⟨b,a,none⟩=some (ae aj (tI:Int)):=c1;have c4:V.cell? ⟨b+1,a,none⟩=some (ae aj (xI:Int)):=c2;have w1:IntKind.i64.wrap ((m:Int)-(tI:Int))=(uI:Int):=by rw[IntKind.wrap_i64];have:=a3.out;have:=a5.out;omega
   have w2:IntKind.i64.wrap (257+(a:Int))=(sI:Int):=by rw[IntKind.wrap_i64];have:=a4.out;omega
   have bg:(a:Int)<29:=by omega
   have bj:¬(a:Int)<0:=by omega
   have bk:¬(29:Int)<=(a:Int):=by omega
   go_wp2;go_region;all_goals(
    go_wp2;refine aK (o7 rfl _ _ _) rfl ?_;exact⟨rfl,Below.drew a7.out⟩)
theorem BZ(w:aq)(n:Int):aw prog 117 #[ae aj n] w fun e w'=>e=ao (.tuple #[ae aj (jH n),ae aj (kZ n),ae aj (lC n),ae aj (oo n)])/\aR w.heap.size w w':=by
 by_cases y0:n<1
 ·have e1:jH n=0:=if_neg (by omega);have e2:kZ n=0:=if_neg (by omega);have e3:lC n=0:=if_neg (by omega);have e4:oo n=2:=if_neg (by omega);rw[e1,e2,e3,e4];have d0:decide (n<1)=true:=mI y0;clear e1 e2 e3 e4;go_enter func117,ntmps117
  go_wp2;refine aK (o7 rfl _ _ _) rfl ?_;exact⟨rfl,Below.refl _ _⟩
 have d0:decide (n<1)=false:=mR y0;by_cases y1:32768<n
 ·have e1:jH n=0:=if_neg (by omega);have e2:kZ n=0:=if_neg (by omega);have e3:lC n=0:=if_neg (by omega);have e4:oo n=2:=if_neg (by omega);rw[e1,e2,e3,e4];have d1:decide (32768<n)=true:=mI y1;clear e1 e2 e3 e4;go_enter func117,ntmps117
  go_wp2;refine aK (o7 rfl _ _ _) rfl ?_;exact⟨rfl,Below.refl _ _⟩
 have d1:decide (32768<n)=false:=mR y1;obtain⟨m,rfl⟩:=Int.eq_ofNat_of_zero_le (show 0<=n by omega);have hk:1<=(m:Int)/\(m:Int)<=32768:=by omega
 have hz:=(zero_of_info BU).1;obtain⟨I,hI⟩:=gX (atN jb m 30);obtain⟨q1,q2,q3⟩:=sW (T:=jb) (n:=m) (show 1<=m by omega) 30 (by omega);rw[<-hI]at q1 q2;have e1:jH (m:Int)=(((I:Nat)):Int):=by unfold jH pU;rw[if_pos hk,Int.toNat_natCast,<-hI]
 have e2:kZ (m:Int)=((ly I:Nat):Int):=by unfold kZ pU;rw[if_pos hk,Int.toNat_natCast,<-hI]
 have e3:lC (m:Int)=((m-jb I:Nat):Int):=by
  unfold lC pU;rw[if_pos hk,Int.toNat_natCast,<-hI]
 have e4:oo (m:Int)=0:=if_pos hk;obtain⟨tI,aT⟩:=gX (jb I);obtain⟨xI,aU⟩:=gX (ly I);obtain⟨uI,al⟩:=gX (m-jb I);obtain⟨sI,aV⟩:=gX I;rw[<-aV]at e1;rw[<-aU]at e2;rw[<-al]at e3;rw[<-aT]at al q2;rw[e1,e2,e3,e4];have bf:m<=32768:=by omega
 have a1:=gW aT;have a2:=gW aU;have a3:=gW al;have a4:=gW aV
 clear aT aU al aV;have HI:=gW hI;have a5:=gW q2;have a6:=gW (Is w)
 clear q3 e1 e2 e3 e4 hI q2;go_enter func117,ntmps117
 go_wp2_with fail
 refine a6.out.mono ?_;rintro e w1 ⟨rfl,aW⟩;obtain⟨t1,t2,t3,t4,t5⟩:=BV w1 (ik (fun _=>0) 30) (ik (fun i=>(jb i:Int)) 30) (ik (fun i=>(ly i:Int)) 30) 157;obtain⟨V,hV⟩:=gX (sc w1 (ik (fun _=>0) 30) (ik (fun i=>(jb i:Int)) 30) (ik (fun i=>(ly i:Int)) 30) 157);rw[<-hV]at t3 t4 t5;have TA:=gW t1;have TB:=gW t2;have TC:=gW t3;have TD:=gW t4;have a7:=gW (aW.trans (t5.mono aW.size));have HV:=gW hV
 obtain⟨b,hb⟩:=gX (w1.heap.size);have HB:=gW hb;clear t1 t2 t3 t4 t5 aW hV hb;go_wp2_with (first
  |(refine aC rfl _ _ _ rfl rfl w1.heap.size (ik (fun i=>(jb i:Int)) 30) rfl rfl 157 (ik (fun _=>0) 30) TA.out (o9 _) (by rw[iZ,iZ]) (kQ _ _) ?_)
  |(refine aC rfl _ _ _ rfl rfl (w1.heap.size+1) (ik (fun i=>(ly i:Int)) 30) rfl rfl 157 (ik (fun _=>0) 30) TB.out (o9 _) (by rw[iZ,iZ]) (kQ _ _) ?_;change wpList _ _ _ _ _ (sc w1 (ik (fun _=>0) 30) (ik (fun i=>(jb i:Int)) 30) (ik (fun i=>(ly i:Int)) 30) 157);rw[<-HV.out]))
 rw[<-HB.out];have aY:aQ (V.heap[b]?=some (ak (ik (fun i=>(jb i:Int)) 30) 157 (0,0))):=gW (by rw[HB.out];exact TC.out);have a8:aQ (V.heap[b+1]?=some (ak (ik (fun i=>(ly i:Int)) 30) 157 (0,0))):=gW (by rw[HB.out];exact TD.out);clear TC TD TA TB hz;go_loopw [8,9] (fun av iv wr=>∃i a:Nat,i<=30/\a<=30/\iv=ae aj (i:Int)/\av=ae aj (a:Int)/\aQ (a=atN jb m i)/\V=wr) (fun _ iv _=>30-(aP iv).toNat)
 case atStart=>exact⟨0,0,Nat.zero_le _,Nat.zero_le _,rfl,rfl,gW rfl,rfl⟩
 case round=>
  obtain⟨i,a,hi,ha,rfl,rfl,HA,rfl⟩:=hrel;by_cases a9:i<30
  ·have aZ:(i:Int)<30:=by omega
   have c1:V.cell? ⟨b,i,none⟩=some (ae aj ((jb i:Nat):Int)):=qw aY.out a9;have ad:atN jb m (i+1)=if jb i<=m then i else atN jb m i:=rfl
   obtain⟨t,ht⟩:=gX (jb i);rw[<-ht]at c1 ad;clear ht;by_cases aS:t<=m
   ·have dt:decide ((t:Int)<=(m:Int))=true:=mI (by omega);have bd:decide (t<=m)=true:=mI aS;rw[if_pos aS]at ad;have aX:=gW ad;clear ad;go_wp2;go_roundw
    case rel=>exact⟨i+1,i,by omega,by omega,by go_num,rfl,gW aX.out.symm,trivial⟩
    case measure=>simp[aP];omega
   ·have dt:decide ((t:Int)<=(m:Int))=false:=mR (by omega);have bd:decide (t<=m)=false:=mR aS;rw[if_neg aS,<-HA.out]at ad;have aX:=gW ad;clear ad;go_wp2;go_roundw
    case rel=>exact⟨i+1,a,by omega,by omega,by go_num,rfl,gW aX.out.symm,trivial⟩
    case measure=>simp[aP];omega
  ·obtain rfl:i=30:=by omega
   have aZ:¬((30:Nat):Int)<30:=by omega
   obtain rfl:a=I:=HA.out.trans HI.out.symm;have c1:V.drew.cell? ⟨b,a,none⟩=some (ae aj (tI:Int)):=by rw[a1.out];exact qw aY.out q1
   have c2:V.drew.cell? ⟨b+1,a,none⟩=some (ae aj (xI:Int)):=by rw[a2.out];exact qw a8.out q1
   have c3:V.cell? ⟨b,a,none⟩=some (ae aj (tI:Int)):=c1;have c4:V.cell? ⟨b+1,a,none⟩=some (ae aj (xI:Int)):=c2;have w1:IntKind.i64.wrap ((m:Int)-(tI:Int))=(uI:Int):=by rw[IntKind.wrap_i64];have:=a3.out;have:=a5.out;omega
   obtain rfl:a=sI:=a4.out.symm;have bg:(a:Int)<30:=by omega
   have bj:¬(a:Int)<0:=by omega
   have bk:¬(30:Int)<=(a:Int):=by omega
   go_wp2;go_region;all_goals(
    go_wp2;refine aK (o7 rfl _ _ _) rfl ?_;exact⟨rfl,Below.drew a7.out⟩)
theorem Ca(n:Nat)(h:n<=1000)(z:Int)(hz:z=(n:Int)):∀u:aq,(Instr.makeSlice 22 (ae aj z) (ae aj z)).run prog u=
  .ok (af (some ⟨u.heap.size,0,none⟩) n n) (u.alloc (ak (aJ #[ae .u8 0] n) 5)):=by subst hz;exact uR n h
theorem Cb(w:aq):aw prog 96 #[] w fun e w'=>e=ao (af (some ⟨w.heap.size,0,none⟩) 32 32)/\ju w' w.heap.size 32 lL/\aR w.heap.size w w':=by
 have aT:=Ca 32 (by omega) 32 rfl;have al:=pP w 32;have hb:aR w.heap.size w (w.alloc (ak (aJ #[ae .u8 0] 32) 5)):=ix.alloc gY _;have HR:=gW al;have HB:=gW hb
 clear al hb;go_enter func96,ntmps96
 go_wp2;go_loopw [2] (fun iv wr=>∃(i:Nat) (f:Nat->Nat),i<=32/\iv=ae aj (i:Int)/\aQ (∀j,j<i->f j=lL j)/\aQ (ju wr w.heap.size 32 f)/\aQ (aR w.heap.size w wr)) (fun iv _=>32-(aP iv).toNat)
 case atStart=>exact⟨0,_,Nat.zero_le _,rfl,gW (fun j hj=>absurd hj (by omega)),HR,HB⟩
 case round=>
  obtain⟨i,f,hi,rfl,HF,ad,av⟩:=hrel;by_cases aS:i<32
  ·have r1:=ad.out.cell aS;have r2:=ad.out.frozen i;obtain⟨x,hx⟩:=gX (f i);rw[<-hx]at r1;clear hx;go_wp2;go_roundw
   case rel=>
    refine⟨i+1,iG f i 5,by omega,by go_num,gW fun j hj=>?_,gW (ad.out.set i 5),gW (av.out.setCell gY _)⟩;unfold iG;by_cases e:j=i
    ·rw[if_pos e];rfl
    ·rw[if_neg e];exact HF.out j (by omega)
   case measure=>simp[aP];omega
  ·obtain rfl:i=32:=by omega
   go_wp2;go_ret;exact⟨rfl,ad.out.ext fun j hj=>HF.out j hj,av.out⟩
theorem Cc(w:aq):aw prog 95 #[] w fun e w'=>e=ao (af (some ⟨w.heap.size,0,none⟩) 288 288)/\ju w' w.heap.size 288 kg/\aR w.heap.size w w':=by
 have aU:=Ca 288 (by omega) 288 rfl;have al:=pP w 288;have hb:aR w.heap.size w (w.alloc (ak (aJ #[ae .u8 0] 288) 5)):=ix.alloc gY _;have HR:=gW al;have HB:=gW hb
 clear al hb;go_enter func95,ntmps95
 go_wp2;go_loopw [2] (fun iv wr=>∃(i:Nat) (f:Nat->Nat),i<=288/\iv=ae aj (i:Int)/\aQ (∀j,j<i->f j=kg j)/\aQ (ju wr w.heap.size 288 f)/\aQ (aR w.heap.size w wr)) (fun iv _=>288-(aP iv).toNat)
 case atStart=>exact⟨0,_,Nat.zero_le _,rfl,gW (fun j hj=>absurd hj (by omega)),HR,HB⟩
 case round=>
  obtain⟨i,f,hi,rfl,HF,ad,aS⟩:=hrel;by_cases aT:i<288
  ·have r1:=ad.out.cell aT;have r2:=ad.out.frozen i;obtain⟨x,hx⟩:=gX (f i);rw[<-hx]at r1;clear hx;have s1:=ad.out.set i 8;have r3:=s1.cell aT;have r4:=s1.frozen i;have e8:iG f i 8 i=8:=if_pos rfl;rw[e8]at r3;have S1:=gW s1;have B1:=gW (aS.out.setCell (p:=⟨w.heap.size,i,none⟩) gY (ae .u8 ((8:Nat):Int)));clear s1 e8;by_cases h7:256<=i/\i<=279
   ·have d1:decide ((144:Int)<=(i:Int))=true:=mI (by omega);have d2:decide ((i:Int)<=255)=false:=mR (by omega);have d3:decide ((256:Int)<=(i:Int))=true:=mI (by omega);have d4:decide ((i:Int)<=279)=true:=mI (by omega);have hv:kg i=7:=if_pos h7;have HV:=gW hv;clear hv;go_wp2;go_roundw
    case rel=>
     refine⟨i+1,iG (iG f i 8) i 7,by omega,by go_num,gW fun j hj=>?_,gW (S1.out.set i 7),gW (B1.out.setCell gY _)⟩;unfold iG;by_cases e:j=i
     ·rw[if_pos e,e];exact HV.out.symm
     ·rw[if_neg e,if_neg e];exact HF.out j (by omega)
    case measure=>simp[aP];omega
   ·by_cases h9:144<=i/\i<=255
    ·have d1:decide ((144:Int)<=(i:Int))=true:=mI (by omega);have d2:decide ((i:Int)<=255)=true:=mI (by omega);have d3:decide ((256:Int)<=(i:Int))=false:=mR (by omega);have hv:kg i=9:=by unfold kg;rw[if_neg h7,if_pos h9]
     have HV:=gW hv;clear hv;go_wp2;go_roundw
     case rel=>
      refine⟨i+1,iG (iG f i 8) i 9,by omega,by go_num,gW fun j hj=>?_,gW (S1.out.set i 9),gW (B1.out.setCell gY _)⟩;unfold iG;by_cases e:j=i
      ·rw[if_pos e,e];exact HV.out.symm
      ·rw[if_neg e,if_neg e];exact HF.out j (by omega)
     case measure=>simp[aP];omega
    ·have hv:kg i=8:=by unfold kg;rw[if_neg h7,if_neg h9]
     have HV:=gW hv;clear hv;have hrel:∃(i2:Nat) (f2:Nat->Nat),i2<=288/\Value.int aj ((i:Int)+1)=ae aj (i2:Int)/\aQ (∀j,j<i2->f2 j=kg j)/\aQ (ju (wr.setCell ⟨w.heap.size,i,none⟩ (ae .u8 ((8:Nat):Int))) w.heap.size 288 f2)/\aQ (aR w.heap.size w (wr.setCell ⟨w.heap.size,i,none⟩ (ae .u8 ((8:Nat):Int)))):=by
      refine⟨i+1,iG f i 8,by omega,by go_num,gW fun j hj=>?_,S1,B1⟩;unfold iG;by_cases e:j=i
      ·rw[if_pos e,e];exact HV.out.symm
      ·rw[if_neg e];exact HF.out j (by omega)
     have av:=gW hrel;clear hrel HF ad aS S1 B1 HV;by_cases h4:i<144
     ·have d1:decide ((144:Int)<=(i:Int))=false:=mR (by omega);have d3:decide ((256:Int)<=(i:Int))=false:=mR (by omega);go_wp2;go_roundw
      case rel=>exact av.out
      case measure=>simp[aP];omega
     ·have d1:decide ((144:Int)<=(i:Int))=true:=mI (by omega);have d2:decide ((i:Int)<=255)=false:=mR (by omega);have d3:decide ((256:Int)<=(i:Int))=true:=mI (by omega);have d4:decide ((i:Int)<=279)=false:=mR (by omega);go_wp2;go_roundw
      case rel=>exact av.out
      case measure=>simp[aP];omega
  ·obtain rfl:i=288:=by omega
   go_wp2;go_ret;exact⟨rfl,ad.out.ext fun j hj=>HF.out j hj,aS.out⟩
theorem vq:(prog.info? 193).map (fun i=>(i.zero,i.size))=some (some (ah (ik (fun _=>0) 19)),19):=by kernel_rfl
theorem tQ(T:Nat->Int):(prog.info? 193).map (·.size)=some (ik T 19).size:=by rw[iZ];kernel_rfl
theorem Cd:(([16,17,18,0,8,7,9,6,10,5,11,4,12,3,13,2,14,1,15]:List Int).map (Value.int aj)).toArray=ik (fun i=>(kc i:Int)) 19:=by kernel_rfl
theorem It(w:aq):aw prog 122 #[] w fun e w'=>e=ao (ah (ik (fun i=>(kc i:Int)) 19))/\aR w.heap.size w w':=by
 have hz:=(zero_of_info vq).1;have f1:=Cd;obtain⟨T,hT⟩:∃T:Nat->Int,T=fun i=>(kc i:Int):=⟨_,rfl⟩
 obtain⟨Z,hZ⟩:∃Z:Nat->Int,Z=fun _=>0:=⟨_,rfl⟩
 rw[<-hT]at f1⊢;rw[<-hZ]at hz;have F1:=gW f1;have K0:aQ ((w.alloc (ak (ik Z 19) 193)).heap[w.heap.size]?=some (ak (ik Z 19) 193 (0,0))):=gW (aG w _);clear hT hZ f1;go_enter func122,ntmps122
 go_wp2_with (first
  |(refine wpList_buildFlatArrTo rfl 193 3 19 _ rfl aj [16,17,18,0,8,7,9,6,10,5,11,4,12,3,13,2,14,1,15] (some 1) rfl underlying193 (by kernel_rfl) (by kernel_rfl) rfl ?_;rw[F1.out])
  |(refine aC rfl _ _ _ rfl rfl w.heap.size (ik T 19) rfl rfl 193 (ik Z 19) K0.out (tQ _) (by rw[iZ,iZ]) (kQ _ _) ?_)
  |fail)
 refine aK (v:=ah (ik T 19)) ?_ rfl ⟨rfl,lX (ix.alloc gY _) gY _⟩;exact results_cell_row rfl _ _ w.heap.size _ _ (0,0) _ rfl (aI _ _ _ _ _ _ K0.out) underlying193 rfl (tQ _)
def QB(l:List aA)(n:Nat):Bool:=(List.range n).all fun i=>match l[i]? with
 |some o=>o.guard.isNone&&o.after.all fun e=> !Region.binds .any e||decide (e.on<i)
 |none=>false
def kV(n g:Nat):Array Bool:=(List.replicate n true++List.replicate g false).toArray
def tR(l:List aA)(m n:Nat):Bool:=(List.range n).all fun i=>decide (i<m)||(List.range (n+1)).any fun j=>decide (i<j)&&Region.waitsFor .any l.toArray j i
def sd(l:List aA)(m n:Nat):Bool:=Region.noSelect l.toArray&&Region.noSelect (l.take n).toArray&&Region.lexFrom .any (l.take n).toArray (n-m) m (kV m (n-m))&&decide (n<l.length)&&tR l m n&&Region.chainB .any l.toArray n&&QB l n&&Region.seqB .any l.toArray (l.length-n) n (kV n (l.length-n))
theorem Ce{l:List aA}{m n:Nat}{ig:Array Bool}(hs:tR l m n=true)(hc:Region.chainB .any l.toArray n=true)(hn:n<l.length)(inv:HeadInv .any l.toArray n ig)(hm:∀i,i<m->ig.getD i false=true){i:Nat}(hi:i<n)(hu:ig.getD i true=false):
  ∀t,n<=t->t∉Region.ready .any l.toArray ig:=by
 have a1:ig.size=l.length:=by rw[inv.size];simp
 have key:∀(d i:Nat),d=n-i->i<=n->ig.getD i true=false->n∈Region.ready .any l.toArray ig->i=n:=by
  intro d;induction d using Nat.strongRecOn with
  |_ d ih=>
   intro i hd hi hu hr;rcases Nat.eq_or_lt_of_le hi with e|hi
   ·exact e
   ·exfalso;have aV:¬i<m:=fun h=>by have:=hm i h;rw[getD_both hu]at this;cases this
    have h1:=List.all_eq_true.1 hs i (List.mem_range.2 hi);simp only[Bool.or_eq_true,decide_eq_true_eq]at h1;rcases h1 with h1|h1
    ·exact aV h1
    ·obtain⟨j,hj,aS⟩:=List.any_eq_true.1 h1;simp only[Bool.and_eq_true,decide_eq_true_eq]at aS;obtain⟨oj,aT,e,he,hb,av⟩:=Region.waitsFor_spec aS.2;have aW:j<=n:=by have:=List.mem_range.1 hj;omega
     cases hl:ig.getD j false with
     |true=>
      have h2:=inv.closed j oj aT hl e he hb;rw[av,getD_both hu]at h2;cases h2
     |false=>
      have aX:=ih (n-j) (by omega) j rfl aW (getD_in (by omega) hl) hr;subst aX;obtain⟨_,ot,ad,al⟩:=mem_ready.1 hr;rw[aT]at ad;cases ad;have h2:=al e he hb;rw[av,getD_both hu]at h2;cases h2
 intro t ht hr
 by_cases aY:t=n
 ·subst aY;have:=key (t-i) i rfl (by omega) hu hr;omega
 ·obtain⟨_,ot,ad,al⟩:=mem_ready.1 hr;have aZ:t<l.length:=by have:=(Array.getElem?_eq_some_iff.1 ad).1;simpa using this
  have h1:=List.all_eq_true.1 hc t (List.mem_range.2 (by simpa using aZ));simp only[Bool.or_eq_true,decide_eq_true_eq]at h1;rcases h1 with h1|h1
  ·omega
  ·obtain⟨o',aU,e,he,hb,av⟩:=Region.waitsFor_spec h1;rw[ad]at aU;cases aU;have h2:=al e he hb;rw[av,getD_both (inv.tail (t-1) (by omega) (by simp;omega))]at h2;cases h2
theorem ye{l:List aA}{n i:Nat}(h:QB l n=true)(hi:i<n):∃o,l[i]?=some o/\o.guard=none/\∀e∈o.after,Region.binds .any e=true->e.on<i:=by
 have h1:=List.all_eq_true.1 h i (List.mem_range.2 hi);split at h1
 ·rename_i o ho;simp only[Bool.and_eq_true]at h1;refine⟨o,ho,by simpa using h1.1,fun e he hb=>?_⟩;have h2:=Array.all_eq_true_iff_forall_mem.1 h1.2 e he;simp only[hb,Bool.not_true,Bool.false_or,decide_eq_true_eq]at h2;exact h2
 ·cases h1
theorem Cf{o:aA}(h:o.guard=none)(y:Nat->Option Bool):Region.wanted o y=true:=by simp[Region.wanted,h]
theorem vt{n g:Nat}{ig:Array Bool}(ad:ig.size=n+g)(h1:∀i,i<n->ig.getD i true=true)(h2:∀t,n<=t->t<n+g->ig.getD t true=false):ig=kV n g:=by
 apply Array.ext_getElem?;intro i;unfold kV;rcases Nat.lt_or_ge i n with h|h
 ·have:=h1 i h;have hs:i<ig.size:=by omega
  have e:ig[i]?=some true:=by
   rw[Array.getElem?_eq_getElem hs];simp[hs]at this;rw[this]
  rw[e,List.getElem?_toArray,List.getElem?_append_left (by simpa using h),List.getElem?_replicate,if_pos h]
 ·rcases Nat.lt_or_ge i (n+g)with h'|h'
  ·have:=h2 i h h';have hs:i<ig.size:=by omega
   have e:ig[i]?=some false:=by
    rw[Array.getElem?_eq_getElem hs];simp[hs]at this;rw[this]
   rw[e,List.getElem?_toArray,List.getElem?_append_right (by simpa using h),List.length_replicate,List.getElem?_replicate,if_pos (by omega)]
  ·rw[Array.getElem?_eq_none (by omega),List.getElem?_toArray,List.getElem?_eq_none (by simp;omega)]
theorem Cg{P:az}{C:aq->Prop}{Q:Exit->Act->aq->Prop}{l:List aA}{m n:Nat}(hn:n<l.length)(hs:tR l m n=true)(hc:Region.chainB .any l.toArray n=true)(aT:QB l n=true)
  (a1:Region.seqB .any l.toArray (l.length-n) n (kV n (l.length-n))=true):
  ∀(f:Nat) (s:List Nat) (ig lh:Array Bool) (a:Act) (w:aq),s.length=f->s.Nodup->(∀i,i∈s↔i<n/\ig.getD i true=false)->HeadInv .any l.toArray n ig->(∀i,i<m->ig.getD i false=true)->(∀i,i<n->lh.getD i true=ig.getD i true/\lh.getD i false=ig.getD i false)->C w->
   wpAnyQ P .any (l.take n).toArray C (fun a'=>∀w',C w'->wpList P l.toArray Q (l.drop n) a' w') f lh a->wpAny P .any l.toArray Q (f+(l.length-n)) ig a w
 |0,s,ig,lh,a,w,hf,_,av,inv,_,_,hw,h=>by
  have bf:s=[]:=List.length_eq_zero_iff.1 hf;subst bf;have h1:∀i,i<n->ig.getD i true=true:=fun i hi=>by
   cases e:ig.getD i true with
   |true=>rfl
   |false=>exact absurd ((av i).2 ⟨hi,e⟩) (by simp)
  have aS:=inv.size;have he:=vt (n:=n) (g:=l.length-n) (ig:=ig) (by rw[aS];simp;omega) h1 (fun t ht bn=>inv.tail t ht (by simp;omega));subst he;have h3:=wpAny_of_seq (P:=P) (md:=.any) (Q':=Q) (l.drop n) n (kV n (l.length-n)) a w (fun j=>by simp[List.getElem?_drop]) (by rw[List.length_drop];exact a1) (h.2 w hw);rw[List.length_drop]at h3;rw[Nat.zero_add];exact h3
 |f+1,s,ig,lh,a,w,hf,a5,av,inv,a6,aU,hw,h=>by
  rw[show f+1+(l.length-n)=(f+(l.length-n))+1 by omega];obtain⟨x,hx⟩:∃x,x∈s:=List.exists_mem_of_length_pos (by omega);obtain⟨a7,a8⟩:=(av x).1 hx;have aW:∀i,i∈Region.ready .any l.toArray ig->i<n:=fun i hi=>by
   rcases Nat.lt_or_ge i n with g|g
   ·exact g
   ·exact absurd hi (Ce hs hc hn inv a6 a7 a8 i g)
  have a2:∀i,i<n->(i∈Region.ready .any l.toArray ig↔i∈Region.ready .any (l.take n).toArray lh):=fun i hi=>by
   obtain⟨o,ho,hg,aX⟩:=ye aT hi;rw[mem_ready,mem_ready];have e1:l.toArray[i]?=some o:=by simpa using ho
   have e2:(l.take n).toArray[i]?=some o:=by simp[hi,ho]
   rw[e1,e2,(aU i hi).1];constructor
   ·rintro⟨h0,o',a3,ad⟩;cases a3
    exact⟨h0,o,rfl,fun e he hb=>by rw[(aU e.on (by have:=aX e he hb;omega)).2];exact ad e he hb⟩
   ·rintro⟨h0,o',a3,ad⟩;cases a3
    exact⟨h0,o,rfl,fun e he hb=>by have:=ad e he hb;rwa[(aU e.on (by have:=aX e he hb;omega)).2]at this⟩
  refine⟨fun h0=>?_,fun i hi=>?_⟩
  ·exfalso;have aY:∀(d y:Nat),y=d->y<n->ig.getD y true=false->∃z,z∈Region.ready .any l.toArray ig:=by
    intro d;induction d using Nat.strongRecOn with
    |_ d ih=>
     intro y hy bg bj;obtain⟨o,ho,_,aX⟩:=ye aT bg;by_cases ad:∀e∈o.after,Region.binds .any e=true->ig.getD e.on false=true
     ·exact⟨y,mem_ready.2 ⟨bj,o,by simpa using ho,ad⟩⟩
     ·have hex:∃e,e∈o.after/\Region.binds .any e=true/\ig.getD e.on false≠true:=by
       apply Classical.byContradiction;intro bk;exact ad fun e he hb=>Classical.byContradiction fun a4=>bk ⟨e,he,hb,a4⟩
      obtain⟨e,he,hb,a4⟩:=hex;have aZ:=aX e he hb;have aS:=inv.size;refine ih e.on (by omega) e.on rfl (by omega) (getD_in (by rw[aS];simp;omega) (by simpa using a4))
   obtain⟨z,hz⟩:=aY x x rfl a7 a8;rw[h0]at hz;cases hz
  ·have aV:=aW i hi;have h1:=h.2 i ((a2 i aV).1 hi);obtain⟨o,ho,hg,_⟩:=ye aT aV;have e1:l.toArray[i]?=some o:=by simpa using ho
   have e2:(l.take n).toArray[i]?=some o:=by simp[aV,ho]
   have a9:=(mem_ready.1 hi).1;have bl:i∈s:=(av i).2 ⟨aV,a9⟩;unfold wpOp;simp only[e1];rw[if_pos (Cf hg _)];unfold qOp at h1;simp only[e2]at h1;rw[if_pos (Cf hg _)]at h1;refine .inl (Oper.wp_of_quiet hw (fun a' w' bm hk=>?_) h1);refine Cg hn hs hc aT a1 f (s.erase i) (ig.setIfInBounds i true) (lh.setIfInBounds i true) a' w' (by rw[List.length_erase_of_mem bl];omega) (a5.erase i) (fun j=>?_) (inv.set hi aV) (fun j hj=>getD_set_true (a6 j hj)) (fun j hj=>?_) bm hk
   ·rw[a5.mem_erase_iff];by_cases al:j=i
    ·subst al;have aS:=inv.size;have aZ:j<ig.size:=by rw[aS];simp;omega
     constructor
     ·intro hh;exact absurd rfl hh.1
     ·rintro⟨_,hh⟩;simp[aZ]at hh
    ·rw[getD_set_ne true (Ne.symm al),av j];constructor
     ·intro hh;exact hh.2
     ·intro hh;exact⟨al,hh⟩
   ·by_cases al:j=i
    ·subst al;have aS:=inv.size;have aZ:j<ig.size:=by rw[aS];simp;omega
     have bd:j<lh.size:=by
      rcases Nat.lt_or_ge j lh.size with g|g
      ·exact g
      ·have:=(aU j hj).1;rw[a9]at this;simp[Array.getElem?_eq_none g]at this
     simp[aZ,bd]
    ·rw[getD_set_ne true (Ne.symm al),getD_set_ne true (Ne.symm al),getD_set_ne false (Ne.symm al),getD_set_ne false (Ne.symm al)];exact aU j hj
theorem tc(n g i:Nat)(d:Bool):(kV n g).getD i d=if i<n then true else if i<n+g then false else d:=by
 unfold kV;rcases Nat.lt_or_ge i n with h|h
 ·rw[if_pos h];have e:(List.replicate n true++List.replicate g false).toArray[i]?=some true:=by
   rw[List.getElem?_toArray,List.getElem?_append_left (by simpa using h),List.getElem?_replicate,if_pos h]
  rw[Array.getD_eq_getD_getElem?,e];rfl
 ·rw[if_neg (by omega)];rcases Nat.lt_or_ge i (n+g)with h'|h'
  ·rw[if_pos h'];have e:(List.replicate n true++List.replicate g false).toArray[i]?=some false:=by
    rw[List.getElem?_toArray,List.getElem?_append_right (by simpa using h),List.length_replicate,List.getElem?_replicate,if_pos (by omega)]
   rw[Array.getD_eq_getD_getElem?,e];rfl
  ·rw[if_neg (by omega)];have e:(List.replicate n true++List.replicate g false).toArray[i]?=none:=by
    rw[List.getElem?_toArray,List.getElem?_eq_none (by simp;omega)]
   rw[Array.getD_eq_getD_getElem?,e];rfl
theorem Ci{P:az}{C:aq->Prop}{Q:Exit->Act->aq->Prop}{l:List aA}{m n:Nat}(hB:sd l m n=true)(aY:m<=n)(ad:∀j oj,l[j]?=some oj->j<m->∀e∈oj.after,Region.binds .any e=true->e.on<m){a:Act}{w:aq}(hC:C w)
  (h:wpQuiet P (l.take n).toArray C (fun a'=>∀w',C w'->wpList P l.toArray Q (l.drop n) a' w') ((l.take n).drop m) a):wpAny P .any l.toArray Q (l.length-m) (kV m (l.length-m)) a w:=by
 simp only[sd,Bool.and_eq_true,decide_eq_true_eq]at hB
 obtain⟨⟨⟨⟨⟨⟨⟨_,al⟩,av⟩,hn⟩,hs⟩,hc⟩,aS⟩,aT⟩:=hB
 have aU:((l.take n).drop m).length=n-m:=by simp;omega
 have hq:=wpAnyQ_lex (C:=C) (md:=.any) al ((l.take n).drop m) m (kV m (n-m)) a (by simp) (by rw[aU];exact av) h
 rw[aU]at hq
 have hinv:HeadInv .any l.toArray n (kV m (l.length-m)):=by
  refine⟨by simp[kV];omega,fun j oj hj hl e he hb=>?_,fun t ht aV=>?_⟩
  ·rw[tc]at hl;have aW:j<m:=by
    rcases Nat.lt_or_ge j m with g|g
    ·exact g
    ·rw[if_neg (by omega)]at hl;split at hl<;>cases hl
   rw[tc,if_pos (ad j oj (by simpa using hj) aW e he hb)]
  ·rw[tc,if_neg (by omega),if_pos (by simp at aV;omega)]
 have:=Cg (Q:=Q) (m:=m) hn hs hc aS aT (n-m) ((List.range n).drop m) (kV m (l.length-m)) (kV m (n-m)) a w (by simp) (List.nodup_range.sublist (List.drop_sublist _ _)) (fun i=>by
   rw[tc];constructor
   ·intro hi;obtain⟨k,hk,aX⟩:=List.mem_iff_getElem.1 hi;simp at hk aX;rw[if_neg (by omega),if_pos (by omega)];exact⟨by omega,rfl⟩
   ·rintro⟨hi,hu⟩;have aZ:m<=i:=by
     rcases Nat.lt_or_ge i m with g|g
     ·rw[if_pos g]at hu;cases hu
     ·exact g
    exact List.mem_iff_getElem.2 ⟨i-m,by simp;omega,by simp;omega⟩) hinv (fun i hi=>by rw[tc,if_pos hi]) (fun i hi=>by
   simp only[tc];constructor
   ·by_cases g:i<m
    ·rw[if_pos g,if_pos g]
    ·rw[if_neg g,if_neg g,if_pos (by omega),if_pos (by omega)]
   ·by_cases g:i<m
    ·rw[if_pos g,if_pos g]
    ·rw[if_neg g,if_neg g,if_pos (by omega),if_pos (by omega)]) hC hq
 rw[show n-m+(l.length-n)=l.length-m by omega]at this
 exact this
theorem vu{P:az}{C:aq->Prop}{K:Act->Prop}{a:Act}{o:aA}(t:aB)(parts:Array (Nat×Operand))(ho:o.op=.build t parts)(d:Option Tmp)(hd:o.dst=d)(cells:Array ax)
  (hf:P.built t (parts.map fun(i,x)=>(i,a.eval x)).toList=some cells) (hk:K (a.put d (ah cells))):o.quiet P a C K:=by
 subst hd
 exact⟨_,fun w hw=>by
  unfold Oper.quietAt execOp;simp only[ho,Sem.run_bind,run_build w t _ cells hf,Result.andThen_ok];exact⟨rfl,rfl⟩,hk⟩
theorem Iu{P:az}{id:Nat}{Q:Exit->Act->aq->Prop}{a:Act}{w:aq}{l:List aA}(n:Nat)(C:aq->Prop)(hm:P.follows .mixedOrders=true)(hB:sd l 0 n=true)(hC:C w.drew)
  (h:wpQuiet P (l.take n).toArray C (fun a'=>∀w',C w'->wpList P l.toArray Q (l.drop n) a' w') (l.take n) a):(Code.region id l.toArray true).wp P Q a w:=by
 refine wp_region_any hm ?_
 have h1:=Ci (Q:=Q) hB (Nat.zero_le _) (fun j oj _ hj=>absurd hj (by omega)) hC h
 have e:(Array.replicate l.toArray.size false)=kV 0 (l.length-0):=by simp[kV]
 rw[e]
 exact h1
theorem Iv{P:az}{id:Nat}{Q:Exit->Act->aq->Prop}{a:Act}{w:aq}{o:aA}{l:List aA}(n:Nat)(C:aq->Prop)(hm:P.follows .mixedOrders=true)(hB:sd (o::l) 1 (n+1)=true)(hC:C w.drew)
  (x:Operand) (ho:o.op=.move x) (hg:o.guard=none) (ha:o.after=#[]) (hf:Region.free .any (o::l).toArray (Array.replicate (l.length+1) false) 0=true) (hQ:∀c a' w',Q (.panic c) (a'.put o.dst (a.eval x)) w'->Q (.panic c) a' w')
  (h:wpQuiet P ((o::l).take (n+1)).toArray C (fun a'=>∀w',C w'->wpList P (o::l).toArray Q (l.drop n) a' w') (l.take n) (a.put o.dst (a.eval x))):(Code.region id (o::l).toArray true).wp P Q a w:=by
 refine wp_region_any hm ?_
 have ad:=hB
 simp only[sd,Bool.and_eq_true,decide_eq_true_eq]at ad
 obtain⟨⟨⟨⟨⟨⟨⟨al,_⟩,_⟩,_⟩,_⟩,_⟩,_⟩,_⟩:=ad
 have h1:=Ci (Q:=Q) (a:=a.put o.dst (a.eval x)) (w:=w.drew) hB (by omega) (fun j oj hj av e he hb=>by
  obtain rfl:j=0:=by omega
  have:oj=o:=by simpa using hj.symm
  rw[this,ha]at he;simp at he) hC (by simpa using h)
 have e1:(o::l).toArray.size=l.length+1:=by simp
 rw[e1]
 refine wpAny_take (i:=0) (oi:=o) (v:=a.eval x) (by simp) al hf ?_ hQ (.inl ⟨by simp[Region.wanted,hg],fun w'=>by simp[execOp,ho]⟩) ?_
 ·have:0∈Region.ready .any (o::l).toArray (Array.replicate (l.length+1) false):=mem_ready.2 ⟨by simp,o,by simp,fun e he=>by rw[ha]at he;simp at he⟩;simpa using this
 ·have e2:(Array.replicate (l.length+1) false).setIfInBounds 0 true=kV 1 ((o::l).length-1):=by
   apply Array.ext_getElem?;intro i;unfold kV;rcases i with _|i
   ·simp
   ·simp[Array.getElem?_replicate,List.getElem?_replicate]
  rw[e2];exact h1
theorem Cj{P:az}{id:Nat}{Q:Exit->Act->aq->Prop}{a:Act}{w:aq}{l:List aA}(n m:Nat)(U:aq)(hU:aR m U w)(hm:P.follows .mixedOrders=true)(hB:sd l 0 n=true)
  (h:wpQuiet P (l.take n).toArray (fun V=>∃p:kN m U,V=p.w) (fun a'=>∀V,(∃p:kN m U,V=p.w)->wpList P l.toArray Q (l.drop n) a' V) (l.take n) a):(Code.region id l.toArray true).wp P Q a w:=
 Iu n _ hm hB ⟨⟨_,hU.drew⟩,rfl⟩ h
theorem vv{P:az}{id:Nat}{Q:Exit->Act->aq->Prop}{a:Act}{w:aq}{o:aA}{l:List aA}(n m:Nat)(U:aq)(hU:aR m U w)(hm:P.follows .mixedOrders=true)(hB:sd (o::l) 1 (n+1)=true)
  (x:Operand) (v:ax) (hv:a.eval x=v) (d:Option Tmp) (hd:o.dst=d) (ho:o.op=.move x) (hg:o.guard=none) (ha:o.after=#[]) (hf:Region.free .any (o::l).toArray (Array.replicate (l.length+1) false) 0=true) (hQ:∀c a' w',Q (.panic c) (a'.put d v) w'->Q (.panic c) a' w')
  (h:wpQuiet P ((o::l).take (n+1)).toArray (fun V=>∃p:kN m U,V=p.w) (fun a'=>∀V,(∃p:kN m U,V=p.w)->wpList P (o::l).toArray Q (l.drop n) a' V) (l.take n) (a.put d v)):(Code.region id (o::l).toArray true).wp P Q a w:=by
 subst hv;subst hd
 exact Iv n _ hm hB ⟨⟨_,hU.drew⟩,rfl⟩ x ho hg ha hf hQ h
theorem kR(a b:Int):prog.built 150 [(0,ae .u32 a),(1,ae aj b)]=some #[ae .u32 a,ae aj b]:=by kernel_rfl
theorem tS(w:aq)(x n:Nat)(hx:x<4294967296)(hn:n<=32):
  aw prog 115 #[ah #[ae .u32 (x:Int),ae .u8 (n:Int)]] w fun e w'=>e=ao (ah #[ae .u32 ((Qg x n:Nat):Int),ae aj (n:Int)])/\aR w.heap.size w w':=by
 obtain⟨U,hU⟩:=gX ((w.alloc (ak #[ae .u32 (x:Int),ae .u8 (n:Int)] 176)).alloc (ak #[ae .u32 0,ae aj 0] 150))
 have h0:U.heap[w.heap.size]?=some (ak #[ae .u32 (x:Int),ae .u8 (n:Int)] 176 (0,0)):=by rw[hU];exact heap_alloc2_old w _ _
 have h1:U.heap[w.heap.size+1]?=some (ak #[ae .u32 0,ae aj 0] 150 (0,0)):=by rw[hU];exact heap_alloc2_new w _ _
 have hb:aR w.heap.size w U:=by rw[hU];exact((Below.refl w.heap.size w).alloc gY _).alloc (by simp) _
 have ad:w.heap.size<U.heap.size:=(Array.getElem?_eq_some_iff.1 h0).1
 have av:w.heap.size+1<U.heap.size:=(Array.getElem?_eq_some_iff.1 h1).1
 have c0:∀p:kN U.heap.size U,p.w.cell? ⟨w.heap.size,0,none⟩=some (ae .u32 (x:Int)):=fun p=>by
  rw[p.h.cell (p:=⟨w.heap.size,0,none⟩) ad,aH U _ 0 _ _ (0,0) h0];rfl
 have c1:∀p:kN U.heap.size U,p.w.cell? ⟨w.heap.size,1,none⟩=some (ae .u8 (n:Int)):=fun p=>by
  rw[p.h.cell (p:=⟨w.heap.size,1,none⟩) ad,aH U _ 1 _ _ (0,0) h0];rfl
 obtain⟨y,hy⟩:=gX (Qg x n)
 have T1:∀V,aR U.heap.size U V->aw prog 143 #[ae .u32 (x:Int),ae aj (n:Int)] V fun e V'=>e=ao (ae .u32 (y:Int))/\aR U.heap.size U V':=fun V hV=>by
  rw[hy];exact(Hv x n V hx hn).mono fun e V' ⟨a,b⟩=>⟨a,b▸hV⟩
 rw[<-hy]
 have al:=kR (y:Int) (n:Int)
 obtain⟨X,hX⟩:∃X:Array ax,X=#[ae .u32 (y:Int),ae aj (n:Int)]:=⟨_,rfl⟩
 obtain⟨x1,x2⟩:X.size=2/\X.all (·.oneCell')=true:=by rw[hX];exact⟨rfl,by simp[Value.oneCell']⟩
 have x3:(prog.info? 150).map (·.size)=some X.size:=by rw[x1];exact Ij
 rw[<-hX]at al⊢
 have X1:=gW x1;have X2:=gW x2;have X3:=gW x3;have aS:=gW al
 clear hX x1 x2 x3 al
 have HB:=gW hb;have H1:=gW h1;have HU:=gW hU;have TT:=gW T1;have aT:=gW av
 clear hb h0 h1 hU ad av hy T1 hx
 go_enter func115,ntmps115
 go_wp2_with fail
 rw[<-HU.out]
 refine Cj 9 U.heap.size U ix (by kernel_rfl) (by kernel_rfl) ?_
 simp only[List.take_succ_cons,List.take_zero,List.drop_succ_cons,List.drop_zero]
 repeat (go_big_quiet_step (with_reducible exact nH TT.out _))
 refine wpQuiet_nil ?_
 rintro V ⟨⟨V,hV⟩,rfl⟩
 have h2:=(hV.block _ aT.out).trans H1.out
 have HV:=gW (HB.out.trans (hV.mono HB.out.size));have H2:=gW h2
 clear hV h2 c0 c1
 go_wp2_with (first
  |(refine wpList_buildTo rfl 150 #[(0,.tmp 8),(1,.tmp 11)] rfl (some 12) rfl X ?_ ?_;focus(simpa[Act.eval]using aS.out))
  |(refine aC rfl _ _ _ rfl rfl (w.heap.size+1) X rfl rfl 150 #[ae .u32 0,ae aj 0] H2.out X3.out (by rw[X1.out];rfl) X2.out ?_)
  |fail)
 refine aK (v:=ah X) ?_ rfl ⟨rfl,lX HV.out (by omega) _⟩
 exact results_cell_row rfl _ _ (w.heap.size+1) _ _ (0,0) _ rfl (aI _ _ _ _ _ _ H2.out) underlying150 rfl X3.out
def jl:iu:=⟨0,0,0⟩
def jK(t:iu):List ax:=[ae .u8 (t.x:Int),ae aj t.d,ae aj t.n]
def Ql:List iu->List ax
 |[]=>[]
 |t::l=>jK t++Ql l
theorem Ck:∀l,(Ql l).length=l.length*3
 |[]=>rfl
 |t::l=>by simp only[Ql,List.length_append,List.length_cons,Ck l];simp[jK];omega
theorem yf:∀l m,Ql (l++m)=Ql l++Ql m
 |[],_=>rfl
 |t::l,m=>by simp[Ql,yf l m]
theorem vw:∀(l:List iu) (j i:Nat),j<l.length->i<3->(Ql l)[j*3+i]?=(jK (l.getD j jl))[i]?
 |[],j,i,h,_=>absurd h (by simp)
 |t::l,0,i,_,hi=>by
  simp only[Ql,Nat.zero_mul,Nat.zero_add];rw[List.getElem?_append_left (by simpa[jK]using hi)];rfl
 |t::l,j+1,i,h,hi=>by
  simp only[Ql];rw[List.getElem?_append_right (by simp[jK];omega)];have e:(j+1)*3+i-(jK t).length=j*3+i:=by simp[jK];omega
  rw[e,vw l j i (by simpa using h) hi];rfl
theorem Cl:(prog.info? 128).map (fun i=>(i.zero,i.size,i.bytes))=some (some (ah #[ae .u8 0,ae aj 0,ae aj 0]),3,24):=by kernel_rfl
theorem tf:(prog.info? 128).map (·.size)=some 3:=by kernel_rfl
def km(w:aq)(B:Nat)(A:Option au)(l:List iu):Prop:=iQ w B 3 A l.length (Ql l)
theorem km.below{w w':aq}{B B':Nat}{A:Option au}{l:List iu}(h:km w B A l)(hb:aR B' w w')(hB:B<=B'):km w' B A l:=iQ.below h hb hB
theorem km.more{w:aq}{B B':Nat}{A:Option au}{l:List iu}(h:km w B A l)(hB:B<=B'):km w B' A l:=iQ.more h hB
theorem km.nil(w:aq)(B:Nat)(A:Option au):km w B A []:=iQ.none_ w B 3 A
theorem km.iI{w:aq}{base c n:Nat}{A:Option au}{l:List iu}(h:w.ownsRow base 128 3 (af A n c) n (Ql l)):n=l.length/\km w w.heap.size A l:=by
 have h1:=iQ.iI h;have h2:=h1.1;rw[Ck]at h2;obtain rfl:n=l.length:=by omega
 exact⟨rfl,h1⟩
theorem km.at{w:aq}{B:Nat}{A:Option au}{l:List iu}(h:km w B A l){k:Nat}(hk:k<l.length):∃b o,A=some ⟨b,o,none⟩/\b<B/\∀j,j<l.length->
  w.cell? ⟨b,o+j*3,none⟩=some (ae .u8 ((l.getD j jl).x:Int))/\w.cell? ⟨b,o+j*3+1,none⟩=some (ae aj (l.getD j jl).d)/\w.cell? ⟨b,o+j*3+2,none⟩=some (ae aj (l.getD j jl).n):=by
 obtain⟨b,o,h1,h2,h3⟩:=h.2 (by omega)
 refine⟨b,o,h1,h2,fun j hj=>⟨?_,?_,?_⟩⟩
 ·have:=h3 (j*3+0) _ ((vw l j 0 hj (by omega)).trans rfl);simpa using this
 ·have:=h3 (j*3+1) _ ((vw l j 1 hj (by omega)).trans rfl);rw[show o+j*3+1=o+(j*3+1) by omega];exact this
 ·have:=h3 (j*3+2) _ ((vw l j 2 hj (by omega)).trans rfl);rw[show o+j*3+2=o+(j*3+2) by omega];exact this
theorem km.range{w:aq}{B:Nat}{A:Option au}{l:List iu}(h:km w B A l){b o:Nat}(hA:A=some ⟨b,o,none⟩){j:Nat}(hj:j<l.length):w.rangeAt b (o+j*3) (jK (l.getD j jl)):=by
 obtain⟨b',o',h1,_,h3⟩:=h.at hj;rw[hA]at h1;injection h1 with h1
 injection h1 with hb ho _
 subst hb;subst ho;obtain⟨c0,c1,c2⟩:=h3 j hj;intro i v hv;rcases i with _|_|_|i
 ·simp[jK]at hv;subst hv;exact c0
 ·simp[jK]at hv;subst hv;exact c1
 ·simp[jK]at hv;subst hv;exact c2
 ·simp[jK]at hv
theorem qx(w:aq)(base:Nat)(A:Option au)(n c:Nat)(l:List iu)(al:w.ownsRow base 128 3 (af A n c) n (Ql l))(t:iu)(hn:n<=1000000)(ad:base<=w.heap.size):
  ∃A' c' w',(Builtin.append_ #[79,79] 79 #[af A n c,af (some ⟨w.heap.size,0,none⟩) 1 1]).run prog (w.alloc (ak #[ae .u8 (t.x:Int),ae aj t.d,ae aj t.n] 128))=.ok (af A' (n+1) c') w'/\
   w'.ownsRow base 128 3 (af A' (n+1) c') (n+1) (Ql (l++[t]))/\aR base w w':=by
 have av:aR base w (w.alloc (ak #[ae .u8 (t.x:Int),ae aj t.d,ae aj t.n] 128)):=(Below.refl base w).alloc ad _
 obtain⟨A',c',w',h2,o2,b2⟩:=pC (kS:=24) underlying79 Cl rfl (by decide) (w.alloc (ak #[ae .u8 (t.x:Int),ae aj t.d,ae aj t.n] 128)) base _ (af A n c) n _ (al.alloc _) _ 1 1 _
  (iQ.new w 3 1 #[ae .u8 (t.x:Int),ae aj t.d,ae aj t.n] 128 rfl) (fun u hu=>by simp at hu;rcases hu with rfl|rfl|rfl<;>rfl) (by unfold maxLen;omega) (by omega) 79 (fun h=>by cases h) (Nat.le_trans ad av.size)
 refine⟨A',c',w',h2,?_,av.trans b2⟩
 rw[yf]
 exact o2
theorem Cm(f:Nat->Nat)(least:Nat):∀k,k<=least->Qc f least k=least
 |0,_=>rfl
 |k+1,h=>by simp only[Qc];rw[if_neg (by omega)];exact Cm f least k (by omega)
theorem yg(w:aq)(A:Option au)(n c:Nat)(f:Nat->Nat)(least:Nat)(hr:iy w w.heap.size A n f)(hl:least<=n)(hn:n<=1000000)(aU:n<=c)(hc:c<=maxLen)(m:Nat)(hm:m=Qc f least n):
  aw prog 119 #[af A n c,ae aj (least:Int)] w fun e w'=>e=ao (af A m c)/\w=w':=by
 unfold maxLen at hc
 have HR:=gW hr;have HM:=gW hm
 have aV:m<=n:=by rw[hm];exact qZ f least n hl
 clear hr hm
 go_enter func119,ntmps119
 go_wp2
 go_loopw [5,6] (fun nv iv wr=>∃i k:Nat,least<=i/\i<=n/\k<=n/\nv=ae aj (k:Int)/\iv=ae aj (i:Int)/\aQ (k=Qc f least i)/\w=wr) (fun _ iv _=>n-(aP iv).toNat)
 case atStart=>exact⟨least,least,Nat.le_refl _,hl,hl,rfl,rfl,gW (Cm f least least gY).symm,rfl⟩
 case round=>
  obtain⟨i,k,hi,aW,hk,rfl,rfl,HK,rfl⟩:=hrel;by_cases aT:i<n
  ·have av:(i:Int)<(n:Int):=by omega
   obtain⟨b,o,rfl,_,aS⟩:=HR.out.2 (by omega);have e1:=aS i aT;obtain⟨x,hx⟩:=gX (f i);rw[<-hx]at e1;have ad:Qc f least (i+1)=if x=0 then k else i+1:=by
    simp only[Qc];rw[<-hx,HK.out];by_cases h0:x=0
    ·rw[if_pos h0,if_neg (fun h=>h.2 h0)]
    ·rw[if_neg h0,if_pos ⟨hi,h0⟩]
   clear aS hx;by_cases h0:x=0
   ·rw[if_pos h0]at ad;have al:=gW ad;have d1:((x:Int) !=0)=false:=by simp;omega
    have d2:(x !=0)=false:=by simpa using h0
    clear ad h0;go_wp2;go_roundw
    case rel=>exact⟨i+1,k,by omega,by omega,hk,rfl,by go_num,gW al.out.symm,trivial⟩
    case measure=>simp[aP];omega
   ·rw[if_neg h0]at ad;have al:=gW ad;have d1:((x:Int) !=0)=true:=by simp;omega
    have d2:(x !=0)=true:=by simpa using h0
    clear ad h0;go_wp2;go_roundw
    case rel=>exact⟨i+1,i+1,by omega,by omega,by omega,by go_num,by go_num,gW al.out.symm,trivial⟩
    case measure=>simp[aP];omega
  ·obtain rfl:i=n:=by omega
   have av:¬(i:Int)<(i:Int):=by omega
   obtain rfl:k=m:=HK.out.trans HM.out.symm;go_wp2;go_ret;exact⟨rfl,rfl⟩
theorem vy(l:List (Nat×Nat))(i:Nat):PR (l.take i)<=PR l:=by
 have:=jC (l.take i) (l.drop i);rw[List.take_append_drop]at this;omega
theorem Iw(l:List (Nat×Nat)){i:Nat}(h:i<l.length):PR (l.take (i+1))=PR (l.take i)+(l.getD i oq).2:=by
 rw[List.take_add_one,jC,List.getElem?_eq_getElem h,List.getD_eq_getElem?_getD,List.getElem?_eq_getElem h];simp[PR]
theorem Cn(w:aq)(A:Option au)(n c:Nat)(l:List (Nat×Nat))(hn:n=l.length)(hr:mo w w.heap.size A l)(hl:n<=1000000)(hb:PR l<=1000000000):
  aw prog 74 #[af A n c] w fun e w'=>e=ao (ae aj ((PR l:Nat):Int))/\w=w':=by
 have HR:=gW hr;have HB:=gW hb;have HN:=gW hn
 obtain⟨z,hz⟩:=gX (PR l)
 rw[<-hz]
 have HZ:=gW hz
 clear hr hb hn hz
 go_enter func74,ntmps74
 go_wp2
 go_loopw [3,4] (fun nv iv wr=>∃i k:Nat,i<=n/\k<=1000000000/\nv=ae aj (k:Int)/\iv=ae aj (i:Int)/\aQ (k=PR (l.take i))/\w=wr) (fun _ iv _=>n-(aP iv).toNat)
 case atStart=>exact⟨0,0,Nat.zero_le _,Nat.zero_le _,rfl,rfl,gW rfl,rfl⟩
 case round=>
  obtain⟨i,k,aV,hk,rfl,rfl,HK,rfl⟩:=hrel;by_cases aS:i<n
  ·have al:i<l.length:=by rw[<-HN.out];exact aS
   obtain⟨b,o,rfl,_,av⟩:=HR.out.at al;have e1:=(av i al).2;have ad:=Iw l al;have hle:=Nat.le_trans (vy l (i+1)) HB.out;obtain⟨x,hx⟩:=gX ((l.getD i oq).2);rw[<-hx]at e1 ad;rw[ad,<-HK.out]at hle;rw[<-HK.out]at ad;have aT:=gW ad;clear av hx ad;go_wp2;go_roundw
   case rel=>exact⟨i+1,k+x,by omega,by omega,by go_num,by go_num,gW aT.out.symm,trivial⟩
   case measure=>simp[aP];omega
  ·obtain rfl:i=n:=by omega
   have aU:¬(i:Int)<(i:Int):=by omega
   obtain rfl:k=z:=by rw[HK.out,HZ.out,HN.out,List.take_length]
   go_wp2;go_ret;exact⟨rfl,rfl⟩
theorem Iy{B:Nat}{a w:aq}(h:aR B a w)(n:Nat):aR B a (w.drewN n):=⟨h.os,h.tape,h.output,h.size,h.block⟩
def jP(w:aq)(g n:Nat)(x l:Nat->Nat):Prop:=
 ∃cur:Array ax,w.heap[g]?=some (ak cur 176 (0,0))/\∀j,j<n->cur[j*2]?=some (ae .u32 (x j:Int))/\cur[j*2+1]?=some (ae .u8 (l j:Int))
theorem jP.lt{w:aq}{g n:Nat}{x l:Nat->Nat}(h:jP w g n x l):g<w.heap.size:=by
 obtain⟨cur,h1,_⟩:=h;exact(Array.getElem?_eq_some_iff.1 h1).1
theorem jP.cell{w:aq}{g n:Nat}{x l:Nat->Nat}(h:jP w g n x l){j:Nat}(hj:j<n):w.cell? ⟨g,j*2,none⟩=some (ae .u32 (x j:Int))/\w.cell? ⟨g,j*2+1,none⟩=some (ae .u8 (l j:Int)):=by
 obtain⟨cur,h1,h2⟩:=h;rw[aH w g _ _ _ (0,0) h1,aH w g _ _ _ (0,0) h1];exact h2 j hj
theorem jP.frozen{w:aq}{g n:Nat}{x l:Nat->Nat}(h:jP w g n x l)(j:Nat):w.frozen? ⟨g,j,none⟩=false:=by
 obtain⟨cur,h1,_⟩:=h;exact aO w g j _ _ h1
theorem jP.ext{w:aq}{g n:Nat}{x l x' l':Nat->Nat}(h:jP w g n x l)(ex:∀j,j<n->x j=x' j)(el:∀j,j<n->l j=l' j):jP w g n x' l':=by
 obtain⟨cur,h1,h2⟩:=h;exact⟨cur,h1,fun j hj=>by rw[<-ex j hj,<-el j hj];exact h2 j hj⟩
theorem jP.below{w w':aq}{g n B:Nat}{x l:Nat->Nat}(h:jP w g n x l)(hb:aR B w w')(hg:g<B):jP w' g n x l:=by
 obtain⟨cur,h1,h2⟩:=h;exact⟨cur,(hb.block g hg).trans h1,h2⟩
theorem jP.other{w:aq}{g n:Nat}{x l:Nat->Nat}(h:jP w g n x l){p:au}(hp:g≠p.block)(u:ax):jP (w.setCell p u) g n x l:=by
 obtain⟨cur,h1,h2⟩:=h;exact⟨cur,(Below.heap_setCell w p u g hp).trans h1,h2⟩
theorem jP.set{w:aq}{g n:Nat}{x l:Nat->Nat}(h:jP w g n x l)(i a b:Nat):jP ((w.setCell ⟨g,i*2,none⟩ (ae .u32 (a:Int))).setCell ⟨g,i*2+1,none⟩ (ae .u8 (b:Int))) g n (iG x i a) (iG l i b):=by
 obtain⟨cur,h1,h2⟩:=h;refine⟨(cur.setIfInBounds (i*2) (ae .u32 (a:Int))).setIfInBounds (i*2+1) (ae .u8 (b:Int)),aN _ g _ _ _ _ (aN w g _ cur _ _ h1),fun j hj=>?_⟩;have hs:j*2+1<cur.size:=by
  rcases Nat.lt_or_ge (j*2+1) cur.size with h|h
  ·exact h
  ·have:=(h2 j hj).2;rw[Array.getElem?_eq_none h]at this;cases this
 have h3:=h2 j hj;simp only[Array.getElem?_setIfInBounds,Array.size_setIfInBounds,iG];by_cases e:j=i
 ·subst e;constructor
  ·rw[if_neg (by omega),if_pos rfl,if_pos (by omega),if_pos rfl]
  ·rw[if_pos rfl,if_pos (by omega),if_pos rfl]
 ·constructor
  ·rw[if_neg (by omega),if_neg (by omega),if_neg e];exact h3.1
  ·rw[if_neg (by omega),if_neg (by omega),if_neg e];exact h3.2
def Iz(base:Nat)(w:aq)(A:Option au)(n:Nat)(x l:Nat->Nat):Prop:=n=0\/∃g,A=some ⟨g,0,none⟩/\base<=g/\jP w g n x l
def lY(_:Nat):Nat:=0
theorem Co:(prog.info? 176).map (fun i=>(i.zero,i.size,i.bytes))=some (some (ah #[ae .u32 0,ae .u8 0]),2,8):=by kernel_rfl
theorem Cp(w:aq)(n:Nat):jP (w.alloc (ak (aJ #[ae .u32 0,ae .u8 0] (n*2)) 176)) w.heap.size n lY lY:=by
 refine⟨_,aG w _,fun j hj=>?_⟩;unfold aJ lY;have e1:j*2%2=0:=by omega
 have e2:(j*2+1)%2=1:=by omega
 constructor
 ·simp[show j*2<n*2 by omega,e1]
 ·simp[show j*2+1<n*2 by omega,e2]
theorem IA(w:aq)(m:Nat)(hm:m<256):
  aw prog 142 #[ae .u8 (m:Int)] w fun e w'=>e=ao (ae aj (pt m:Nat))/\w=w':=by
 go_enter func142,ntmps142
 go_wp2
 go_loop [3,4] (fun p i=>∃k:Nat,k<=m/\i=ae aj k/\p=ae aj (pt k:Nat)) (fun _ i=>m-(aP i).toNat)
 case atStart=>exact⟨0,Nat.zero_le _,rfl,rfl⟩
 case round=>
  obtain⟨k,hk,rfl,rfl⟩:=hrel;have hp:=AV k;have H:=gW (GX k);obtain⟨p,ad⟩:=gX (pt k);rw[<-ad]at hp H⊢;have HP:=gW ad;clear ad;by_cases al:k<m
  ·go_wp2;refine⟨⟨k+1,al,by go_num,lx ?_⟩,by simp[aP];omega⟩;rw[H.out];omega
  ·obtain rfl:k=m:=by omega
   clear al hk;go_wp2;go_ret;exact⟨nV (by rw[HP.out]),rfl⟩
def nJ(f:Nat->Nat)(m i j:Nat):Bool:=decide (0<f j/\(f j<m\/(f j=m/\j<i)))
def mS(f:Nat->Nat)(n m i j:Nat):Nat:=if nJ f m i j=true then jz f n j else 0
def mT(f:Nat->Nat)(m i j:Nat):Nat:=if nJ f m i j=true then f j else 0
theorem Cq{f:Nat->Nat}{n m i:Nat}(h:f i=m)(hm:0<m):iG (mS f n m i) i (jz f n i)=mS f n m (i+1)/\iG (mT f m i) i m=mT f m (i+1):=by
 have hb:∀j,j≠i->nJ f m i j=nJ f m (i+1) j:=fun j hj=>by unfold nJ;rw[decide_eq_decide];omega
 have hi:nJ f m (i+1) i=true:=decide_eq_true (by omega);constructor
 ·funext j;unfold iG;by_cases e:j=i
  ·subst e;rw[if_pos rfl];unfold mS;rw[hi,if_pos rfl]
  ·rw[if_neg e];unfold mS;rw[hb j e]
 ·funext j;unfold iG;by_cases e:j=i
  ·subst e;rw[if_pos rfl];unfold mT;rw[hi,if_pos rfl,h]
  ·rw[if_neg e];unfold mT;rw[hb j e]
theorem IB{f:Nat->Nat}{n m i:Nat}(h:f i≠m):mS f n m i=mS f n m (i+1)/\mT f m i=mT f m (i+1):=by
 have hb:∀j,nJ f m i j=nJ f m (i+1) j:=fun j=>by
  unfold nJ;rw[decide_eq_decide];by_cases e:j=i
  ·subst e;omega
  ·omega
 constructor
 ·funext j;unfold mS;rw[hb j]
 ·funext j;unfold mT;rw[hb j]
theorem Cr{f:Nat->Nat}{n m j:Nat}(hj:j<n):mS f n m n j=mS f n (m+1) 0 j/\mT f m n j=mT f (m+1) 0 j:=by
 have hb:nJ f m n j=nJ f (m+1) 0 j:=by unfold nJ;rw[decide_eq_decide];omega
 constructor
 ·unfold mS;rw[hb]
 ·unfold mT;rw[hb]
theorem Cs(f:Nat->Nat)(n j:Nat):lY j=mS f n 1 0 j/\lY j=mT f 1 0 j:=by
 have hb:nJ f 1 0 j=false:=decide_eq_false (by omega);constructor
 ·unfold mS;rw[hb];rfl
 ·unfold mT;rw[hb];rfl
theorem Ct{f:Nat->Nat}{n j:Nat}(h:f j<=15):mS f n 16 0 j=jz f n j/\mT f 16 0 j=f j:=by
 by_cases h0:0<f j
 ·have hb:nJ f 16 0 j=true:=decide_eq_true (by omega);constructor
  ·unfold mS;rw[hb,if_pos rfl]
  ·unfold mT;rw[hb,if_pos rfl]
 ·have hb:nJ f 16 0 j=false:=decide_eq_false (by omega);constructor
  ·unfold mS;rw[hb,if_neg (by decide)];unfold jz;rw[if_pos (by omega)]
  ·unfold mT;rw[hb,if_neg (by decide)];omega
theorem IC(f:Nat->Nat)(n m:Nat)(hm:0<m):lI f n m n=lI f n (m+1) 0:=by
 obtain⟨k,rfl⟩:∃k,m=k+1:=⟨m-1,by omega⟩;unfold lI;rw[Nat.add_sub_cancel,Nat.add_sub_cancel];simp only[lj,mc];omega
theorem ID{f:Nat->Nat}{n m i:Nat}(hi:i<=n)(hm:0<m)(ad:m<=15)(h:∀j,j<n->f j<=15)(ha:P8 f n<=32768):lI f n m i<=32768:=by
 rw[tG f n h]at ha;have h1:=AW f m hi;have h2:=AX f n ad;obtain⟨k,rfl⟩:∃k,m=k+1:=⟨m-1,by omega⟩;have e:lj f n (k+1)=lj f n k+mc f (k+1) n:=rfl;unfold lI;rw[Nat.add_sub_cancel];omega
theorem QO(q:Nat)(h:q<=32768):wrap64 (q:Int)%4294967296=(q:Int):=by unfold wrap64;omega
theorem yh(w:aq)(A:Option au)(n c:Nat)(f:Nat->Nat)(hr:iy w w.heap.size A n f)(hn:n<=1000)(a4:∀j,j<n->f j<=15)(ha:P8 f n<=32768):
  aw prog 114 #[af A n c] w fun e w'=>e=ao (af (some ⟨w.heap.size,0,none⟩) n n)/\aR w.heap.size w w'/\jP w' w.heap.size n (jz f n) f:=by
 obtain⟨i0,hi,bd,bf,bg⟩:=info_parts Co
 have bj:∀u:aq,(Instr.makeSlice 137 (ae aj (n:Int)) (ae aj (n:Int))).run prog u=
   .ok (af (some ⟨u.heap.size,0,none⟩) n n) (u.alloc (ak (aJ #[ae .u32 0,ae .u8 0] (n*2)) 176)):=fun u=>by
  have h:=run_make (P:=prog) u 137 176 i0 (ah #[ae .u32 0,ae .u8 0]) underlying137 hi bd aj aj (n:Int) (n:Int) (by omega) (Int.le_refl _) (by rw[bg];omega) (by omega)
  rw[Int.toNat_natCast]at h
  simpa[bf,Value.cells]using h
 have HR:=gW hr;have aX:=gW a4;have HA:=gW ha
 clear hr a4 ha
 go_enter func114,ntmps114
 go_wp2
 clear bj
 go_loopw [4,5,6] (fun a m _ wr=>∃k:Nat,1<=k/\k<=16/\m=ae aj k/\a=ae aj (lI f n k 0:Nat)/\jP wr w.heap.size n (mS f n k 0) (mT f k 0)/\aR w.heap.size w wr) (fun _ m _ _=>16-(aP m).toNat)
 case atStart=>
  exact⟨1,Nat.le_refl _,by omega,rfl,rfl,(Cp w n).ext (fun j _=>(Cs f n j).1) (fun j _=>(Cs f n j).2),ix.alloc gY _⟩
 case round=>
  obtain⟨k,a5,hk,rfl,rfl,ad,hb⟩:=hrel;obtain⟨wo,rfl⟩:∃wo:aq,wo=wr:=⟨_,rfl⟩;by_cases bk:k<16
  ·have hd:decide ((k:Int)<=15)=true:=by simp;omega
   have bl:(k:Int)%256=k:=by omega
   have aT:=gW ad;have HB:=gW hb
   clear ad hb;obtain⟨a0,aY⟩:=gX (lI f n k 0);have bm:=gW aY;rw[<-aY];clear aY;go_wp2;go_loopw [4,6] (fun a i wi=>∃j:Nat,j<=n/\i=ae aj j/\a=ae aj (lI f n k j:Nat)/\jP wi w.heap.size n (mS f n k j) (mT f k j)/\aR w.heap.size w wi) (fun _ i _=>n-(aP i).toNat)
   case atStart=>exact⟨0,Nat.zero_le _,rfl,by rw[bm.out],aT.out,HB.out⟩
   case round=>
    obtain⟨j,hj,rfl,rfl,ad,hb⟩:=hrel;have a6:=ID hj a5 (by omega) aX.out HA.out;by_cases aS:j<n
    ·obtain⟨b,o,rfl,bq,hc⟩:=(HR.out.below hb gY).2 (by omega);have aZ:=hc j aS;clear hc;have br:=HR.out.1 j;by_cases he:f j=k
     ·have bn:=xG (m:=k) (by omega);have a7:=AV k;have bt:=(ad.cell aS).1;have bu:=(ad.cell aS).2;have bz:=ad.frozen (j*2);have bA:=ad.frozen (j*2+1);have aU:jz f n j=lI f n k j/pt k:=by unfold jz;rw[if_neg (by omega),he]
      have al:lI f n k (j+1)=lI f n k j+pt k:=by unfold lI;simp only[mc];rw[if_pos he];omega
      have av:=gW ad;have aV:=gW hb;have HC:=gW aU;have HS:=gW al;have HE:=gW he
      have a8:((f j:Nat):Int)=(k:Int):=by omega
      rw[a8]at aZ;have bB:((k:Int)==(k:Int))=true:=by simp
      clear ad hb aU al he a8;obtain⟨a,a1⟩:=gX (lI f n k j);obtain⟨p,a2⟩:=gX (pt k);have a9:=gW a1;have a3:=gW a2
      rw[<-a1]at a6⊢;rw[<-a2]at bn a7;clear a1 a2;have hdiv:a/p<=32768:=Nat.le_trans (Nat.div_le_self _ _) a6;go_wp2_with (go_at_call 142;refine(IA _ k (by omega)).mono ?_;rintro e w' ⟨rfl,rfl⟩;rw[<-a3.out])
      go_roundw
      case rel=>
       have bp:wrap64 ((a:Int)/(p:Int))%4294967296=((jz f n j:Nat):Int):=by
        rw[HC.out,<-a9.out,<-a3.out,<-Int.natCast_ediv];exact QO _ hdiv
       have aW:=av.out.set j (jz f n j) k;rw[(Cq HE.out (by omega)).1,(Cq (n:=n) HE.out (by omega)).2]at aW;refine⟨j+1,by omega,by go_num,lx (by rw[HS.out,<-a9.out,<-a3.out];omega),by rw[bp];exact aW,?_⟩;exact(aV.out.setCell gY _).setCell gY _
      case measure=>simp[aP];omega
     ·have al:lI f n k (j+1)=lI f n k j:=by unfold lI;simp only[mc];rw[if_neg he];omega
      have bC:(((f j:Nat):Int)==(k:Int))=false:=by simp;omega
      have hm:=IB (n:=n) he;have av:=gW ad;have aV:=gW hb;have HS:=gW al;have HM:=gW hm
      clear ad hb al hm;go_wp2;go_roundw
      case rel=>
       refine⟨j+1,by omega,by go_num,by rw[HS.out],?_,aV.out⟩;rw[<-HM.out.1,<-HM.out.2];exact av.out
      case measure=>simp[aP];omega
    ·obtain rfl:j=n:=by omega
     have av:=gW ad;have aV:=gW hb
     have HN:=gW (IC f j k a5);clear ad hb aS hj;go_wp2;go_roundw
     case rel=>exact⟨k+1,by omega,by omega,by go_num,by rw[HN.out],av.out.ext (fun i hi=>(Cr hi).1) (fun i hi=>(Cr (n:=j) hi).2),aV.out⟩
     case measure=>simp[aP];omega
  ·obtain rfl:k=16:=by omega
   have aT:=gW ad;have HB:=gW hb
   clear ad hb bk hk;go_wp2;go_ret;exact⟨rfl,HB.out,aT.out.ext (fun j hj=>(Ct (aX.out j hj)).1) (fun j hj=>(Ct (n:=n) (aX.out j hj)).2)⟩
theorem se(a b:ax):(prog.info? 176).map (·.size)=some [a,b].length:=by kernel_rfl
theorem jP.range{w:aq}{g n:Nat}{x l:Nat->Nat}(h:jP w g n x l){j:Nat}(hj:j<n):w.rangeAt g (j*2) [ae .u32 (x j:Int),ae .u8 (l j:Int)]:=by
 obtain⟨c0,c1⟩:=h.cell hj;intro i v hv;rcases i with _|_|i
 ·simp at hv;subst hv;exact c0
 ·simp at hv;subst hv;exact c1
 ·simp at hv
theorem tT{F:Nat->Nat}{n:Nat}(ad:∀j,F j<=15)(ha:P8 F n<=32768){j:Nat}(hj:j<n):jz F n j<4294967296:=by
 have h1:=xJ hj (fun j _=>ad j) ha;have h2:(2:Nat)^F j<=2^15:=Nat.pow_le_pow_right (by omega) (ad j);have h3:(2:Nat)^15=32768:=rfl;omega
structure yi (l:List iu) (n k:Nat):Prop where
 may:∀t∈l,iO t=true/\t.x<256
 a:∀t∈l,jU t<n
 b:∀t∈l,t.n≠0->lK t<k
theorem Cu{l:List iu}{i:Nat}(h:i<l.length):l.getD i jl∈l:=by
 rw[List.getD_eq_getElem?_getD,List.getElem?_eq_getElem h];exact List.getElem_mem h
theorem IE{F:Nat->Nat}{n:Nat}{G:Nat->Nat}{k:Nat}{l:List iu}{i:Nat}(h:i<l.length):(l.take (i+1)).flatMap (jD F n G k)=(l.take i).flatMap (jD F n G k)++jD F n G k (l.getD i jl):=by
 rw[List.take_add_one,List.flatMap_append,List.getElem?_eq_getElem h,List.getD_eq_getElem?_getD,List.getElem?_eq_getElem h];simp
theorem vz(w:aq)(A2:Option au)(m c2:Nat)(l:List iu)(A:Option au)(n c:Nat)(F:Nat->Nat)(B:Option au)(k d:Nat)(G:Nat->Nat)(hm:m=l.length)(hr:km w w.heap.size A2 l)(aW:iy w w.heap.size A n F)(a4:iy w w.heap.size B k G)
  (dd:m<=100000) (hn:n<=1000) (hk:k<=1000) (hF:∀j,F j<=15) (hG:∀j,G j<=15) (bU:P8 F n<=32768) (ch:P8 G k<=32768) (bJ:256<n) (cj:yi l n k):
  aw prog 94 #[af A2 m c2,af A n c,af B k d] w fun e w'=>∃A' n' c',e=ao (af A' n' c')/\lp w' w'.heap.size A' n' c' (jM F n G k l)/\aR w.heap.size w w':=by
 have ck:=yh w A n c F aW hn (fun j _=>hF j) bU
 have cl:=gW ck;have cK:=gW a4;have HT:=gW hr;have HF:=gW hF;have HG:=gW hG;have bV:=gW bU;have cm:=gW ch;have bW:=gW cj;have HM:=gW hm
 clear ck a4 hr hF hG bU ch cj aW hm
 go_enter func94,ntmps94
 go_wp2_with fail
 refine cl.out.mono ?_
 rintro e w1 ⟨rfl,bC,a5⟩
 obtain⟨ga,bD⟩:=gX (w.heap.size)
 rw[<-bD]at a5
 have cn:=yh w1 B k d G ((cK.out.below bC gY).more bC.size) hk (fun j _=>HG.out j) cm.out
 have cp:=gW cn;have cq:=gW bC;have bX:=gW a5;have de:=gW bD
 rw[<-bD]
 clear cn bC a5 bD
 go_wp2_with fail
 refine cp.out.mono ?_
 rintro e w2 ⟨rfl,bY,aX⟩
 obtain⟨gb,bZ⟩:=gX (w1.heap.size)
 rw[<-bZ]at aX
 rw[<-bZ]
 have bg:jP w2 ga n (jz F n) F:=bX.out.below bY bX.out.lt
 have bK:aR w.heap.size w w2:=cq.out.trans (bY.mono cq.out.size)
 have cL:=gW bg;have cr:=gW aX;have bj:=gW bK
 have bL:=bg.lt
 have bM:=aX.lt
 have cu:=gW bL;have cv:=gW bM
 clear bg aX bK bY bL bM bZ bX cl cp
 go_wp2
 go_loopw [9,10] (fun ov iv wr=>∃(i p:Nat) (At:Option au) (ct:Nat),i<=m/\p<=4*i/\ov=af At p ct/\iv=ae aj (i:Int)/\aQ (wr.ownsRow w2.heap.size 150 2 (af At p ct) p (P9 ((l.take i).flatMap (jD F n G k))))/\aQ (aR w2.heap.size w2 wr)) (fun _ iv _=>m-(aP iv).toNat)
 case atStart=>exact⟨0,0,none,0,Nat.zero_le _,Nat.zero_le _,rfl,rfl,gW (World.ownsRow_nil _ _ _ _),gW ix⟩
 case round=>
  obtain⟨i,p,At,ct,hi,hp,rfl,rfl,HO,HB⟩:=hrel;have aW:=cL.out.below HB.out cu.out;have a4:=cr.out.below HB.out cv.out;have bE:=HT.out.below (bj.out.trans (HB.out.mono bj.out.size)) gY;have b0:w2.heap.size<=wr.heap.size:=HB.out.size;by_cases cw:i<m
  ·have bk:(i:Int)<(m:Int):=by omega
   have bF:i<l.length:=by rw[<-HM.out];exact cw
   obtain⟨b,o,rfl,df,b1⟩:=bE.at bF;obtain⟨e0,e1,e2⟩:=b1 i bF;have bl:=Cu bF;obtain⟨bG,hx⟩:=bW.out.may _ bl;have a6:=bW.out.a _ bl;have bm:=bW.out.b _ bl;obtain⟨b2,bn,bp⟩:=mH bG hx;have ad:=IE (F:=F) (n:=n) (G:=G) (k:=k) bF;obtain⟨⟨tx,td,tn⟩,ht⟩:∃t,t=l.getD i jl:=⟨_,rfl⟩;rw[<-ht]at e0 e1 e2 bG hx a6 bm b2 bn bp ad;dsimp only at e0 e1 e2 hx bm bn bp;by_cases a7:tn=0
   ·subst a7;have cx:tx<n:=by have:=bn rfl;omega
    have a8:=aW.range cx;have bq:jD F n G k ⟨tx,td,0⟩=[jT F n tx]:=if_pos rfl;rw[bq]at ad;have aS:=tT HF.out bV.out cx;have aY:=HF.out tx;unfold jT at ad;obtain⟨X,hX⟩:=gX (jz F n tx);obtain⟨Y,hY⟩:=gX (F tx);rw[<-hX,<-hY]at ad a8;rw[<-hX]at aS;rw[<-hY]at aY;have aT:=tS wr X Y aS (by omega);obtain⟨Z,hZ⟩:=gX (Qg X Y);rw[<-hZ]at aT ad;have b3:=gW a8;have br:=gW aT;have a9:=gW ad
    clear aW a4 bE b1 bl bG a6 bm b2 bn bp ad ht a8 aT hZ hX hY bq aS aY e1 bk;go_wp2_with (first
     |(refine aF rfl _ _ rfl ga (tx*2) rfl [ae .u32 (X:Int),ae .u8 (Y:Int)] _ b3.out underlying176 rfl (se _ _) ?_)
     |fail)
    refine br.out.mono ?_;rintro e w3 ⟨rfl,aU⟩;have aV:aR w2.heap.size w2 w3:=HB.out.trans (aU.mono b0);obtain⟨A',c',w4,av,al,aZ⟩:=rY w3 w2.heap.size At p ct _ (me HO.out aU) (Z,Y) (by omega) aV.size;rw[<-a9.out]at al;have a1:=gW av;have a2:=gW al;have b4:=gW (aV.trans aZ)
    clear av al aZ aV aU a9;go_wp2_with (at_builtin;refine wpList_append_run rfl (.tmp 35) (.tmp 45) 111 rfl (af At p ct) (af (some ⟨w3.heap.size,0,none⟩) 1 1) (af A' (p+1) c') w4 rfl rfl a1.out ?_)
    go_roundw
    case rel=>exact⟨i+1,p+1,A',c',by omega,by omega,rfl,by go_num,a2,b4⟩
    case measure=>simp[aP];omega
   ·have dg:(tn==0)=false:=by simpa using a7
    obtain⟨b5,b6,bd,bf⟩:=bp a7;obtain⟨_,_,_,_,p1,p2,p3,p4⟩:=rR b5;obtain⟨_,_,_,_,q1,q2,q3,q4⟩:=rS b6;have bt:=bm a7;have bN:jU ⟨tx,td,tn⟩=(jN tn).toNat:=if_neg a7;rw[bN]at a6 bd;have bO:lK ⟨tx,td,tn⟩=(jH td).toNat:=rfl;rw[bO]at bt bf;have bq:jD F n G k ⟨tx,td,tn⟩=[jT F n (jN tn).toNat,((ll tn).toNat,(kY tn).toNat),jT G k (jH td).toNat,((lC td).toNat,(kZ td).toNat)]:=if_neg a7;rw[bq]at ad;have cM:0<=jH td:=by unfold jH;split<;>omega
    have b7:=BW wr tn;have b8:=fun V=>BZ V td
    obtain⟨zS,b9⟩:=gX ((jN tn).toNat);obtain⟨zB,ca⟩:=gX ((kY tn).toNat);obtain⟨zX,cy⟩:=gX ((ll tn).toNat);obtain⟨yS,cb⟩:=gX ((jH td).toNat);obtain⟨yB,cf⟩:=gX ((kZ td).toNat);obtain⟨yX,cz⟩:=gX ((lC td).toNat);rw[<-b9,<-ca,<-cy,<-cb,<-cf,<-cz]at ad;rw[<-b9]at a6 bd;rw[<-cb]at bt bf;rw[<-ca]at p2;rw[<-cf]at q2;have f1:jN tn=(zS:Int):=by omega
    have f2:kY tn=(zB:Int):=by omega
    have f3:ll tn=(zX:Int):=by omega
    have f4:jH td=(yS:Int):=by omega
    have f5:kZ td=(yB:Int):=by omega
    have f6:lC td=(yX:Int):=by omega
    rw[f1,f2,f3,b5]at b7;rw[f4,f5,f6,b6]at b8;have db:zB<=5:=by omega
    have cN:yB<=13:=by omega
    have cO:zX<=32768:=by
     have h1:2^zB<=2^15:=Nat.pow_le_pow_right (by omega) (by omega);have h2:(2:Nat)^15=32768:=rfl;omega
    have cP:yX<=32768:=by
     have h1:2^yB<=2^15:=Nat.pow_le_pow_right (by omega) (by omega);have h2:(2:Nat)^15=32768:=rfl;omega
    have aS:=tT HF.out bV.out a6;have aY:=HF.out zS;have cg:=tT HG.out cm.out bt;have cA:=HG.out yS;unfold jT at ad;have cQ:=gW b7;have cR:=gW b8
    have bP:=gW aW;have bQ:=gW a4
    obtain⟨X,hX⟩:=gX (jz F n zS);obtain⟨Y,hY⟩:=gX (F zS);obtain⟨X2,bH⟩:=gX (jz G k yS);obtain⟨Y2,bI⟩:=gX (G yS);rw[<-hX,<-hY,<-bH,<-bI]at ad;rw[<-hX]at aS;rw[<-hY]at aY;rw[<-bH]at cg;rw[<-bI]at cA;have aT:=fun V=>tS V X Y aS (by omega)
    have bu:=fun V=>tS V X2 Y2 cg (by omega)
    obtain⟨Z,hZ⟩:=gX (Qg X Y);obtain⟨Z2,cB⟩:=gX (Qg X2 Y2);rw[<-hZ]at aT ad;rw[<-cB]at bu ad;have a9:=gW ad;have br:=gW aT;have cC:=gW bu
    have HX:=gW hX;have HY:=gW hY;have cS:=gW bH;have cT:=gW bI;have cD:=gW a6;have cE:=gW bt
    have cU:aQ (wr.cell? ⟨b,o+i*3+1,none⟩=some (ae aj td)):=gW e1;have cF:b<wr.heap.size:=by have:=bj.out.size;omega
    have cV:=gW cF;clear cF b1 bl bG bN bO bm b2 bn bp ht bq aS cg ad aT bu hZ cB hX hY bH bI b7 b8 f1 f2 f3 f4 f5 f6 b9 ca cy cb cf cz p1 p2 p3 p4 q1 q2 q3 q4 b5 b6 cM aW a4 bE hx a7 e1 e0 a6 bt bd bf aY cA;go_wp2_with fail
    refine cQ.out.mono ?_;rintro e w3 ⟨rfl,aU⟩;have cW:w3.cell? ⟨b,o+i*3+1,none⟩=some (ae aj td):=by rw[aU.cell (p:=⟨b,o+i*3+1,none⟩) cV.out];exact cU.out
    have cG:=gW aU;clear aU e2 bk;go_wp2_with fail
    refine(cR.out w3).mono ?_;rintro e w4 ⟨rfl,aZ⟩;have a3:aR wr.heap.size wr w4:=cG.out.trans (aZ.mono cG.out.size);have bR:aR w2.heap.size w2 w4:=HB.out.trans (a3.mono b0);have bz:=bP.out.below a3 bP.out.lt;have bA:=bQ.out.below a3 bQ.out.lt;have LA:∀V,(∃p:kN w4.heap.size w4,V=p.w)->V.rangeAt ga (zS*2) [ae .u32 (X:Int),ae .u8 (Y:Int)]:=by
     rintro V ⟨q,rfl⟩;rw[HX.out,HY.out];exact(bz.below q.h bz.lt).range cD.out
    have LB:∀V,(∃p:kN w4.heap.size w4,V=p.w)->V.rangeAt gb (yS*2) [ae .u32 (X2:Int),ae .u8 (Y2:Int)]:=by
     rintro V ⟨q,rfl⟩;rw[cS.out,cT.out];exact(bA.below q.h bA.lt).range cE.out
    have TA:∀V,aR w4.heap.size w4 V->aw prog 115 #[ah #[ae .u32 (X:Int),ae .u8 (Y:Int)]] V fun e V'=>e=ao (ah #[ae .u32 (Z:Int),ae aj (Y:Int)])/\aR w4.heap.size w4 V':=fun V hV=>(br.out V).mono fun e V' ⟨a,h⟩=>⟨a,hV.trans (h.mono hV.size)⟩
    have TB:∀V,aR w4.heap.size w4 V->aw prog 115 #[ah #[ae .u32 (X2:Int),ae .u8 (Y2:Int)]] V fun e V'=>e=ao (ah #[ae .u32 (Z2:Int),ae aj (Y2:Int)])/\aR w4.heap.size w4 V':=fun V hV=>(cC.out V).mono fun e V' ⟨a,h⟩=>⟨a,hV.trans (h.mono hV.size)⟩
    have cH:=me HO.out a3;have cX:=gW LA;have cY:=gW LB;have cZ:=gW TA;have c8:=gW TB;have bS:=gW bR;have c9:=gW cH
    clear LA LB TA TB bz bA a3 bR cH cW aZ;have dc:zS*2=zS*2:=rfl;have dh:(zS:Int)<(n:Int):=by have:=cD.out;omega
    have di:(yS:Int)<(k:Int):=by have:=cE.out;omega
    go_wp2;refine vv 18 w4.heap.size w4 ix (by kernel_rfl) (by kernel_rfl) (.tmp 9) (af At p ct) rfl (some 69) rfl rfl rfl rfl (by kernel_rfl) (fun _ _ _ h=>h) ?_;simp only[List.take_succ_cons,List.take_zero,List.drop_succ_cons,List.drop_zero,Act.put,List.setIfInBounds_toArray,List.set_cons_zero,List.set_cons_succ];repeat (first
     |(go_big_quiet_want;with_reducible refine oY _ _ rfl _ _ rfl _ _ cX.out underlying176 rfl (se _ _) ?_;go_big_quiet_on;simp only[Act.put,List.setIfInBounds_toArray,List.set_cons_zero,List.set_cons_succ])
     |(go_big_quiet_want;with_reducible refine oY _ _ rfl _ _ rfl _ _ cY.out underlying176 rfl (se _ _) ?_;go_big_quiet_on;simp only[Act.put,List.setIfInBounds_toArray,List.set_cons_zero,List.set_cons_succ])
     |(go_big_quiet_want;refine vu 150 #[(0,.tmp 76),(1,.tmp 77)] rfl (some 78) rfl #[ae .u32 (zX:Int),ae aj (zB:Int)] (by simpa[Act.eval]using kR (zX:Int) (zB:Int)) ?_;go_big_quiet_on;simp only[Act.put,List.setIfInBounds_toArray,List.set_cons_zero,List.set_cons_succ])
     |(go_big_quiet_want;refine vu 150 #[(0,.tmp 85),(1,.tmp 86)] rfl (some 87) rfl #[ae .u32 (yX:Int),ae aj (yB:Int)] (by simpa[Act.eval]using kR (yX:Int) (yB:Int)) ?_;go_big_quiet_on;simp only[Act.put,List.setIfInBounds_toArray,List.set_cons_zero,List.set_cons_succ])
     |(go_big_quiet_step (first|(with_reducible exact nH cZ.out _)|(with_reducible exact nH c8.out _))))
    refine wpQuiet_nil ?_;rintro V ⟨⟨V,hV⟩,rfl⟩;have cI:=me c9.out hV;have bB:aR w2.heap.size w2 V:=bS.out.trans (hV.mono bS.out.size);obtain⟨A',c',w5,av,al,cJ⟩:=xY V w2.heap.size At p ct _ cI [(Z,Y),(zX,zB),(Z2,Y2),(yX,yB)] 4 rfl #[ae .u32 (Z:Int),ae aj (Y:Int),ae .u32 (zX:Int),ae aj (zB:Int),ae .u32 (Z2:Int),ae aj (Y2:Int),ae .u32 (yX:Int),ae aj (yB:Int)] rfl (by omega) bB.size;rw[<-a9.out]at al;have a1:=gW av;have a2:=gW al;have da:=gW (bB.trans cJ)
    clear av al cJ bB cI hV;go_wp2_with (at_builtin;refine wpList_append_run rfl (.tmp 69) (.tmp 88) 111 rfl (af At p ct) (af (some ⟨V.heap.size,0,none⟩) 4 4) (af A' (p+4) c') w5 rfl rfl a1.out ?_)
    go_roundw
    case rel=>exact⟨i+1,p+4,A',c',by omega,by omega,rfl,by go_num,a2,da⟩
    case measure=>simp[aP];omega
  ·obtain rfl:i=m:=by omega
   have bk:¬(i:Int)<(i:Int):=by omega
   have a8:=aW.range bJ;have aS:=tT HF.out bV.out bJ;have aY:=HF.out 256;have ad:(l.take i).flatMap (jD F n G k)++[jT F n 256]=jM F n G k l:=by rw[HM.out,List.take_length];rfl
   unfold jT at ad;obtain⟨X,hX⟩:=gX (jz F n 256);obtain⟨Y,hY⟩:=gX (F 256);rw[<-hX,<-hY]at ad a8;rw[<-hX]at aS;rw[<-hY]at aY;have aT:=tS wr X Y aS (by omega);obtain⟨Z,hZ⟩:=gX (Qg X Y);rw[<-hZ]at aT ad;have b3:=gW a8;have br:=gW aT;have a9:=gW ad
   clear aW a4 bE ad a8 aT hZ hX hY aS aY cw;go_wp2_with (first
    |(refine aF rfl _ _ rfl ga 512 rfl [ae .u32 (X:Int),ae .u8 (Y:Int)] _ b3.out underlying176 rfl (se _ _) ?_)
    |fail)
   refine br.out.mono ?_;rintro e w3 ⟨rfl,aU⟩;have aV:aR w2.heap.size w2 w3:=HB.out.trans (aU.mono b0);obtain⟨A',c',w4,av,al,aZ⟩:=rY w3 w2.heap.size At p ct _ (me HO.out aU) (Z,Y) (by omega) aV.size;rw[a9.out]at al;have bT:aR w.heap.size w w4:=bj.out.trans ((aV.trans aZ).mono bj.out.size);have a1:=gW av;have a2:=gW al;have b4:=gW bT
   clear av al aZ aV aU a9 bT;go_wp2_with (at_builtin;refine wpList_append_run rfl (.tmp 90) (.tmp 95) 111 rfl (af At p ct) (af (some ⟨w3.heap.size,0,none⟩) 1 1) (af A' (p+1) c') w4 rfl rfl a1.out ?_)
   go_ret;exact⟨A',p+1,c',rfl,lp.iI a2.out,b4.out⟩
def jX(w:aq)(g n:Nat)(T:Nat->Nat):Prop:=w.heap[g]?=some (ak (ik (fun i=>((T i:Nat):Int)) n) 3 (0,0))
theorem jX.lt{w:aq}{g n:Nat}{T:Nat->Nat}(h:jX w g n T):g<w.heap.size:=(Array.getElem?_eq_some_iff.1 h).1
theorem jX.cell{w:aq}{g n:Nat}{T:Nat->Nat}(h:jX w g n T){i:Nat}(hi:i<n):w.cell? ⟨g,i,none⟩=some (ae aj ((T i:Nat):Int)):=qw h hi
theorem jX.frozen{w:aq}{g n:Nat}{T:Nat->Nat}(h:jX w g n T)(i:Nat):w.frozen? ⟨g,i,none⟩=false:=aO w g i _ _ h
theorem jX.below{w w':aq}{g n B:Nat}{T:Nat->Nat}(h:jX w g n T)(hb:aR B w w')(hg:g<B):jX w' g n T:=(hb.block g hg).trans h
theorem jX.other{w:aq}{g n:Nat}{T:Nat->Nat}(h:jX w g n T){p:au}(hp:g≠p.block)(u:ax):jX (w.setCell p u) g n T:=(Below.heap_setCell w p u g hp).trans h
theorem jX.set{w:aq}{g n:Nat}{T T':Nat->Nat}(h:jX w g n T)(i x:Nat)(he:∀k,k<n->(if k=i then x else T k)=T' k):jX (w.setCell ⟨g,i,none⟩ (ae aj (x:Int))) g n T':=by
 unfold jX;rw[aN w g i _ _ _ h,tN];refine congrArg (fun a=>some (Obj.cells a 3 (0,0))) (rZ fun k hk=>?_);rw[<-he k hk];split<;>rfl
theorem jX.rd{w:aq}{g n:Nat}{T:Nat->Nat}(h:jX w g n T):jS w w.heap.size (some ⟨g,0,none⟩) (kz T n):=by
 have e:jL (kz T n)=lM (fun i=>((T i:Nat):Int)) n:=by unfold jL kz lM;rw[List.map_map];rfl
 refine⟨by rw[e,ya,mG,Nat.mul_one],fun _=>⟨g,0,rfl,h.lt,fun j u hu=>?_⟩⟩;rw[e]at hu;rw[Nat.zero_add,aH w g j _ _ (0,0) h];simpa[ik]using hu
theorem IF(n:Nat):aJ #[ae aj 0] n=ik (fun _=>0) n:=by
 apply Array.ext';rw[toList_madeCells_one];unfold ik lM;apply List.ext_getElem?;intro i;rcases Nat.lt_or_ge i n with h|h
 ·simp[h]
 ·rw[List.getElem?_eq_none (by simpa using h),List.getElem?_eq_none (by simpa using h)]
theorem yj(n:Nat)(h:n<=1000)(z:Int)(hz:z=(n:Int)):∀u:aq,(Instr.makeSlice 185 (ae aj z) (ae aj z)).run prog u=
   .ok (af (some ⟨u.heap.size,0,none⟩) n n) (u.alloc (ak (ik (fun _=>0) n) 3)):=fun u=>by
 subst hz
 obtain⟨i0,hi,ad,al,av⟩:=info_parts sQ
 have h:=run_make (P:=prog) u 185 3 i0 (ae aj 0) underlying185 hi ad aj aj (n:Int) (n:Int) (by omega) (Int.le_refl _) (by rw[av];omega) (by omega)
 rw[Int.toNat_natCast]at h
 rw[<-IF]
 simpa[al,Value.cells]using h
theorem Qz{l:List iu}{i:Nat}(h:i<l.length):l.take (i+1)=l.take i++[l.getD i jl]:=by
 rw[List.take_add_one,List.getElem?_eq_getElem h,List.getD_eq_getElem?_getD,List.getElem?_eq_getElem h];rfl
theorem IG(w:aq)(A2:Option au)(m c2:Nat)(l:List iu)(hm:m=l.length)(hr:km w w.heap.size A2 l)(bQ:m<=100000)(bk:∀t∈l,iO t=true/\t.x<256):
  aw prog 118 #[af A2 m c2] w fun e w'=>e=ao (.tuple #[af (some ⟨w.heap.size,0,none⟩) 286 286,af (some ⟨w.heap.size+1,0,none⟩) 30 30])/\jX w' w.heap.size 286 (jn l)/\jX w' (w.heap.size+1) 30 (jg l)/\aR w.heap.size w w':=by
 have bR:=yj 286 (by omega) 286 rfl
 have bS:=yj 30 (by omega) 30 rfl
 obtain⟨U,hU⟩:=gX ((w.alloc (ak (ik (fun _=>0) 286) 3)).alloc (ak (ik (fun _=>0) 30) 3))
 have h0:jX U w.heap.size 286 (fun _=>0):=by rw[hU];exact heap_alloc2_old w _ _
 have h1:jX U (w.heap.size+1) 30 (fun _=>0):=by rw[hU];exact heap_alloc2_new w _ _
 have hb:aR w.heap.size w U:=by rw[hU];exact((Below.refl w.heap.size w).alloc gY _).alloc (by simp) _
 have k1:=h0.cell (i:=256) (by omega)
 have k2:=h0.frozen 256
 have s0:jX ((w.alloc (ak ((ik (fun _=>0) 286).setIfInBounds 256 (ae aj 1)) 3)).alloc (ak (ik (fun _=>0) 30) 3)) w.heap.size 286 (jn (l.take 0)):=by
  refine(heap_alloc2_old w _ _).trans ?_;rw[tN];refine congrArg (fun a=>some (Obj.cells a 3 (0,0))) (rZ fun k hk=>?_);unfold jn;simp only[List.take_zero,List.countP_nil];split<;>rfl
 have s1:jX ((w.alloc (ak ((ik (fun _=>0) 286).setIfInBounds 256 (ae aj 1)) 3)).alloc (ak (ik (fun _=>0) 30) 3)) (w.heap.size+1) 30 (jg (l.take 0)):=heap_alloc2_new w _ _
 have sb:aR w.heap.size w ((w.alloc (ak ((ik (fun _=>0) 286).setIfInBounds 256 (ae aj 1)) 3)).alloc (ak (ik (fun _=>0) 30) 3)):=((Below.refl w.heap.size w).alloc gY _).alloc (by simp) _
 rw[hU]at k1 k2
 have S0:=gW s0;have S1:=gW s1;have SB:=gW sb;have HU:=gW hU;have HR:=gW hr;have bE:=gW bk;have HM:=gW hm
 clear h0 h1 hb s0 s1 sb hU hr bk hm
 go_enter func118,ntmps118
 go_wp2
 go_loopw [6] (fun iv wr=>∃i:Nat,i<=m/\iv=ae aj (i:Int)/\aQ (jX wr w.heap.size 286 (jn (l.take i)))/\aQ (jX wr (w.heap.size+1) 30 (jg (l.take i)))/\aQ (aR w.heap.size w wr)) (fun iv _=>m-(aP iv).toNat)
 case atStart=>
  exact⟨0,Nat.zero_le _,rfl,S0,S1,SB⟩
 case round=>
  obtain⟨i,hi,rfl,HA,HB,av⟩:=hrel;by_cases a7:i<m
  ·have bl:(i:Int)<(m:Int):=by omega
   have aS:i<l.length:=by rw[<-HM.out];exact a7
   have a8:=HR.out.below av.out gY;obtain⟨b,o,rfl,bm,a9⟩:=a8.at aS;obtain⟨e0,e1,e2⟩:=a9 i aS;obtain⟨a1,hx⟩:=bE.out _ (Cu aS);obtain⟨aV,a2,aW⟩:=mH a1 hx;have a3:=Qz aS;obtain⟨⟨tx,td,tn⟩,ht⟩:∃t,t=l.getD i jl:=⟨_,rfl⟩;rw[<-ht]at e0 e1 e2 a1 hx aV a2 aW a3;dsimp only at e0 e1 e2 hx a2 aW;have ad:=BJ (l.take i) ⟨tx,td,tn⟩;have aT:=vf (l.take i) ⟨tx,td,tn⟩;rw[<-a3]at ad aT;have hle:=rX (l.take i);have aX:=qY (l.take i);have hlen:(l.take i).length<=100000:=by rw[List.length_take];omega
   by_cases aU:tn=0
   ·subst aU;have bn:jU ⟨tx,td,0⟩=tx:=if_pos rfl;rw[bn]at aV ad;have c1:=HA.out.cell aV;have f1:=HA.out.frozen tx;have hv:=hle tx;obtain⟨q,hq⟩:=gX (jn (l.take i) tx);rw[<-hq]at c1 hv;have bF:q<=100001:=by omega
    have r1:jX (wr.setCell ⟨w.heap.size,tx,none⟩ (ae aj ((q+1:Nat):Int))) w.heap.size 286 (jn (l.take (i+1))):=HA.out.set tx (q+1) fun k hk=>by
     rw[ad k];by_cases e:k=tx
     ·rw[if_pos e,if_pos e.symm,e,hq]
     ·rw[if_neg e,if_neg (fun g=>e g.symm)];rfl
    have r2:jX (wr.setCell ⟨w.heap.size,tx,none⟩ (ae aj ((q+1:Nat):Int))) (w.heap.size+1) 30 (jg (l.take (i+1))):=by
     have e:jg (l.take (i+1))=jg (l.take i):=by
      funext k;rw[aT k,if_neg (fun g=>g.1 rfl)];rfl
     rw[e];exact HB.out.other (p:=⟨w.heap.size,tx,none⟩) (by simp) _
    have r3:=av.out.setCell (p:=⟨w.heap.size,tx,none⟩) gY (ae aj ((q+1:Nat):Int));have R1:=gW r1;have R2:=gW r2;have R3:=gW r3
    clear r1 r2 r3 ad aT hle aX hlen hv hq a3 a1 a2 aW ht bn a9 a8 e1 bm aS;go_wp2;go_roundw
    case rel=>exact⟨i+1,by omega,by go_num,R1,R2,R3⟩
    case measure=>simp[aP];omega
   ·have bT:(tn==0)=false:=by simpa using aU
    obtain⟨bp,bq,aY,aZ⟩:=aW aU;obtain⟨_,_,_,_,p1,p2,p3,p4⟩:=rR bp;obtain⟨_,_,_,_,q1,q2,q3,q4⟩:=rS bq;have a5:jU ⟨tx,td,tn⟩=(jN tn).toNat:=if_neg aU;have a6:lK ⟨tx,td,tn⟩=(jH td).toNat:=rfl;have bG:0<=jH td:=by unfold jH;split<;>omega
    have bd:=BW wr tn;have bf:=fun V=>BZ V td
    obtain⟨zS,br⟩:=gX ((jN tn).toNat);obtain⟨yS,bt⟩:=gX ((jH td).toNat);rw[a5,<-br]at aV aY ad;rw[a6,<-bt]at aZ aT;have f1:jN tn=(zS:Int):=by omega
    have f4:jH td=(yS:Int):=by omega
    rw[f1]at bd;rw[f4]at bf;have bu:=hle zS;have bz:=aX yS;have bH:=gW bd;have bI:=gW bf;have bJ:=gW ad;have bK:=gW aT
    obtain⟨q,hq⟩:=gX (jn (l.take i) zS);obtain⟨y,hy⟩:=gX (jg (l.take i) yS);rw[<-hq]at bu;rw[<-hy]at bz;have bF:q<=100001:=by omega
    have bU:y<=100001:=by omega
    have HQ:=gW hq;have HY:=gW hy;have bL:=gW aU
    have bA:b<wr.heap.size:=by have:=av.out.size;omega
    have bM:=gW bA;clear bd bf ad aT bu bz hq hy hle aX hlen a3 a1 a2 aW ht a9 a8 bm aS aU f1 f4 br bt a5 a6 bG p1 p2 p3 p4 q1 q2 q3 q4 bp bq aY e0 hx bA a7;go_wp2_with fail
    refine bH.out.mono ?_;rintro e w3 ⟨rfl,bg⟩;have bN:w3.cell? ⟨b,o+i*3+1,none⟩=some (ae aj td):=by rw[bg.cell (p:=⟨b,o+i*3+1,none⟩) bM.out];exact e1
    have bB:=gW bg;clear bg e2 e1;go_wp2_with fail
    refine(bI.out w3).mono ?_;rintro e w4 ⟨rfl,bC⟩;have al:aR wr.heap.size wr w4:=bB.out.trans (bC.mono bB.out.size);have ra:=HA.out.below al HA.out.lt;have rb:=HB.out.below al HB.out.lt;have bw:=av.out.trans (al.mono av.out.size);have c1:=ra.cell aV;have f1:=ra.frozen zS;rw[<-HQ.out]at c1;have r1:jX (w4.setCell ⟨w.heap.size,zS,none⟩ (ae aj ((q+1:Nat):Int))) w.heap.size 286 (jn (l.take (i+1))):=ra.set zS (q+1) fun k hk=>by
     rw[bJ.out k];by_cases e:k=zS
     ·rw[if_pos e,if_pos e.symm,e,HQ.out]
     ·rw[if_neg e,if_neg (fun g=>e g.symm)];rfl
    have a4:=rb.other (p:=⟨w.heap.size,zS,none⟩) (by simp) (ae aj ((q+1:Nat):Int));have c2:=a4.cell aZ;have f2:=a4.frozen yS;rw[<-HY.out]at c2;have r2:jX ((w4.setCell ⟨w.heap.size,zS,none⟩ (ae aj ((q+1:Nat):Int))).setCell ⟨w.heap.size+1,yS,none⟩ (ae aj ((y+1:Nat):Int))) (w.heap.size+1) 30 (jg (l.take (i+1))):=a4.set yS (y+1) fun k hk=>by
     rw[bK.out k];by_cases e:k=yS
     ·rw[if_pos e,if_pos ⟨bL.out,e.symm⟩,e,HY.out]
     ·rw[if_neg e,if_neg (fun g=>e g.2.symm)];rfl
    have r3:=r1.other (p:=⟨w.heap.size+1,yS,none⟩) (by simp) (ae aj ((y+1:Nat):Int));have r4:=(bw.setCell (p:=⟨w.heap.size,zS,none⟩) gY (ae aj ((q+1:Nat):Int))).setCell (p:=⟨w.heap.size+1,yS,none⟩) (by simp) (ae aj ((y+1:Nat):Int));have bj:((q+1:Nat):Int)=(q:Int)+1:=by omega
    have bD:((y+1:Nat):Int)=(y:Int)+1:=by omega
    rw[bj]at c2 f2;rw[bj,bD]at r2 r3 r4;have R2:=gW r2;have R3:=gW r3;have R4:=gW r4
    have bV:(zS:Int)<286:=by omega
    have bW:(yS:Int)<30:=by omega
    clear r1 r2 r3 r4 a4 ra rb bw al bC bN bj bD;go_wp2;go_roundw
    case rel=>exact⟨i+1,by omega,by go_num,R3,R2,R4⟩
    case measure=>simp[aP];omega
  ·obtain rfl:i=m:=by omega
   have bl:¬(i:Int)<(i:Int):=by omega
   have ha:=HA.out;have hb:=HB.out;rw[HM.out,List.take_length]at ha hb;have bO:=gW ha;have bP:=gW hb
   clear ha hb a7;go_wp2;go_ret2;exact⟨rfl,bO.out,bP.out,av.out⟩
end Go.Proofs.YtokpcpjnihinfaaGreat
