/-
  Words and walks.
-/
import Derived.Test.YtgokdgcmkcmjeaaGreatRows
import Derived.WalkKit
import Derived.ProofKit
import Derived.Lib.Hide
import Derived.Handy
import Derived.OpenShut
import Derived.ShutString
import Derived.ChangeOld
import Derived.Maps.AppendAt
import Derived.Laws.BytesArg
import Derived.Laws.Rows
import Derived.Deep.AppendLies
import Derived.Deep.QuietTactic
import Derived.BigQuiet
import Derived.Deep.RegionLaw
import Derived.Lib.AppendZeros
import Derived.BigRegion
import Derived.OneCell
import Derived.Deep.MidRow
import Derived.Laws.StructEq
import Derived.Laws.CopyOwn
import Derived.StillTailTactics
import Derived.LoopN
import Derived.Deep.SlicePairs
import Derived.Lib.SmallJoins
import Derived.Shelf.Abstract
import Derived.Great.BuildSlice
import Derived.Laws.Tables
import Derived.Deep.DeepCutAuto
import Derived.Deep.WholeRow
set_option maxRecDepth 100000
set_option maxHeartbeats 16000000
namespace Go.Proofs.YtgokdgcmkcmjeaaGreat
open Value renaming int → ae, slice → af, pointer → ag, agg → ai
open IntKind renaming i64 → ak
open Obj renaming cells → ao
open Ending renaming returned → aq
open Go renaming World → au, Addr → aw, Calls → ax, Value → ay, Program → aA, Oper → aB, TypeId → aC, heap_alloc_new → aH, cell_of_row → aI, madeCells → aK, yielded → aN
open Go.RowKit renaming intOf → aQ, Below → aS
open _root_.Go.Proofs.Tryz
open Go.RowKit
theorem fa{p:Prop}(h:p):Hid p:=Lib.hid h
theorem fb{α:Sort _}(a:α):∃x,x=a:=⟨a,rfl⟩
theorem fe{n:Nat}:n<=n:=Nat.le_refl n
theorem fz{n:Nat}{w:World}:Below n w w:=Below.refl n w
open Go.ChangeShapes Go.WideShapes Go.ChangeAt
open Go.ChangeMaps (open_string shut_string)
theorem own:ownKnob prog.godebug=none:=by kernel_rfl
theorem VK:laidOutB prog=true:=by kernel_rfl
theorem oq(W a:Nat)(ha:a<2^W):(BitVec.ofInt W (a:Int)).toNat=a:=by
 rw[BitVec.ofInt_natCast,BitVec.toNat_ofNat];exact Nat.mod_eq_of_lt ha
theorem VU(a b:Nat)(ha:a<4294967296)(hb:b<4294967296):bits .and .u32 (a:Int) (b:Int)=((a&&&b:Nat):Int):=by
 have hx:a&&&b<2^32:=Nat.and_lt_two_pow _ (by omega);show IntKind.u32.wrap ((BitVec.ofInt 32 (a:Int)&&&BitVec.ofInt 32 (b:Int)).toNat:Int)=_
 rw[BitVec.toNat_and,oq 32 a (by omega),oq 32 b (by omega),IntKind.wrap_u32];omega
theorem VQ(a b:Nat)(ha:a<4294967296)(hb:b<4294967296):bits .or .u32 (a:Int) (b:Int)=((a|||b:Nat):Int):=by
 have hx:a|||b<2^32:=Nat.or_lt_two_pow (by omega) (by omega)
 show IntKind.u32.wrap ((BitVec.ofInt 32 (a:Int)|||BitVec.ofInt 32 (b:Int)).toNat:Int)=_
 rw[BitVec.toNat_or,oq 32 a (by omega),oq 32 b (by omega),IntKind.wrap_u32];omega
theorem VW(a b:Nat)(ha:a<256)(hb:b<256):bits .or .u8 (a:Int) (b:Int)=((a|||b:Nat):Int):=by
 have hx:a|||b<2^8:=Nat.or_lt_two_pow (by omega) (by omega)
 show IntKind.u8.wrap ((BitVec.ofInt 8 (a:Int)|||BitVec.ofInt 8 (b:Int)).toNat:Int)=_
 rw[BitVec.toNat_or,oq 8 a (by omega),oq 8 b (by omega),IntKind.wrap_u8];omega
theorem VV(a b:Nat)(ha:a<18446744073709551616)(hb:b<18446744073709551616):bits .and .u64 (a:Int) (b:Int)=((a&&&b:Nat):Int):=by
 have hx:a&&&b<2^64:=Nat.and_lt_two_pow _ (by omega);show IntKind.u64.wrap ((BitVec.ofInt 64 (a:Int)&&&BitVec.ofInt 64 (b:Int)).toNat:Int)=_
 rw[BitVec.toNat_and,oq 64 a (by omega),oq 64 b (by omega),IntKind.wrap_u64];omega
theorem CR(a:Nat)(ha:a<4294967296):bits .and .u32 (a:Int) 1=((a%2:Nat):Int):=by
 have:=VU a 1 ha (by omega);rw[Nat.and_one_is_mod]at this;exact this
theorem wE(a b i:Nat)(hb:b<2^i)(ha:2^i∣a):a|||b=a+b:=by
 obtain⟨c,rfl⟩:=ha;exact(Nat.two_pow_add_eq_or_of_lt hb c).symm
theorem J9(a b i:Nat)(ha:a<4294967296)(h:b<4294967296)(hb:b<2^i)(hd:2^i∣a):bits .or .u32 (a:Int) (b:Int)=((a+b:Nat):Int):=by
 rw[VQ a b ha h,wE a b i hb hd]
theorem Ka(a b i:Nat)(ha:a<4294967296)(h:b<4294967296)(hb:a<2^i)(hd:2^i∣b):bits .or .u32 (a:Int) (b:Int)=((a+b:Nat):Int):=by
 rw[VQ a b ha h,Nat.or_comm,wE b a i hb hd,Nat.add_comm]
theorem yN{k:Nat}(h:k<=32):2^k<=4294967296:=by
 have:=Nat.pow_le_pow_right (n:=2) (by omega) h;simpa using this
theorem CS{x k:Nat}(hx:x<2^k)(h:k<=32):x<4294967296:=Nat.lt_of_lt_of_le hx (yN h)
theorem wF(v k:Nat):((v:Int)/2^k)=((v/2^k:Nat):Int):=by
 rw[Int.natCast_ediv,Int.natCast_pow];rfl
theorem yO(v k:Nat):((v:Int)*2^k)=((v*2^k:Nat):Int):=by
 rw[Int.natCast_mul,Int.natCast_pow];rfl
theorem CU(v k:Nat)(hv:v<4294967296):bits .and .u32 ((v:Int)/2^k) 1=((v/2^k%2:Nat):Int):=by
 rw[wF,CR];exact Nat.lt_of_le_of_lt (Nat.div_le_self _ _) hv
theorem CV(x:Nat)(h:x<4294967296):(x:Int)%4294967296=(x:Int):=by omega
theorem yP{a b:Bool}(h:a=b):Ending.returned (.bool a)=aq (.bool b):=by rw[h]
theorem ou{k:IntKind}{a b:Int}(h:a=b):Ending.returned (ae k a)=aq (ae k b):=by rw[h]
theorem lX{k:IntKind}{a b:Int}(h:a=b):Value.int k a=ae k b:=by rw[h]
theorem CW{k l:IntKind}{a b c d:Int}(h:a=b)(g:c=d):Ending.returned (.tuple #[ae k a,ae l c])=aq (.tuple #[ae k b,ae l d]):=by rw[h,g]
def fB(w:au)(B:Nat)(A:Option aw)(n:Nat)(f:Nat->Nat):Prop:=
 (∀j,f j<256)/\(0<n->∃b o,A=some ⟨b,o,none⟩/\b<B/\∀j,j<n->w.cell? ⟨b,o+j,none⟩=some (ae .u8 (f j:Int)))
theorem fB.below{w w':au}{B B' n:Nat}{A:Option aw}{f:Nat->Nat}(h:fB w B A n f)(hb:aS B' w w')(hB:B<=B'):fB w' B A n f:=by
 refine⟨h.1,fun hn=>?_⟩;obtain⟨b,o,rfl,ad,hc⟩:=h.2 hn;exact⟨b,o,rfl,ad,fun j hj=>by rw[hb.cell (p:=⟨b,o+j,none⟩) (by show b<B';omega)];exact hc j hj⟩
theorem fB.more{w:au}{B B' n:Nat}{A:Option aw}{f:Nat->Nat}(h:fB w B A n f)(hB:B<=B'):fB w B' A n f:=by
 refine⟨h.1,fun hn=>?_⟩;obtain⟨b,o,rfl,ad,hc⟩:=h.2 hn;exact⟨b,o,rfl,by omega,hc⟩
def ft(n:Nat)(f:Nat->Nat):List ay:=(List.range n).map fun j=>ae .u8 (f j:Int)
theorem lK(n:Nat)(f:Nat->Nat)(j:Nat):(ft n f)[j]?=if j<n then some (ae .u8 (f j:Int))else none:=by
 unfold ft;by_cases h:j<n<;>simp[h]
theorem uE(n:Nat)(f:Nat->Nat):∀u∈ft n f,u.oneCell'=true:=by
 intro u hu;simp only[ft,List.mem_map]at hu;obtain⟨j,_,rfl⟩:=hu;rfl
theorem fB.gD{w:au}{base n c:Nat}{A:Option aw}{e:aC}{f:Nat->Nat}(h:w.ownsRow base e 1 (af A n c) n (ft n f))(hf:∀j,f j<256):fB w w.heap.size A n f:=by
 refine⟨hf,fun hn=>?_⟩;obtain⟨g,cap,hv,_,ad⟩:=h.form hn;injection hv with hA _ _
 subst hA;refine⟨g,0,rfl,ad,fun j hj=>?_⟩;have:=h.cells (g:=g) rfl j (ae .u8 (f j:Int)) (by rw[lK,if_pos hj]);have e:(⟨g,0,none⟩:aw).add j=⟨g,0+j,none⟩:=by unfold Addr.add;split<;>simp_all
 rw[e]at this;exact this
theorem ox:(prog.info? 5).map (fun i=>(i.zero,i.size,i.bytes))=some (some (ae .u8 0),1,1):=by kernel_rfl
theorem Kb(w:au)(B:Nat)(A:Option aw)(n c:Nat)(f:Nat->Nat)(hr:fB w B A n f)(hn:n<=1000000000000)(ty:aC)(hA:A=none->c=0):
  ∃A' c' w',(Builtin.append_ #[22,22] ty #[af none 0 0,af A n c]).run prog w=.ok (af A' n c') w'/\
   w'.ownsRow w.heap.size 5 1 (af A' n c') n (ft n f)/\aS w.heap.size w w'/\fB w' w'.heap.size A' n f:=by
 obtain⟨i0,hi,al,av,aT⟩:=info_parts ox
 have key:∃v' w',(Builtin.append_ #[22,22] ty #[af none 0 0,af A n c]).run prog w=.ok v' w'/\
   w'.ownsRow w.heap.size 5 1 v' n (ft n f)/\w.grownBy w' none:=by
  rcases A with _|ad
  ·have h0:n=0:=by
    rcases Nat.eq_zero_or_pos n with h|h
    ·exact h
    ·obtain⟨b,o,h,_⟩:=hr.2 h;cases h
   subst h0;obtain rfl:=hA rfl;exact⟨_,w,run_append_owned_none (P:=prog) (w:=w) w.heap.size 22 ty 5 i0 1 underlying22 hi (af none 0 0) 0 [] (World.ownsRow_nil w _ 5 1),World.ownsRow_nil w _ 5 1,World.grownBy.refl _ _⟩
  ·have ah:∀j u,(ft n f)[j]?=some u->w.cell? (ad.add j)=some u:=by
    intro j u hu;rw[lK]at hu;by_cases hj:j<n
    ·rw[if_pos hj]at hu;injection hu with hu
     subst hu;obtain⟨b,o,h,_,hc⟩:=hr.2 (by omega);injection h with h
     subst h;have e:(⟨b,o,none⟩:aw).add j=⟨b,o+j,none⟩:=by unfold Addr.add;split<;>simp_all
     rw[e];exact hc j hj
    ·rw[if_neg hj]at hu;cases hu
   obtain⟨v',w',h1,h2,h3,_,_⟩:=run_append_own_at (P:=prog) w w.heap.size 22 ty 5 i0 (ae .u8 0) 1 1 underlying22 hi al av aT rfl (by decide)
    (af none 0 0) 0 [] (World.ownsRow_nil w _ 5 1) ad n c (ft n f) (by simp[ft]) ah (uE n f) (by unfold maxLen;omega) (by omega) fe
   rw[Nat.zero_add,List.nil_append]at h2;exact⟨v',w',h1,h2,h3⟩
 obtain⟨v',w',h1,h2,h3⟩:=key
 have hv:∃A' c',v'=af A' n c':=by
  rcases h2.2 with⟨rfl,rfl⟩|⟨g,cap,cur,rfl,_⟩
  ·exact⟨_,_,rfl⟩
  ·exact⟨_,_,rfl⟩
 obtain⟨A',c',rfl⟩:=hv
 exact⟨A',c',w',h1,h2,⟨h3.os,h3.tape,h3.output,h3.size,fun k hk=>h3.block k hk (by simp)⟩,fB.gD h2 hr.1⟩
def cat(f:Nat->Nat)(n:Nat)(g:Nat->Nat)(j:Nat):Nat:=if j<n then f j else g (j-n)
theorem CX{f g:Nat->Nat}{n:Nat}(hf:∀j,f j<256)(hg:∀j,g j<256)(j:Nat):cat f n g j<256:=by
 unfold cat;split
 ·exact hf _
 ·exact hg _
theorem CY(f g:Nat->Nat)(n m:Nat):ft n f++ft m g=ft (n+m) (cat f n g):=by
 apply List.ext_getElem?;intro j;rw[List.getElem?_append];have hl:(ft n f).length=n:=by simp[ft]
 rw[hl,lK,lK,lK];unfold cat;by_cases h1:j<n
 ·rw[if_pos h1,if_pos h1,if_pos (by omega),if_pos h1]
 ·rw[if_neg h1,if_neg h1];by_cases h2:j-n<m
  ·rw[if_pos h2,if_pos (by omega)]
  ·rw[if_neg h2,if_neg (by omega)]
theorem CZ{w:au}{base n:Nat}{e:aC}{v:ay}{xs:List ay}(h:w.ownsRow base e 1 v n xs):∀k,v.ownBlock=some k->base<=k:=by
 intro k hk;rcases h.2 with⟨rfl,_⟩|⟨g,cap,cur,rfl,hg,_⟩
 ·simp[Value.ownBlock]at hk
 ·simp[Value.ownBlock]at hk;omega
theorem wG(w:au)(base B:Nat)(v0:ay)(n:Nat)(f:Nat->Nat)(ah:w.ownsRow base 5 1 v0 n (ft n f))(A:Option aw)(m c:Nat)(g:Nat->Nat)(hr:fB w B A m g)(aW:n+m<=1000000000000)(ty:aC)
  (hA:A=none->c=0) (al:base<=w.heap.size):
  ∃A' c' w',(Builtin.append_ #[22,22] ty #[v0,af A m c]).run prog w=.ok (af A' (n+m) c') w'/\
   w'.ownsRow base 5 1 (af A' (n+m) c') (n+m) (ft (n+m) (cat f n g))/\aS base w w':=by
 obtain⟨i0,hi,aT,aU,aV⟩:=info_parts ox
 have key:∃v' w',(Builtin.append_ #[22,22] ty #[v0,af A m c]).run prog w=.ok v' w'/\
   w'.ownsRow base 5 1 v' (n+m) (ft (n+m) (cat f n g))/\w.grownBy w' v0.ownBlock:=by
  rcases A with _|ad
  ·have h0:m=0:=by
    rcases Nat.eq_zero_or_pos m with h|h
    ·exact h
    ·obtain⟨b,o,h,_⟩:=hr.2 h;cases h
   subst h0;obtain rfl:=hA rfl;refine⟨v0,w,run_append_owned_none (P:=prog) (w:=w) base 22 ty 5 i0 1 underlying22 hi v0 n _ ah,?_,World.grownBy.refl _ _⟩;rw[<-CY];simpa[ft]using ah
  ·have av:∀j u,(ft m g)[j]?=some u->w.cell? (ad.add j)=some u:=by
    intro j u hu;rw[lK]at hu;by_cases hj:j<m
    ·rw[if_pos hj]at hu;injection hu with hu
     subst hu;obtain⟨b,o,h,_,hc⟩:=hr.2 (by omega);injection h with h
     subst h;have e:(⟨b,o,none⟩:aw).add j=⟨b,o+j,none⟩:=by unfold Addr.add;split<;>simp_all
     rw[e];exact hc j hj
    ·rw[if_neg hj]at hu;cases hu
   obtain⟨v',w',h1,h2,h3,_,_⟩:=run_append_own_at (P:=prog) w base 22 ty 5 i0 (ae .u8 0) 1 1 underlying22 hi aT aU aV rfl (by decide)
    v0 n _ ah ad m c (ft m g) (by simp[ft]) av (uE m g) (by unfold maxLen;omega) (by omega) al
   rw[CY]at h2;exact⟨v',w',h1,h2,h3⟩
 obtain⟨v',w',h1,h2,h3⟩:=key
 have hv:∃A' c',v'=af A' (n+m) c':=by
  rcases h2.2 with⟨rfl,h⟩|⟨g,cap,cur,rfl,_⟩
  ·exact⟨none,0,by rw[h]⟩
  ·exact⟨_,_,rfl⟩
 obtain⟨A',c',rfl⟩:=hv
 exact⟨A',c',w',h1,h2,(Below.refl base w).grown h3 al (CZ ah)⟩
theorem wpList_append_run{P:aA}{w:au}{ops:Array aB}{rest:List aB}{o:aB}{a:Act}{Q:Exit->Act->au->Prop}(ah:o.guard=none)(s x:Operand)(t:aC)
  (ho:o.op=.call {callee:=.builtin .append,args:=#[s,x],argTypes:=#[t,t]}) (v u v':ay) (w':au) (hs:a.eval s=v) (hx:a.eval x=u)
  (ad:(Builtin.append_ #[t,t] o.type #[v,u]).run P w=.ok v' w') (h:wpList P ops Q rest (a.put o.dst v') w'):wpList P ops Q (o::rest) a w:=by
 refine wpList_plain ah fun K hK=>?_
 unfold Oper.wp
 simp[execOp,ho,resolve,invoke,builtin,hs,hx,ad,Result.andThen]
 exact hK _ _ h
def kH(n:Nat)(f:Nat->Nat):ByteArray:=strOfNums ((List.range n).map fun j=>(f j:Int))
theorem Kc(f:Nat->Nat):kH 0 f=ByteArray.empty:=rfl
theorem uF{w:au}{B:Nat}{A:Option aw}{n:Nat}{f:Nat->Nat}(hr:fB w B A n f)(c:Nat):
  (convert 22 9 (af A n c)).run prog w=.ok (.string (kH n f)) w:=by
 rcases Nat.eq_zero_or_pos n with h0|h0
 ·subst h0;rcases A with _|⟨b,o,s⟩
  ·rw[Kc];exact run_convert_bytes_nil w 22 5 underlying22 underlying5 0 c 9 underlying9
  ·rw[run_convert_bytes_string w 22 9 5 _ 0 c underlying22 underlying5 underlying9,run_bytesToString w _ 0 c [] (by simpa using run_loadCells_list (P:=prog) w ⟨b,o,s⟩ [] (by simp))];rfl
 ·obtain⟨b,o,rfl,_,hc⟩:=hr.2 h0;exact run_convert_bytes_arg w 22 5 underlying22 underlying5 b o n c _ (by simp) (fun i hi=>by rw[hc i hi];simp[List.getD,hi]) 9 underlying9
theorem Kd{H:Type}{enc:aC×ay->H}{W:au}{base:Nat}{sp:Nat->Bool}{hd:Bool}{a:Option aw}{len cap:Nat}{d:DataW H}{p:List MemPlace}
  (h:∃fuel,DataW.trod enc prog W base sp hd fuel 22 (Value.slice a len cap).cells.toList=some (d,p)):
  ∃f,fB W W.heap.size a len f/\(a=none->cap=0)/\len<=cap/\cap<=maxLen:=by
 obtain⟨fuel,hf⟩:=h
 rcases open_ints underlying22 underlying5 (by kernel_rfl) hf with⟨ad,_⟩|⟨x,l,c,zs,ad,_,hl,hm,hz,_,ah,aT⟩
 ·simp[Value.cells]at ad;obtain⟨rfl,rfl,rfl⟩:=ad;exact⟨fun _=>0,⟨fun _=>by show 0<256;omega,fun h=>by omega⟩,fun _=>rfl,Nat.le_refl _,by unfold maxLen;omega⟩
 ·simp[Value.cells]at ad;obtain⟨rfl,rfl,rfl⟩:=ad;have av:∀j,0<=zs.getD j 0/\zs.getD j 0<256:=by
   intro j;rcases Nat.lt_or_ge j zs.length with hj|hj
   ·have:=aT (zs.getD j 0) (by simp[List.getD,hj]);simp[Lit.wf,IntKind.min,IntKind.max,IntKind.signed,IntKind.bits]at this;simp[List.getD,hj];simp[hj]at this;omega
   ·simp[List.getD,List.getElem?_eq_none hj]
  refine⟨fun j=>(zs.getD j 0).toNat,⟨fun j=>by have:=av j;show(zs.getD j 0).toNat<256;omega,fun hn=>?_⟩,(fun h=>by cases h),hl,hm⟩;have aV:len<=zs.length:=by rw[hz];split<;>omega
  obtain⟨b,off,spot⟩:=x;have h0:=ah 0 (by omega);have al:spot=none:=by simpa[Addr.add]using World.cell?_spot h0
  subst al;have aU:b<W.heap.size:=by
   rcases Nat.lt_or_ge b W.heap.size with h|h
   ·exact h
   ·simp[Addr.add,World.cell?,Array.getElem?_eq_none h]at h0
  refine⟨b,off,rfl,aU,fun j hj=>?_⟩;have hb:=av j;have h1:=ah j (by omega);have e:(⟨b,off,none⟩:aw).add j=⟨b,off+j,none⟩:=by unfold Addr.add;split<;>simp_all
  rw[e]at h1;rw[h1,Int.toNat_of_nonneg hb.1]
theorem yQ{B:Nat}{W w1:au}(hb:aS B W w1):(∀b o,b<B->w1.cell? ⟨b,o,none⟩=W.cell? ⟨b,o,none⟩)/\(∀b o,b<B->w1.frozen? ⟨b,o,none⟩=W.frozen? ⟨b,o,none⟩):=
 ⟨fun b o h=>hb.cell (p:=⟨b,o,none⟩) h,fun b o h=>hb.frozen (p:=⟨b,o,none⟩) h⟩
def Row(w:au)(g L:Nat)(f:Nat->Nat):Prop:=w.heap[g]?=some (ao (ft L f).toArray 5 (0,0))
def fK(f:Nat->Nat)(i x:Nat):Nat->Nat:=fun j=>if j=i then x else f j
theorem Row.cell{w:au}{g L:Nat}{f:Nat->Nat}(h:Row w g L f){j:Nat}(hj:j<L):w.cell? ⟨g,j,none⟩=some (ae .u8 (f j:Int)):=by
 rw[aI w g j _ 5 (0,0) h];simp[ft,hj]
theorem Row.frozen{w:au}{g L:Nat}{f:Nat->Nat}(h:Row w g L f)(j:Nat):w.frozen? ⟨g,j,none⟩=false:=by
 unfold Row at h;simp[World.frozen?,h]
theorem Row.lt{w:au}{g L:Nat}{f:Nat->Nat}(h:Row w g L f):g<w.heap.size:=(Array.getElem?_eq_some_iff.1 h).1
theorem Row.set{w:au}{g L:Nat}{f:Nat->Nat}(h:Row w g L f)(i x:Nat):Row (w.setCell ⟨g,i,none⟩ (ae .u8 (x:Int))) g L (fK f i x):=by
 unfold Row at h⊢;simp only[World.setCell,Array.getElem?_modify,h];simp;apply List.ext_getElem?;intro j;simp only[List.getElem?_set,lK,fK];have hl:(ft L f).length=L:=by simp[ft]
 by_cases e:i=j
 ·subst e;by_cases h:i<L<;>simp[h,hl]
 ·have e':¬j=i:=fun h=>e h.symm
  simp[e,e']
theorem Row.other{w:au}{g L:Nat}{f:Nat->Nat}(h:Row w g L f){p:aw}(hp:g≠p.block)(u:ay):Row (w.setCell p u) g L f:=(Below.heap_setCell w p u g hp).trans h
theorem Row.alloc{w:au}{g L:Nat}{f:Nat->Nat}(h:Row w g L f)(o:Obj):Row (w.alloc o) g L f:=(Below.heap_alloc w o g h.lt).trans h
theorem Row.rd{w:au}{g L:Nat}{f:Nat->Nat}(h:Row w g L f)(hf:∀j,f j<256):fB w w.heap.size (some ⟨g,0,none⟩) L f:=
 ⟨hf,fun _=>⟨g,0,rfl,h.lt,fun j hj=>by rw[Nat.zero_add];exact h.cell hj⟩⟩
def jx(w:au)(g n:Nat)(f:Nat->Nat):Prop:=∃cur:Array ay,w.heap[g]?=some (ao cur 5 (0,0))/\∀j,j<n->cur[j]?=some (ae .u8 (f j:Int))
theorem jx.lt{w:au}{g n:Nat}{f:Nat->Nat}(h:jx w g n f):g<w.heap.size:=by
 obtain⟨cur,h1,_⟩:=h;exact(Array.getElem?_eq_some_iff.1 h1).1
theorem jx.cell{w:au}{g n:Nat}{f:Nat->Nat}(h:jx w g n f){j:Nat}(hj:j<n):w.cell? ⟨g,j,none⟩=some (ae .u8 (f j:Int)):=by
 obtain⟨cur,h1,h2⟩:=h;rw[aI w g j _ _ (0,0) h1];exact h2 j hj
theorem jx.frozen{w:au}{g n:Nat}{f:Nat->Nat}(h:jx w g n f)(j:Nat):w.frozen? ⟨g,j,none⟩=false:=by
 obtain⟨cur,h1,_⟩:=h;exact frozen_of_row w g j _ _ h1
theorem jx.set{w:au}{g n:Nat}{f:Nat->Nat}(h:jx w g n f)(i x:Nat):jx (w.setCell ⟨g,i,none⟩ (ae .u8 (x:Int))) g n (fK f i x):=by
 obtain⟨cur,h1,h2⟩:=h;refine⟨cur.setIfInBounds i (ae .u8 (x:Int)),heap_setCell_same w g i cur _ _ h1,fun j hj=>?_⟩;rw[Array.getElem?_setIfInBounds,fK];have hs:j<cur.size:=by
  rcases Nat.lt_or_ge j cur.size with h|h
  ·exact h
  ·have:=h2 j hj;rw[Array.getElem?_eq_none h]at this;cases this
 by_cases e:i=j
 ·subst e;simp[hs]
 ·have e':¬j=i:=fun h=>e h.symm
  simp[e,e',h2 j hj]
theorem jx.other{w:au}{g n:Nat}{f:Nat->Nat}(h:jx w g n f){p:aw}(hp:g≠p.block)(u:ay):jx (w.setCell p u) g n f:=by
 obtain⟨cur,h1,h2⟩:=h;exact⟨cur,(Below.heap_setCell w p u g hp).trans h1,h2⟩
theorem jx.below{w w':au}{g n B:Nat}{f:Nat->Nat}(h:jx w g n f)(hb:aS B w w')(hg:g<B):jx w' g n f:=by
 obtain⟨cur,h1,h2⟩:=h;exact⟨cur,(hb.block g hg).trans h1,h2⟩
theorem jx.rd{w:au}{g n:Nat}{f:Nat->Nat}(h:jx w g n f)(hf:∀j,f j<256):fB w w.heap.size (some ⟨g,0,none⟩) n f:=
 ⟨hf,fun _=>⟨g,0,rfl,h.lt,fun j hj=>by rw[Nat.zero_add];exact h.cell hj⟩⟩
theorem jx.ext{w:au}{g n:Nat}{f f':Nat->Nat}(h:jx w g n f)(e:∀j,j<n->f j=f' j):jx w g n f':=by
 obtain⟨cur,h1,h2⟩:=h;exact⟨cur,h1,fun j hj=>by rw[h2 j hj,e j hj]⟩
theorem wH{n:Int}(h:(Lit.int ak n).wf=true): -9223372036854775808<=n/\n<=9223372036854775807:=by
 simp[Lit.wf,IntKind.min,IntKind.max,IntKind.signed,IntKind.bits]at h;omega
def kh(n m:Nat)(w p:Nat->Nat)(i k:Nat):Bool:=decide (m<=k\/(i<n/\w i<=p k))
def UX(n m:Nat)(w p:Nat->Nat):Nat->Nat
 |0=>0
 |t+1=>if kh n m w p (UX n m w p t) (t-UX n m w p t)=true then UX n m w p t+1 else UX n m w p t
def nQ(n m:Nat)(w p:Nat->Nat)(t:Nat):Nat:=
 if kh n m w p (UX n m w p t) (t-UX n m w p t)=true then w (UX n m w p t)else p (t-UX n m w p t)
def qU(n:Nat)(w:Nat->Nat):Prop:=∀i j,i<=j->j<n->w i<=w j
section
variable {n m:Nat} {w p:Nat->Nat}
theorem rP:∀t,t<=n+m->UX n m w p t<=n/\t-UX n m w p t<=m/\UX n m w p t<=t
 |0,_=>⟨Nat.zero_le _,Nat.zero_le _,Nat.le_refl _⟩
 |t+1,h=>by
  have ih:=rP t (by omega);simp only[UX];by_cases hc:kh n m w p (UX n m w p t) (t-UX n m w p t)=true
  ·rw[if_pos hc];have:=of_decide_eq_true hc;omega
  ·rw[if_neg hc];have:=of_decide_eq_false (Bool.not_eq_true _▸hc);omega
theorem C0(hw:qU n w):∀t,t<=n+m->∀j,j<t-UX n m w p t->∀i,UX n m w p t<=i->i<n->p j<w i
 |0,_,j,hj,_,_,_=>absurd hj (by omega)
 |t+1,h,j,hj,i,hi,ad=>by
  have ih:=C0 hw t (by omega);have ah:=rP (n:=n) (m:=m) (w:=w) (p:=p) t (by omega);simp only[UX]at hj hi;by_cases hc:kh n m w p (UX n m w p t) (t-UX n m w p t)=true
  ·rw[if_pos hc]at hj hi;exact ih j (by omega) i (by omega) ad
  ·rw[if_neg hc]at hj hi;by_cases e:j=t-UX n m w p t
   ·have h2:=of_decide_eq_false (Bool.not_eq_true _▸hc);have h3:=hw (UX n m w p t) i hi ad;have h4:¬(w (UX n m w p t)<=p (t-UX n m w p t)):=fun g=>h2 (.inr ⟨by omega,g⟩)
    rw[e];omega
   ·exact ih j (by omega) i hi ad
end
def iQ(r:Nat->Nat)(j:Nat):Nat:=r (2*j)+r (2*j+1)
def UU(n:Nat):Nat->Nat
 |0=>n
 |k+1=>n+UU n k/2
def gQ(n:Nat)(w:Nat->Nat):Nat->Nat->Nat
 |0=>w
 |k+1=>nQ n (UU n k/2) w (iQ (gQ n w k))
def UZ(n:Nat)(w:Nat->Nat):Nat->Nat->Nat
 |0,t=>t
 |k+1,t=>UX n (UU n k/2) w (iQ (gQ n w k)) t
def Vp(n:Nat)(w:Nat->Nat):Nat->Nat->Nat->Nat
 |0,t,i=>if i<t then 1 else 0
 |k+1,t,i=>(if i<UZ n w (k+1) t then 1 else 0)+Vp n w k (2*(t-UZ n w (k+1) t)) i
def VR(c:Nat->Bool):Nat->Nat
 |0=>0
 |n+1=>VR c n+if c n=true then 1 else 0
def rQ(L:Nat)(m:Nat->Nat):Nat->Nat
 |0=>0
 |n+1=>rQ L m n+2^(L-m n)
theorem yR{n:Nat}{w:Nat->Nat}:∀k t,t<=UU n k->UZ n w k t<=n/\UZ n w k t<=t
 |0,t,h=>⟨h,Nat.le_refl _⟩
 |k+1,t,h=>by
  have:=rP (n:=n) (m:=UU n k/2) (w:=w) (p:=iQ (gQ n w k)) t h;exact⟨this.1,this.2.2⟩
theorem sX{n:Nat}{w:Nat->Nat}{k t:Nat}(h:t<=UU n (k+1)):2*(t-UZ n w (k+1) t)<=UU n k:=by
 have h2:t-UZ n w (k+1) t<=UU n k/2:=(rP (n:=n) (m:=UU n k/2) (w:=w) (p:=iQ (gQ n w k)) t h).2.1;omega
theorem uG(n:Nat)(w:Nat->Nat):∀k t i,Vp n w k t i<=k+1
 |0,t,i=>by simp only[Vp];split<;>omega
 |k+1,t,i=>by
  have:=uG n w k (2*(t-UZ n w (k+1) t)) i;simp only[Vp];split<;>omega
theorem yS{n m:Nat}{w p:Nat->Nat}:∀t i,i<UX n m w p t->∃q,q<t/\nQ n m w p q=w i
 |0,i,h=>by simp[UX]at h
 |t+1,i,h=>by
  simp only[UX]at h;by_cases hc:kh n m w p (UX n m w p t) (t-UX n m w p t)=true
  ·rw[if_pos hc]at h;rcases Nat.eq_or_lt_of_le (Nat.le_of_lt_succ h)with e|e
   ·exact⟨t,by omega,by unfold nQ;rw[if_pos hc,e]⟩
   ·obtain⟨q,hq,h2⟩:=yS t i e;exact⟨q,by omega,h2⟩
  ·rw[if_neg hc]at h;obtain⟨q,hq,h2⟩:=yS t i h;exact⟨q,by omega,h2⟩
theorem Ke{n:Nat}{w:Nat->Nat}:∀k t i,i<UZ n w k t->∃q,q<t/\gQ n w k q=w i
 |0,_,i,h=>⟨i,h,rfl⟩
 |_+1,t,i,h=>yS t i h
theorem yT{n:Nat}{w:Nat->Nat}(hw:qU n w){k t:Nat}(h:t<=UU n (k+1)):UZ n w k (2*(t-UZ n w (k+1) t))<=UZ n w (k+1) t:=by
 have h1:=yR (w:=w) k _ (sX (w:=w) h);by_cases g:UZ n w k (2*(t-UZ n w (k+1) t))<=UZ n w (k+1) t
 ·exact g
 ·exfalso;obtain⟨q,hq,he⟩:=Ke (n:=n) (w:=w) k (2*(t-UZ n w (k+1) t)) (UZ n w (k+1) t) (by omega);have h2:=C0 (m:=UU n k/2) (p:=iQ (gQ n w k)) hw t h (q/2) (by show q/2<t-UZ n w (k+1) t;omega) (UZ n w (k+1) t) fe (by omega);have h3:gQ n w k q<=iQ (gQ n w k) (q/2):=by
   unfold iQ;rcases Nat.mod_two_eq_zero_or_one q with e|e
   ·rw[show 2*(q/2)=q by omega];omega
   ·rw[show 2*(q/2)+1=q by omega];omega
  omega
theorem C5{n:Nat}{w:Nat->Nat}(hw:qU n w):∀k t i,t<=UU n k->UZ n w k t<=i->Vp n w k t i=0
 |0,t,i,_,h=>by simp only[Vp];rw[if_neg (by simp only[UZ]at h;omega)]
 |k+1,t,i,ht,h=>by
  have h1:=yT hw ht;have:=C5 hw k _ i (sX (w:=w) ht) (Nat.le_trans h1 h);simp only[Vp];rw[this,if_neg (by omega)]
def VC(n:Nat)(w:Nat->Nat):Nat->Nat->Nat->Nat
 |0,t,i=>if i<t then 1 else 0
 |k+1,t,i=>2^(k+1)*(if i<UZ n w (k+1) t then 1 else 0)+VC n w k (2*(t-UZ n w (k+1) t)) i
theorem C6{n:Nat}{w:Nat->Nat}(hw:qU n w):∀k t i,t<=UU n k->VC n w k t i+2^(k+1-Vp n w k t i)=2^(k+1)
 |0,t,i,h=>by
  simp only[VC,Vp];by_cases g:i<t
  ·rw[if_pos g]
  ·rw[if_neg g]
 |k+1,t,i,h=>by
  have ih:=C6 hw k _ i (sX (w:=w) h);have hl:=uG n w k (2*(t-UZ n w (k+1) t)) i;simp only[VC,Vp];by_cases g:i<UZ n w (k+1) t
  ·rw[if_pos g,Nat.mul_one,show k+1+1-(1+Vp n w k (2*(t-UZ n w (k+1) t)) i)=k+1-Vp n w k (2*(t-UZ n w (k+1) t)) i by omega];have e:(2:Nat)^(k+1+1)=2^(k+1)*2:=Nat.pow_succ _ _;omega
  ·have h0:=C5 hw k _ i (sX (w:=w) h) (Nat.le_trans (yT hw h) (by omega));rw[if_neg g];rw[h0]at ih⊢;have e2:(2:Nat)^(k+1-0)=2^(k+1):=rfl;have e3:(2:Nat)^(k+1+1-(0+0))=2^(k+1+1):=rfl;rw[e3];omega
def Vh(c:Nat->Nat):Nat->Nat
 |0=>0
 |n+1=>Vh c n+c n
theorem C7(a b:Nat->Nat):∀n,Vh (fun i=>a i+b i) n=Vh a n+Vh b n
 |0=>rfl
 |n+1=>by simp only[Vh];rw[C7 a b n];omega
theorem yU(x t:Nat):∀n,Vh (fun i=>x*(if i<t then 1 else 0)) n=x*min t n
 |0=>by simp[Vh]
 |n+1=>by
  simp only[Vh];rw[yU x t n];by_cases h:n<t
  ·rw[if_pos h,Nat.mul_one,show min t n=n by omega,show min t (n+1)=n+1 by omega,Nat.mul_add,Nat.mul_one]
  ·rw[if_neg h,show min t n=t by omega,show min t (n+1)=t by omega];omega
theorem C8{n:Nat}{w:Nat->Nat}:∀k t,t<=UU n k->Vh (VC n w k t) n=t*2^k
 |0,t,h=>by
  have e:VC n w 0 t=fun i=>1*(if i<t then 1 else 0):=by funext i;simp only[VC];omega
  rw[e,yU,Nat.one_mul,show min t n=t from Nat.min_eq_left h,Nat.pow_zero,Nat.mul_one]
 |k+1,t,h=>by
  have e:VC n w (k+1) t=fun i=>2^(k+1)*(if i<UZ n w (k+1) t then 1 else 0)+VC n w k (2*(t-UZ n w (k+1) t)) i:=rfl
  have hb:=yR (w:=w) (k+1) t h;rw[e,C7,yU,C8 k _ (sX (w:=w) h),Nat.min_eq_left hb.1];have e2:(2:Nat)^(k+1)=2^k*2:=Nat.pow_succ _ _;obtain⟨r,hr⟩:∃r,t=UZ n w (k+1) t+r:=⟨t-UZ n w (k+1) t,by omega⟩;have e3:t-UZ n w (k+1) t=r:=by omega
  rw[e3];conv=>rhs;rw[hr]
  rw[e2,Nat.add_mul,Nat.mul_comm (2^k*2),Nat.mul_comm 2 r,Nat.mul_assoc r 2,Nat.mul_comm 2 (2^k)]
theorem C9(L:Nat)(c d:Nat->Nat):∀n,(∀i,i<n->d i+2^(L-c i)=2^L)->Vh d n+rQ L c n=n*2^L
 |0,_=>by simp[Vh,rQ]
 |n+1,h=>by
  have ih:=C9 L c d n (fun i hi=>h i (by omega));have h1:=h n (by omega);simp only[Vh,rQ];rw[Nat.add_mul,Nat.one_mul];omega
theorem yW{n:Nat}(hn:1<=n):∀k,UU n k<=2*n-1
 |0=>by simp only[UU];omega
 |k+1=>by have:=yW hn k;simp only[UU];omega
theorem Da{n:Nat}:∀k,2*n*2^k+1<=UU n k*2^k+n+2^k
 |0=>by simp only[UU,Nat.pow_zero,Nat.mul_one];omega
 |k+1=>by
  have ih:=Da (n:=n) k;simp only[UU];have e2:(2:Nat)^(k+1)=2^k*2:=Nat.pow_succ _ _;have h3:UU n k<=2*(UU n k/2)+1:=by omega
  have h4:=Nat.mul_le_mul_right (2^k) h3;rw[Nat.add_mul,Nat.one_mul,Nat.mul_assoc,Nat.mul_comm 2]at h4;rw[e2,Nat.add_mul,<-Nat.mul_assoc,<-Nat.mul_assoc,<-Nat.mul_assoc];have e5:2*n*2^k=n*2^k*2:=by rw[Nat.mul_assoc,Nat.mul_comm 2]
  rw[e5]at ih⊢;omega
theorem yX{n L:Nat}(hL:0<L)(hn:n<=2^L):2*n-2<=UU n (L-1):=by
 have h:=Da (n:=n) (L-1);obtain⟨K,rfl⟩:∃K,L=K+1:=⟨L-1,by omega⟩;rw[Nat.add_sub_cancel]at h⊢;have e2:(2:Nat)^(K+1)=2^K*2:=Nat.pow_succ _ _;by_cases g:2*n-2<=UU n K
 ·exact g
 ·exfalso;have h1:UU n K+3<=2*n:=by omega
  have h2:=Nat.mul_le_mul_right (2^K) h1;rw[Nat.add_mul]at h2;omega
theorem Db{n:Nat}{w:Nat->Nat}(hw:qU n w)(hn:2<=n):∀k,2*n-2<=UU n k->UZ n w k (2*n-2)=n
 |0,h=>by simp only[UU]at h;simp only[UZ];omega
 |k+1,h=>by
  have h1:=yR (w:=w) (k+1) _ h;by_cases g:UZ n w (k+1) (2*n-2)=n
  ·exact g
  ·exfalso;have h2:=sX (w:=w) h;have h3:=yW (n:=n) (by omega) k;have h4:=yT hw h;have e:2*(2*n-2-UZ n w (k+1) (2*n-2))=2*n-2:=by omega
   rw[e]at h2 h4;rw[Db hw hn k h2]at h4;omega
theorem Kf{n L:Nat}{w:Nat->Nat}(hw:qU n w)(hL:0<L)(hn:2<=n)(ah:n<=2^L):rQ L (Vp n w (L-1) (2*n-2)) n=2^L:=by
 have ad:=yX hL ah;obtain⟨K,rfl⟩:∃K,L=K+1:=⟨L-1,by omega⟩;rw[Nat.add_sub_cancel]at ad⊢;have h1:=C9 (K+1) (Vp n w K (2*n-2)) (VC n w K (2*n-2)) n (fun i _=>C6 hw K _ i ad);rw[C8 K _ ad]at h1;have e2:(2:Nat)^(K+1)=2^K*2:=Nat.pow_succ _ _;have e3:(2*n-2)*2^K=(n-1)*2^(K+1):=by rw[e2,show 2*n-2=(n-1)*2 by omega,Nat.mul_assoc,Nat.mul_comm 2]
 have e4:n*2^(K+1)=(n-1)*2^(K+1)+2^(K+1):=by
  conv=>lhs;rw[show n=(n-1)+1 by omega,Nat.add_mul,Nat.one_mul]
 omega
theorem Kg{n L:Nat}{w:Nat->Nat}(hw:qU n w)(hL:0<L)(hn:2<=n)(ah:n<=2^L){i:Nat}(hi:i<n):1<=Vp n w (L-1) (2*n-2) i/\Vp n w (L-1) (2*n-2) i<=L:=by
 have al:=yX hL ah;have ad:=Db hw hn (L-1) al;have hle:=uG n w (L-1) (2*n-2) i;refine⟨?_,by omega⟩;cases hk:L-1 with
 |zero=>rw[hk]at ad;simp only[UZ]at ad;simp only[Vp];rw[if_pos (by omega)];exact Nat.le_refl _
 |succ k=>rw[hk]at ad;simp only[Vp];rw[ad,if_pos hi];omega
def wI(F:Nat->Nat)(i j:Nat):Bool:=decide (F i<F j\/(F i=F j/\i<j))
def Vz(F:Nat->Nat)(i:Nat):List Nat->List Nat
 |[]=>[i]
 |j::l=>if F j<=F i then j::Vz F i l else i::j::l
def Vc(F:Nat->Nat):Nat->List Nat
 |0=>[]
 |n+1=>if 0<F n then Vz F n (Vc F n)else Vc F n
def nI(F:Nat->Nat):Nat->Nat
 |0=>0
 |n+1=>nI F n+if 0<F n then 1 else 0
theorem Dc(F:Nat->Nat)(i:Nat):∀l,(Vz F i l).length=l.length+1
 |[]=>rfl
 |j::l=>by
  simp only[Vz];split
  ·simp only[List.length_cons];rw[Dc F i l]
  ·rfl
theorem oy(F:Nat->Nat):∀n,(Vc F n).length=nI F n
 |0=>rfl
 |n+1=>by
  simp only[Vc,nI];split
  ·rw[Dc,oy F n]
  ·rw[oy F n];rfl
theorem yY(F:Nat->Nat)(i x:Nat):∀l,x∈Vz F i l↔x=i\/x∈l
 |[]=>by simp[Vz]
 |j::l=>by
  simp only[Vz];split
  ·simp only[List.mem_cons];rw[yY F i x l];constructor
   ·rintro(h|h|h)
    ·exact .inr (.inl h)
    ·exact .inl h
    ·exact .inr (.inr h)
   ·rintro(h|h|h)
    ·exact .inr (.inl h)
    ·exact .inl h
    ·exact .inr (.inr h)
  ·simp only[List.mem_cons]
theorem sY(F:Nat->Nat)(x:Nat):∀n,x∈Vc F n↔x<n/\0<F x
 |0=>by simp[Vc]
 |n+1=>by
  simp only[Vc];split
  ·rename_i h;rw[yY,sY F x n];constructor
   ·rintro(rfl|h2)
    ·exact⟨by omega,h⟩
    ·exact⟨by omega,h2.2⟩
   ·rintro⟨h1,h2⟩;by_cases e:x=n
    ·exact .inl e
    ·exact .inr ⟨by omega,h2⟩
  ·rename_i h;rw[sY F x n];constructor
   ·rintro⟨h1,h2⟩;exact⟨by omega,h2⟩
   ·rintro⟨h1,h2⟩;refine⟨?_,h2⟩;by_cases e:x=n
    ·subst e;exact absurd h2 h
    ·omega
def qh(F:Nat->Nat):List Nat->Prop
 |[]=>True
 |j::l=>(∀x∈l,wI F j x=true)/\qh F l
theorem oR{F:Nat->Nat}{i j:Nat}:wI F i j=true↔(F i<F j\/(F i=F j/\i<j)):=by unfold wI;exact decide_eq_true_iff
theorem Dd(F:Nat->Nat)(i:Nat):∀l,qh F l->(∀x∈l,x<i)->qh F (Vz F i l)
 |[],_,_=>⟨fun x hx=>by simp at hx,trivial⟩
 |j::l,h,hx=>by
  simp only[Vz];have hj:=hx j (by simp);split
  ·rename_i hle;refine⟨fun x h2=>?_,Dd F i l h.2 (fun x h2=>hx x (by simp[h2]))⟩;rcases(yY F i x l).1 h2 with rfl|h2
   ·exact oR.2 (by omega)
   ·exact h.1 x h2
  ·rename_i hle;refine⟨fun x h2=>?_,h⟩;rcases List.mem_cons.1 h2 with rfl|h2
   ·exact oR.2 (by omega)
   ·have:=oR.1 (h.1 x h2);exact oR.2 (by omega)
theorem sZ(F:Nat->Nat):∀n,qh F (Vc F n)
 |0=>trivial
 |n+1=>by
  simp only[Vc];split
  ·exact Dd F n _ (sZ F n) (fun x hx=>((sY F x n).1 hx).1)
  ·exact sZ F n
theorem wJ{F:Nat->Nat}:∀(l:List Nat),qh F l->∀r s,r<s->s<l.length->wI F (l.getD r 0) (l.getD s 0)=true
 |[],_,r,s,_,hs=>absurd hs (by simp)
 |j::l,h,0,s+1,_,hs=>by
  have ad:s<l.length:=by simpa using hs
  have:(j::l).getD (s+1) 0=l[s]:=by simp[List.getD,ad]
  rw[this];exact h.1 _ (List.getElem_mem ad)
 |j::l,h,r+1,s+1,ah,hs=>by
  have h2:=wJ l h.2 r s (by omega) (by simpa using hs);have e1:∀t,(j::l).getD (t+1) 0=l.getD t 0:=fun t=>by simp[List.getD]
  rw[e1,e1];exact h2
def jt(F:Nat->Nat)(n r:Nat):Nat:=F ((Vc F n).getD r 0)
theorem De(F:Nat->Nat)(n:Nat):qU (nI F n) (jt F n):=by
 intro i j ad hj;rcases Nat.eq_or_lt_of_le ad with e|e
 ·subst e;exact Nat.le_refl _
 ·have:=oR.1 (wJ (Vc F n) (sZ F n) i j e (by rw[oy];exact hj));unfold jt;omega
theorem yZ{c d:Nat->Nat}:∀n,(∀i,i<n->c i=d i)->Vh c n=Vh d n
 |0,_=>rfl
 |n+1,h=>by simp only[Vh];rw[yZ n (fun i hi=>h i (by omega)),h n (by omega)]
theorem Df(c:Nat->Nat):∀n,Vh c (n+1)=c 0+Vh (fun i=>c (i+1)) n
 |0=>by simp[Vh]
 |n+1=>by
  have:=Df c n;have e:Vh c (n+1+1)=Vh c (n+1)+c (n+1):=rfl;rw[e,this];simp only[Vh];omega
def qi(g:Nat->Nat):List Nat->Nat
 |[]=>0
 |j::l=>g j+qi g l
theorem Dg(g:Nat->Nat):∀l:List Nat,Vh (fun r=>g (l.getD r 0)) l.length=qi g l
 |[]=>rfl
 |j::l=>by
  rw[List.length_cons,Df];have e1:∀t,(j::l).getD (t+1) 0=l.getD t 0:=fun t=>by simp[List.getD]
  have e0:(j::l).getD 0 0=j:=rfl;simp only[e1,e0,qi];rw[Dg g l]
theorem Dh(g F:Nat->Nat)(i:Nat):∀l,qi g (Vz F i l)=qi g l+g i
 |[]=>by simp[Vz,qi]
 |j::l=>by
  simp only[Vz];split
  ·simp only[qi];rw[Dh g F i l];omega
  ·simp only[qi];omega
theorem y9(g F:Nat->Nat):∀n,qi g (Vc F n)=Vh (fun i=>if 0<F i then g i else 0) n
 |0=>rfl
 |n+1=>by
  simp only[Vc,Vh];split
  ·rw[Dh,y9 g F n]
  ·rw[y9 g F n];rfl
theorem Kh(g F:Nat->Nat)(n:Nat):Vh (fun r=>g ((Vc F n).getD r 0)) (nI F n)=Vh (fun i=>if 0<F i then g i else 0) n:=by
 rw[<-oy,Dg,y9]
theorem Di(L:Nat)(m:Nat->Nat):∀n,rQ L m n=Vh (fun i=>2^(L-m i)) n
 |0=>rfl
 |n+1=>by simp only[rQ,Vh];rw[Di L m n]
def qj(F:Nat->Nat)(n i:Nat):Nat:=(Vc F n).idxOf i
def iE(F:Nat->Nat)(n L i:Nat):Nat:=
 if F i=0 then 0 else if nI F n=1 then 1 else Vp (nI F n) (jt F n) (L-1) (2*nI F n-2) (qj F n i)
theorem s8{F:Nat->Nat}{n i:Nat}(hi:i<n)(h:0<F i):qj F n i<nI F n/\(Vc F n).getD (qj F n i) 0=i:=by
 have hm:i∈Vc F n:=(sY F i n).2 ⟨hi,h⟩;have hl:qj F n i<(Vc F n).length:=List.idxOf_lt_length_of_mem hm;refine⟨by rw[<-oy];exact hl,?_⟩;rw[List.getD_eq_getElem?_getD,List.getElem?_eq_getElem hl];exact List.getElem_idxOf hl
theorem qk{F:Nat->Nat}{n r:Nat}(hr:r<nI F n):qj F n ((Vc F n).getD r 0)=r/\(Vc F n).getD r 0<n/\0<F ((Vc F n).getD r 0):=by
 have hl:r<(Vc F n).length:=by rw[oy];exact hr
 have hm:(Vc F n).getD r 0∈Vc F n:=by
  rw[List.getD_eq_getElem?_getD,List.getElem?_eq_getElem hl];exact List.getElem_mem hl
 have h1:=(sY F _ n).1 hm;have h2:=s8 h1.1 h1.2;refine⟨?_,h1⟩;rcases Nat.lt_trichotomy (qj F n ((Vc F n).getD r 0)) r with h|h|h
 ·have:=oR.1 (wJ (Vc F n) (sZ F n) _ _ h hl);rw[h2.2]at this;omega
 ·exact h
 ·have:=oR.1 (wJ (Vc F n) (sZ F n) _ _ h (by rw[oy];exact h2.1));rw[h2.2]at this;omega
theorem rR(F:Nat->Nat):∀n,nI F n<=n
 |0=>Nat.le_refl _
 |n+1=>by have:=rR F n;simp only[nI];split<;>omega
theorem Dj{F:Nat->Nat}{n i:Nat}(hi:i<n)(h:0<F i):0<nI F n:=by
 have:=s8 hi h;omega
theorem Ki{F:Nat->Nat}{n L r:Nat}(hr:r<nI F n)(h2:2<=nI F n):iE F n L ((Vc F n).getD r 0)=Vp (nI F n) (jt F n) (L-1) (2*nI F n-2) r:=by
 have h:=qk hr;unfold iE;rw[if_neg (by omega),if_neg (by omega),h.1]
theorem zc{F:Nat->Nat}{n L i:Nat}(hL:0<L)(hn:nI F n<=2^L)(hi:i<n)(h:0<F i):1<=iE F n L i/\iE F n L i<=L:=by
 unfold iE;rw[if_neg (by omega)];have hp:=Dj hi h;by_cases h1:nI F n=1
 ·rw[if_pos h1];omega
 ·rw[if_neg h1];exact Kg (De F n) hL (by omega) hn (s8 hi h).1
theorem zd(F:Nat->Nat){n L:Nat}(hL:0<L)(i:Nat):iE F n L i<=L:=by
 unfold iE;split
 ·omega
 ·split
  ·omega
  ·have:=uG (nI F n) (jt F n) (L-1) (2*nI F n-2) (qj F n i);omega
def nc(L:Nat)(m:Nat->Nat)(n:Nat):Nat:=Vh (fun i=>if 0<m i then 2^(L-m i)else 0) n
theorem Kj{F:Nat->Nat}{n L:Nat}(hL:0<L)(hn:nI F n<=2^L):nc L (iE F n L) n=if 2<=nI F n then 2^L else if nI F n=1 then 2^(L-1)else 0:=by
 have e:nc L (iE F n L) n=Vh (fun i=>if 0<F i then 2^(L-iE F n L i)else 0) n:=by
  apply yZ;intro i hi;by_cases h0:0<F i
  ·rw[if_pos h0,if_pos (by have:=zc hL hn hi h0;omega)]
  ·rw[if_neg h0,if_neg (by unfold iE;rw[if_pos (by omega)];omega)]
 rw[e,<-Kh (fun i=>2^(L-iE F n L i)) F n];by_cases h2:2<=nI F n
 ·rw[if_pos h2,<-Kf (De F n) hL h2 hn,Di];apply yZ;intro r hr;rw[Ki hr h2]
 ·rw[if_neg h2];by_cases h1:nI F n=1
  ·have h:=qk (show 0<nI F n by omega);have hl:iE F n L ((Vc F n).getD 0 0)=1:=by unfold iE;rw[if_neg (by omega),if_pos h1]
   rw[if_pos h1,h1];simp only[Vh];rw[hl];omega
  ·rw[if_neg h1,show nI F n=0 by omega];rfl
def gR(w:au)(B sz:Nat)(A:Option aw)(m:Nat)(ys:List ay):Prop:=
 ys.length=m*sz/\(0<m->∃b o,A=some ⟨b,o,none⟩/\b<B/\∀j u,ys[j]?=some u->w.cell? ⟨b,o+j,none⟩=some u)
theorem gR.none_(w:au)(B sz:Nat)(A:Option aw):gR w B sz A 0 []:=⟨by simp,fun h=>absurd h (by omega)⟩
theorem gR.below{w w':au}{B B' sz m:Nat}{A:Option aw}{ys:List ay}(h:gR w B sz A m ys)(hb:aS B' w w')(hB:B<=B'):gR w' B sz A m ys:=by
 refine⟨h.1,fun hn=>?_⟩;obtain⟨b,o,rfl,ad,hc⟩:=h.2 hn;exact⟨b,o,rfl,ad,fun j u hu=>by rw[hb.cell (p:=⟨b,o+j,none⟩) (by show b<B';omega)];exact hc j u hu⟩
theorem gR.more{w:au}{B B' sz m:Nat}{A:Option aw}{ys:List ay}(h:gR w B sz A m ys)(hB:B<=B'):gR w B' sz A m ys:=by
 refine⟨h.1,fun hn=>?_⟩;obtain⟨b,o,rfl,ad,hc⟩:=h.2 hn;exact⟨b,o,rfl,by omega,hc⟩
theorem gR.new(w:au)(sz m:Nat)(cs:Array ay)(t:aC)(h:cs.size=m*sz):gR (w.alloc (ao cs t)) (w.alloc (ao cs t)).heap.size sz (some ⟨w.heap.size,0,none⟩) m cs.toList:=
 ⟨by simpa using h,fun _=>⟨w.heap.size,0,rfl,by simp,fun j u hu=>by rw[Nat.zero_add,aI _ _ j cs t (0,0) (aH w _)];simpa using hu⟩⟩
theorem gR.gD{w:au}{base sz n c:Nat}{e:aC}{A:Option aw}{xs:List ay}(h:w.ownsRow base e sz (af A n c) n xs):gR w w.heap.size sz A n xs:=by
 refine⟨h.1,fun hn=>?_⟩;obtain⟨g,cap,hv,_,ad⟩:=h.form hn;injection hv with hA _ _
 subst hA;refine⟨g,0,rfl,ad,fun j u hu=>?_⟩;have:=h.cells (g:=g) rfl j u hu;have e:(⟨g,0,none⟩:aw).add j=⟨g,0+j,none⟩:=by unfold Addr.add;split<;>simp_all
 rw[e]at this;exact this
theorem ql{w:au}{base sz n:Nat}{e:aC}{v:ay}{xs:List ay}(h:w.ownsRow base e sz v n xs):∀k,v.ownBlock=some k->base<=k:=by
 intro k hk;rcases h.2 with⟨rfl,_⟩|⟨g,cap,cur,rfl,hg,_⟩
 ·simp[Value.ownBlock]at hk
 ·simp[Value.ownBlock]at hk;omega
theorem uH{T E:aC}{z:ay}{sz kI:Nat}(hT:prog.underlying T=some (.slice E))(hI:(prog.info? E).map (fun i=>(i.zero,i.size,i.bytes))=some (some z,sz,kI))(hz:z.cells.size=sz)(aT:0<sz)
  (w:au) (base B:Nat) (v0:ay) (n:Nat) (xs:List ay) (ah:w.ownsRow base E sz v0 n xs) (A:Option aw) (m c:Nat) (ys:List ay) (hr:gR w B sz A m ys) (h1:∀u∈ys,u.oneCell'=true)
  (aU:n+m<=maxLen) (aV:(n+m)*kI<=140737488355328) (ty:aC) (hA:A=none->c=0) (al:base<=w.heap.size):
  ∃A' c' w',(Builtin.append_ #[T,T] ty #[v0,af A m c]).run prog w=.ok (af A' (n+m) c') w'/\w'.ownsRow base E sz (af A' (n+m) c') (n+m) (xs++ys)/\aS base w w':=by
 obtain⟨i0,hi,aW,aX,aY⟩:=info_parts hI
 have key:∃v' w',(Builtin.append_ #[T,T] ty #[v0,af A m c]).run prog w=.ok v' w'/\w'.ownsRow base E sz v' (n+m) (xs++ys)/\w.grownBy w' v0.ownBlock:=by
  rcases A with _|ad
  ·have h0:m=0:=by
    rcases Nat.eq_zero_or_pos m with h|h
    ·exact h
    ·obtain⟨b,o,h,_⟩:=hr.2 h;cases h
   subst h0;obtain rfl:=hA rfl;have hy:ys=[]:=List.length_eq_zero_iff.1 (by have:=hr.1;omega);subst hy;refine⟨v0,w,run_append_owned_none (P:=prog) (w:=w) base T ty E i0 sz hT hi v0 n _ ah,?_,World.grownBy.refl _ _⟩;simpa using ah
  ·have av:∀j u,ys[j]?=some u->w.cell? (ad.add j)=some u:=by
    intro j u hu;have hm:0<m:=by
     rcases Nat.eq_zero_or_pos m with h|h
     ·have hy:ys=[]:=List.length_eq_zero_iff.1 (by have:=hr.1;rw[h]at this;omega);rw[hy]at hu;cases hu
     ·exact h
    obtain⟨b,o,h,_,hc⟩:=hr.2 hm;injection h with h
    subst h;have e:(⟨b,o,none⟩:aw).add j=⟨b,o+j,none⟩:=by unfold Addr.add;split<;>simp_all
    rw[e];exact hc j u hu
   obtain⟨v',w',h1,h2,h3,_,_⟩:=run_append_own_at (P:=prog) w base T ty E i0 z sz kI hT hi aW aX aY hz aT v0 n xs ah ad m c ys hr.1 av h1 aU aV al;exact⟨v',w',h1,h2,h3⟩
 obtain⟨v',w',h1,h2,h3⟩:=key
 have hv:∃A' c',v'=af A' (n+m) c':=by
  rcases h2.2 with⟨rfl,h⟩|⟨g,cap,cur,rfl,_⟩
  ·exact⟨none,0,by rw[h]⟩
  ·exact⟨_,_,rfl⟩
 obtain⟨A',c',rfl⟩:=hv
 exact⟨A',c',w',h1,h2,(Below.refl base w).grown h3 al (ql ah)⟩
def jj(l:List Int):List ay:=l.map (Value.int ak)
theorem rS(l:List Int)(j:Nat):(jj l)[j]?=(l[j]?).map (Value.int ak):=by unfold jj;simp
theorem Dk:(prog.info? 3).map (fun i=>(i.zero,i.size,i.bytes))=some (some (ae ak 0),1,8):=by kernel_rfl
def iM(w:au)(B:Nat)(A:Option aw)(l:List Int):Prop:=gR w B 1 A l.length (jj l)
theorem iM.below{w w':au}{B B':Nat}{A:Option aw}{l:List Int}(h:iM w B A l)(hb:aS B' w w')(hB:B<=B'):iM w' B A l:=gR.below h hb hB
theorem iM.more{w:au}{B B':Nat}{A:Option aw}{l:List Int}(h:iM w B A l)(hB:B<=B'):iM w B' A l:=gR.more h hB
theorem iM.at{w:au}{B:Nat}{A:Option aw}{l:List Int}(h:iM w B A l){k:Nat}(hk:k<l.length):∃b o,A=some ⟨b,o,none⟩/\b<B/\∀j,j<l.length->w.cell? ⟨b,o+j,none⟩=some (ae ak (l.getD j 0)):=by
 obtain⟨b,o,rfl,hb,hc⟩:=h.2 (by omega);refine⟨b,o,rfl,hb,fun j hj=>hc j _ ?_⟩;rw[rS,List.getElem?_eq_getElem hj,List.getD_eq_getElem?_getD,List.getElem?_eq_getElem hj];rfl
theorem iM.gD{w:au}{base c n:Nat}{A:Option aw}{l:List Int}(h:w.ownsRow base 3 1 (af A n c) n (jj l)):n=l.length/\iM w w.heap.size A l:=by
 have hl:(jj l).length=n*1:=h.1;have e:n=l.length:=by simp[jj]at hl;omega
 subst e;exact⟨rfl,gR.gD h⟩
def gg(l:List Nat):List Int:=l.map fun(x:Nat)=>(x:Int)
theorem oS(l:List Nat):(gg l).length=l.length:=by simp[gg]
theorem wK(l:List Nat)(j:Nat):(gg l).getD j 0=((l.getD j 0:Nat):Int):=by
 unfold gg;rw[List.getD_eq_getElem?_getD,List.getD_eq_getElem?_getD,List.getElem?_map];cases l[j]?<;>rfl
theorem ze{w:au}{base n c:Nat}{e:aC}{A:Option aw}{xs:List ay}(h:w.ownsRow base e 1 (af A n c) n xs):n<=c/\c<=maxLen/\(A=none->n=0/\c=0):=by
 rcases h.2 with⟨hv,h0⟩|⟨g,cap,cur,hv,_,_,h1,h2,_⟩
 ·injection hv with h3 h4 h5
  exact⟨by omega,by unfold maxLen;omega,fun _=>⟨by omega,h5⟩⟩
 ·injection hv with h3 h4 h5
  exact⟨by omega,by omega,fun h=>by rw[h]at h3;cases h3⟩
theorem Kl(w:au)(base:Nat)(A:Option aw)(n c:Nat)(xs:List Int)(ah:w.ownsRow base 3 1 (af A n c) n (jj xs))(x:Int)(hn:n<=1000000)(ad:base<=w.heap.size):
  ∃A' c' w',(Builtin.append_ #[24,24] 24 #[af A n c,af (some ⟨w.heap.size,0,none⟩) 1 1]).run prog (w.alloc (ao #[ae ak x] 3))=.ok (af A' (n+1) c') w'/\
   w'.ownsRow base 3 1 (af A' (n+1) c') (n+1) (jj (xs++[x]))/\aS base w w':=by
 have al:aS base w (w.alloc (ao #[ae ak x] 3)):=(Below.refl base w).alloc ad _
 obtain⟨A',c',w',h2,o2,b2⟩:=uH (z:=ae ak 0) (kI:=8) underlying24 Dk rfl (by decide) (w.alloc (ao #[ae ak x] 3)) base _ (af A n c) n _ (ah.alloc _) _ 1 1 _
  (gR.new w 1 1 #[ae ak x] 3 rfl) (fun u hu=>by simp at hu;subst hu;rfl) (by unfold maxLen;omega) (by omega) 24 (fun h=>by cases h) (Nat.le_trans ad al.size)
 refine⟨A',c',w',h2,?_,al.trans b2⟩
 have e:jj xs++(#[Value.int ak x]:Array ay).toList=jj (xs++[x]):=by simp[jj]
 rw[e]at o2
 exact o2
theorem Km(w:au)(l:List Int)(cs:Array ay)(h:cs.toList=jj l):iM (w.alloc (ao cs 3)) (w.alloc (ao cs 3)).heap.size (some ⟨w.heap.size,0,none⟩) l:=by
 have h1:=gR.new w 1 l.length cs 3 (by rw[<-Array.length_toList,h];simp[jj]);rw[h]at h1;exact h1
theorem Kn{w w':au}{base:Nat}{e:aC}{size:Nat}{v:ay}{n:Nat}{xs:List ay}(h:w.ownsRow base e size v n xs)(hh:∀g,base<=g->w'.heap[g]?=w.heap[g]?):w'.ownsRow base e size v n xs:=by
 obtain⟨h1,h2⟩:=h;refine⟨h1,?_⟩;rcases h2 with h2|⟨g,cap,cur,hv,hg,hb,r⟩
 ·exact .inl h2
 ·exact .inr ⟨g,cap,cur,hv,hg,(hh g hg).trans hb,r⟩
theorem lZ{w:au}{base ad:Nat}{e:aC}{size:Nat}{v:ay}{n:Nat}{xs:List ay}(h:w.ownsRow base e size v n xs)(hb:ad<=base):w.ownsRow ad e size v n xs:=by
 obtain⟨h1,h2⟩:=h;refine⟨h1,?_⟩;rcases h2 with h2|⟨g,cap,cur,hv,hg,r⟩
 ·exact .inl h2
 ·exact .inr ⟨g,cap,cur,hv,by omega,r⟩
def fy(l:List Int)(j:Nat):Nat:=(l.getD j 0).toNat
def qV(x:Int):Bool:=decide (x<0\/1073741824<x)
def qW(l:List Int)(k:Nat):Bool:=decide (∃j,j<k/\qV (l.getD j 0)=true)
def mM(l:List Int)(fh:Int):Int:=
 if fh<1\/15<fh then 2 else if 320<l.length then 4 else if qW l l.length=true then 2 else if 2^fh.toNat<nI (fy l) l.length then 4 else 0
theorem wL{l:List Int}{k n:Nat}(hk:k<n)(h:qV (l.getD k 0)=true):qW l n=true:=decide_eq_true ⟨k,hk,h⟩
theorem Ko{l:List Int}{n:Nat}(h:∀j,j<n->qV (l.getD j 0)=false):qW l n=false:=by
 apply decide_eq_false;rintro⟨j,hj,h2⟩;rw[h j hj]at h2;cases h2
theorem Kq{x:Int}(h1:0<=x)(h2:x<=1073741824):qV x=false:=decide_eq_false (by omega)
theorem zf{n M:Nat}{w:Nat->Nat}(hM:∀i,i<n->w i<=M):∀k t,t<UU n k->gQ n w k t<=2^k*M
 |0,t,h=>by have:=hM t h;simpa[gQ]using this
 |k+1,t,h=>by
  have al:=rP (n:=n) (m:=UU n k/2) (w:=w) (p:=iQ (gQ n w k)) t (by have:UU n (k+1)=n+UU n k/2:=rfl;omega);have hlen:UU n (k+1)=n+UU n k/2:=rfl;have ah:=rP (n:=n) (m:=UU n k/2) (w:=w) (p:=iQ (gQ n w k)) (t+1) (by omega);have ad:M<=2^(k+1)*M:=Nat.le_mul_of_pos_left _ (Nat.two_pow_pos _);have hs:UX n (UU n k/2) w (iQ (gQ n w k)) (t+1)=if kh n (UU n k/2) w (iQ (gQ n w k)) (UX n (UU n k/2) w (iQ (gQ n w k)) t) (t-UX n (UU n k/2) w (iQ (gQ n w k)) t)=true then UX n (UU n k/2) w (iQ (gQ n w k)) t+1 else UX n (UU n k/2) w (iQ (gQ n w k)) t:=rfl
  have er:gQ n w (k+1) t=nQ n (UU n k/2) w (iQ (gQ n w k)) t:=rfl;rw[er];unfold nQ;by_cases hc:kh n (UU n k/2) w (iQ (gQ n w k)) (UX n (UU n k/2) w (iQ (gQ n w k)) t) (t-UX n (UU n k/2) w (iQ (gQ n w k)) t)=true
  ·rw[if_pos hc]at hs⊢;exact Nat.le_trans (hM _ (by omega)) ad
  ·rw[if_neg hc]at hs⊢;have h1:=zf hM k (2*(t-UX n (UU n k/2) w (iQ (gQ n w k)) t)) (by omega);have h2:=zf hM k (2*(t-UX n (UU n k/2) w (iQ (gQ n w k)) t)+1) (by omega);have h3:iQ (gQ n w k) (t-UX n (UU n k/2) w (iQ (gQ n w k)) t)=gQ n w k (2*(t-UX n (UU n k/2) w (iQ (gQ n w k)) t))+gQ n w k (2*(t-UX n (UU n k/2) w (iQ (gQ n w k)) t)+1):=rfl;rw[h3,Nat.pow_succ,Nat.mul_comm (2^k) 2,Nat.mul_assoc];omega
theorem uI{ops:Array aB}{o:aB}{a:Act}{w:au}{K:Act->au->Prop}{Q:Exit->Act->au->Prop}{E:Prop}(ad:o.guard=none)(s x:Operand)(t tn:aC)
  (ho:o.op=.call {callee:=.builtin .append,args:=#[s,x],argTypes:=#[t,tn]}) (vs vx:ay) (hs:a.eval s=vs) (hx:a.eval x=vx)
  (v':ay) (w':au) (hr:(Builtin.append_ #[t,tn] o.type #[vs,vx]).run prog w=.ok v' w') (h:K (a.put o.dst v') w'):
  if Region.wanted o (aN ops a.tmps)=true then Oper.wp prog o a w K Q else E:=by
 have hw:Region.wanted o (aN ops a.tmps)=true:=by simp[Region.wanted,ad]
 rw[if_pos hw]
 exact Go.Lib.wp_append_run w s x t tn ho vs vx hs hx v' w' hr h
theorem wM(w:au)(n:Nat):jx (w.alloc (ao (aK #[ae .u8 0] n) 5)) w.heap.size n (fun _=>0):=by
 refine⟨_,aH w _,fun j hj=>?_⟩;unfold aK;have e1:j%1=0:=by omega
 simp[hj,e1]
theorem Kr(n:Nat)(h:n<=1000):∀u:au,(Instr.makeSlice 22 (ae ak (n:Int)) (ae ak (n:Int))).run prog u=
   .ok (af (some ⟨u.heap.size,0,none⟩) n n) (u.alloc (ao (aK #[ae .u8 0] n) 5)):=fun u=>by
 obtain⟨i0,hi,ad,ah,al⟩:=info_parts ox
 have h:=run_make (P:=prog) u 22 5 i0 (ae .u8 0) underlying22 hi ad ak ak (n:Int) (n:Int) (by omega) (Int.le_refl _) (by rw[al];omega) (by omega)
 rw[Int.toNat_natCast]at h
 simpa[ah,Value.cells]using h
theorem Dl{n:Nat}(h2:2<=n)(hn:n<=400)(K:Nat):UU n K<=800/\n+UU n K/2<=900:=by
 have:=yW (n:=n) (by omega) K;omega
theorem Ks{F:Nat->Nat}{N L i:Nat}(h0:nI F N=0)(hi:i<N):iE F N L i=0:=by
 unfold iE;by_cases h:0<F i
 ·have:=Dj hi h;omega
 ·rw[if_pos (by omega)]
theorem Kt{F:Nat->Nat}{N L i:Nat}(h1:nI F N=1)(hi:i<N):iE F N L i=fK (fun _=>0) ((Vc F N).getD 0 0) 1 i:=by
 unfold iE fK;have hr:=qk (F:=F) (n:=N) (r:=0) (by omega);by_cases h:0<F i
 ·rw[if_neg (by omega),if_pos h1];have h2:=s8 hi h;have h3:qj F N i=0:=by omega
  rw[h3]at h2;rw[if_pos h2.2.symm]
 ·rw[if_pos (by omega),if_neg];intro e;rw[e]at h;omega
theorem Dm{l:List Int}{fh:Int}(h:mM l fh=0):1<=fh/\fh<=15/\l.length<=320/\(∀j,j<l.length->0<=l.getD j 0/\l.getD j 0<=1073741824)/\nI (fy l) l.length<=2^fh.toNat:=by
 unfold mM at h;split at h
 ·cases h
 ·split at h
  ·cases h
  ·split at h
   ·cases h
   ·rename_i h1 h2 h3;split at h
    ·cases h
    ·refine⟨by omega,by omega,by omega,fun j hj=>?_,by omega⟩;have h4:¬qV (l.getD j 0)=true:=fun hb=>h3 (wL hj hb)
     have h5:=of_decide_eq_false (Bool.not_eq_true _▸h4);omega
theorem Ku(w:au)(n k:Nat):jx (w.alloc (ao ((aK #[ae .u8 0] n).setIfInBounds k (ae .u8 1)) 5)) w.heap.size n (fK (fun _=>0) k 1):=by
 refine⟨_,aH w _,fun j hj=>?_⟩;have e1:j%1=0:=by omega
 simp only[Array.getElem?_setIfInBounds,fK,size_madeCells];by_cases e:j=k
 ·subst e;rw[if_pos rfl,if_pos hj,if_pos rfl];rfl
 ·rw[if_neg (fun h=>e h.symm),if_neg e];unfold aK;simp[hj,e1]
def pF(l:List Int)(fh:Int):Nat:=if mM l fh=0 then l.length else 0
def ng(l:List Int)(fh:Int)(j:Nat):Nat:=if mM l fh=0 then iE (fy l) l.length fh.toNat j else 0
theorem uJ(l:List Int)(fh:Int)(j:Nat):ng l fh j<256:=by
 unfold ng;split
 ·rename_i h;obtain⟨h1,h2,_⟩:=Dm h;have:=zd (fy l) (n:=l.length) (L:=fh.toNat) (by omega) j;omega
 ·omega
def pt(m:Nat):Nat:=32768/2^m
theorem pG{a b:Nat}(h:a<=b)(hb:b<=15):pt a=pt b*2^(b-a):=by
 unfold pt;have e:(32768:Nat)=2^(15-b)*2^b:=by rw[<-Nat.pow_add,show 15-b+b=15 by omega]
 have e2:(2:Nat)^b=2^(b-a)*2^a:=by rw[<-Nat.pow_add,show b-a+a=b by omega]
 have ha:0<2^a:=Nat.two_pow_pos a;have ad:0<2^b:=Nat.two_pow_pos b;rw[e,Nat.mul_div_cancel _ ad];rw[e2,<-Nat.mul_assoc,Nat.mul_div_cancel _ ha]
theorem qX{m:Nat}(h:m<=15):0<pt m:=by
 have:=pG h (Nat.le_refl 15);rw[this];exact Nat.mul_pos (by decide) (Nat.two_pow_pos _)
theorem Kv{a b:Nat}(h:a<=b)(hb:b<=15):pt b∣pt a:=⟨2^(b-a),pG h hb⟩
def UY(f:Nat->Nat):Nat->Nat
 |0=>0
 |n+1=>UY f n+if 0<f n then pt (f n)else 0
def gy(f:Nat->Nat):Nat->Nat
 |0=>0
 |n+1=>gy f n+if 0<f n then 1 else 0
def iW(f:Nat->Nat)(m:Nat):Nat->Nat
 |0=>0
 |n+1=>iW f m n+if f n=m then pt m else 0
def ia(f:Nat->Nat)(n:Nat):Nat->Nat
 |0=>0
 |m+1=>ia f n m+iW f (m+1) n
def kV(f:Nat->Nat)(n m i:Nat):Nat:=ia f n (m-1)+iW f m i
def gG(f:Nat->Nat)(n i:Nat):Nat:=if f i=0 then 0 else kV f n (f i) i/pt (f i)
theorem Kw(f:Nat->Nat)(m:Nat){a b:Nat}(h:a<=b):iW f m a<=iW f m b:=by
 induction b with
 |zero=>rw[show a=0 by omega];exact Nat.le_refl _
 |succ b ih=>
  rcases Nat.eq_or_lt_of_le h with h|h
  ·subst h;exact Nat.le_refl _
  ·exact Nat.le_trans (ih (by omega)) (Nat.le_add_right _ _)
theorem Dn{f:Nat->Nat}{m a b:Nat}(h:a<b)(hf:f a=m):iW f m a+pt m<=iW f m b:=by
 have:=Kw f m (show a+1<=b by omega);simp only[iW,hf,if_true]at this;exact this
theorem zg(f:Nat->Nat)(n:Nat){a b:Nat}(h:a<=b):ia f n a<=ia f n b:=by
 induction b with
 |zero=>rw[show a=0 by omega];exact Nat.le_refl _
 |succ b ih=>
  rcases Nat.eq_or_lt_of_le h with h|h
  ·subst h;exact Nat.le_refl _
  ·exact Nat.le_trans (ih (by omega)) (Nat.le_add_right _ _)
theorem Dp(f:Nat->Nat)(n:Nat):∀M,ia f (n+1) M=ia f n M+if 0<f n/\f n<=M then pt (f n)else 0
 |0=>by rw[if_neg (by omega)];rfl
 |M+1=>by
  simp only[ia,iW];rw[Dp f n M];by_cases h1:f n=M+1
  ·rw[if_pos h1,if_neg (by omega),if_pos (by omega),h1];omega
  ·by_cases h2:0<f n/\f n<=M
   ·rw[if_neg h1,if_pos h2,if_pos (by omega)];omega
   ·rw[if_neg h1,if_neg h2,if_neg (by omega)];omega
theorem Dq(f:Nat->Nat):∀M,ia f 0 M=0
 |0=>rfl
 |M+1=>by simp only[ia,iW];rw[Dq f M]
theorem uK(f:Nat->Nat):∀n,(∀j,j<n->f j<=15)->UY f n=ia f n 15
 |0,_=>(Dq f 15).symm
 |n+1,h=>by
  rw[Dp,<-uK f n (fun j hj=>h j (by omega))];simp only[UY];have:=h n (by omega);by_cases h1:0<f n
  ·rw[if_pos h1,if_pos ⟨h1,this⟩]
  ·rw[if_neg h1,if_neg (fun g=>h1 g.1)]
theorem zh{f:Nat->Nat}{n m i:Nat}(hi:i<n)(hf:f i=m)(hm:0<m):kV f n m i+pt m<=ia f n m:=by
 obtain⟨k,rfl⟩:∃k,m=k+1:=⟨m-1,by omega⟩;have:=Dn hi hf;unfold kV;rw[Nat.add_sub_cancel];simp only[ia];omega
theorem Kx{f:Nat->Nat}{n i:Nat}(hi:i<n)(h:∀j,j<n->f j<=15)(hp:0<f i):kV f n (f i) i+pt (f i)<=UY f n:=by
 rw[uK f n h];exact Nat.le_trans (zh hi rfl hp) (zg f n (h i hi))
theorem zi{f:Nat->Nat}{n i k:Nat}(hi:i<n)(ad:0<f i)(h:f i<f k\/f i=f k/\i<k):kV f n (f i) i+pt (f i)<=kV f n (f k) k:=by
 rcases h with h|⟨h,h2⟩
 ·have h1:=zh hi rfl ad;have h2:=zg f n (show f i<=f k-1 by omega);unfold kV at h1⊢;omega
 ·have h1:=Dn (f:=f) h2 rfl;unfold kV;rw[<-h];omega
theorem zj(f:Nat->Nat)(m:Nat):∀n,pt m∣iW f m n
 |0=>⟨0,rfl⟩
 |n+1=>by
  simp only[iW];refine Nat.dvd_add (zj f m n) ?_;split
  ·exact Nat.dvd_refl _
  ·exact⟨0,rfl⟩
theorem Dr(f:Nat->Nat)(n:Nat){b:Nat}(hb:b<=15):∀m,m<=b->pt b∣ia f n m
 |0,_=>⟨0,rfl⟩
 |m+1,h=>Nat.dvd_add (Dr f n hb m (by omega)) (Nat.dvd_trans (Kv h hb) (zj f (m+1) n))
theorem Ky(f:Nat->Nat)(n i:Nat){m:Nat}(hm:m<=15):pt m∣kV f n m i:=
 Nat.dvd_add (Dr f n hm (m-1) (by omega)) (zj f m i)
theorem uL{f:Nat->Nat}{n i:Nat}(hp:0<f i)(h:f i<=15):gG f n i*pt (f i)=kV f n (f i) i:=by
 unfold gG;rw[if_neg (by omega)];exact Nat.div_mul_cancel (Ky f n i h)
theorem Dt(f:Nat->Nat)(m:Nat):∀n r,r<iW f m n->∃i,i<n/\f i=m/\iW f m i<=r/\r<iW f m i+pt m
 |0,r,h=>by simp[iW]at h
 |n+1,r,h=>by
  by_cases h1:r<iW f m n
  ·obtain⟨i,hi,h2,h3⟩:=Dt f m n r h1;exact⟨i,by omega,h2,h3⟩
  ·simp only[iW]at h;split at h
   ·rename_i hf;exact⟨n,by omega,hf,by omega,h⟩
   ·omega
theorem Du(f:Nat->Nat)(n:Nat):∀M r,r<ia f n M->∃i,i<n/\0<f i/\f i<=M/\kV f n (f i) i<=r/\r<kV f n (f i) i+pt (f i)
 |0,r,h=>by simp[ia]at h
 |M+1,r,h=>by
  by_cases h1:r<ia f n M
  ·obtain⟨i,hi,h2,h3,h4⟩:=Du f n M r h1;exact⟨i,hi,h2,by omega,h4⟩
  ·simp only[ia]at h;obtain⟨i,hi,hf,h2,h3⟩:=Dt f (M+1) n (r-ia f n M) (by omega);refine⟨i,hi,by omega,by omega,?_,?_⟩<;>(unfold kV;rw[hf,Nat.add_sub_cancel];omega)
def mm(f:Nat->Nat)(n:Nat)(fh:Int):Bool:=decide (∃j,j<n/\fh<(f j:Int))
def oT(all used:Nat):Int:=if 32768<all then 30 else if all=32768\/used=0\/(used=1/\all=16384)then 0 else 31
def fD(f:Nat->Nat)(n:Nat)(fh:Int):Int:=
 if fh<1\/15<fh then 2 else if 320<n then 4 else if mm f n fh=true then 2 else oT (UY f n) (gy f n)
theorem Kz{f:Nat->Nat}{n:Nat}{fh:Int}(h:mm f n fh=false):∀j,j<n->(f j:Int)<=fh:=by
 intro j hj;have:=of_decide_eq_false h;have h2:¬(fh<(f j:Int)):=fun g=>this ⟨j,hj,g⟩
 omega
theorem lk{f:Nat->Nat}{n:Nat}{fh:Int}(h:fD f n fh=0):
  1<=fh/\fh<=15/\n<=320/\(∀j,j<n->(f j:Int)<=fh)/\UY f n<=32768/\(UY f n=32768\/gy f n=0\/(gy f n=1/\UY f n=16384)):=by
 unfold fD at h
 by_cases h1:fh<1\/15<fh
 ·rw[if_pos h1]at h;cases h
 ·rw[if_neg h1]at h;by_cases h2:320<n
  ·rw[if_pos h2]at h;cases h
  ·rw[if_neg h2]at h;cases h3:mm f n fh with
   |true=>rw[h3,if_pos rfl]at h;cases h
   |false=>
    rw[h3,if_neg (by decide)]at h;unfold oT at h;by_cases h4:32768<UY f n
    ·rw[if_pos h4]at h;cases h
    ·rw[if_neg h4]at h;by_cases h5:UY f n=32768\/gy f n=0\/(gy f n=1/\UY f n=16384)
     ·exact⟨by omega,by omega,by omega,Kz h3,by omega,h5⟩
     ·rw[if_neg h5]at h;cases h
def wN(x lx y ly:Nat):Bool:=decide (0<lx/\lx<=ly/\y/2^(ly-lx)=x)
theorem wO{f:Nat->Nat}{n i:Nat}(hi:i<n)(h:∀j,j<n->f j<=15)(ha:UY f n<=32768):gG f n i<2^f i:=by
 by_cases h0:0<f i
 ·have h1:=Kx hi h h0;have h2:=uL (n:=n) h0 (h i hi);have h3:=pG (h i hi) (Nat.le_refl 15);have h4:pt (f i)*2^f i=32768:=by
   rw[h3,show pt 15=1 from rfl,Nat.one_mul,<-Nat.pow_add,show 15-f i+f i=15 by have:=h i hi;omega]
  have hp:=qX (h i hi);rw[<-h2]at h1;refine Nat.lt_of_mul_lt_mul_right (a:=pt (f i)) ?_;rw[Nat.mul_comm (2^f i),h4];omega
 ·have:f i=0:=by omega
  unfold gG;rw[if_pos this,this];decide
theorem Dv{f:Nat->Nat}{n i k:Nat}(hi:i<n)(hk:k<n)(h:∀j,j<n->f j<=15)(av:i≠k):wN (gG f n i) (f i) (gG f n k) (f k)=false:=by
 unfold wN;apply decide_eq_false;rintro⟨h0,h1,h2⟩;have ad:0<f k:=by omega
 have e1:=uL (n:=n) h0 (h i hi);have e2:=uL (n:=n) ad (h k hk);have aT:=qX (h k hk);have hm:=pG h1 (h k hk);have hq:=Nat.div_mul_le_self (gG f n k) (2^(f k-f i));have ah:=Nat.lt_div_mul_add (Nat.two_pow_pos (f k-f i)) (a:=gG f n k);rw[h2]at hq ah;have h3:kV f n (f i) i<=kV f n (f k) k:=by
  rw[<-e1,<-e2,hm,Nat.mul_comm (pt (f k)),<-Nat.mul_assoc];exact Nat.mul_le_mul_right _ hq
 have h4:kV f n (f k) k<kV f n (f i) i+pt (f i):=by
  rw[<-e1,<-e2,hm,Nat.mul_comm (pt (f k)),<-Nat.mul_assoc,<-Nat.add_mul];exact Nat.mul_lt_mul_of_pos_right ah aT
 rcases Nat.lt_trichotomy i k with al|he|al
 ·have:=zi (n:=n) hi h0 (k:=k) (by omega);omega
 ·exact av he
 ·rcases Nat.eq_or_lt_of_le h1 with he|hl
  ·have:=zi (n:=n) hk ad (k:=i) (.inr ⟨he.symm,al⟩);omega
  ·have:=zi (n:=n) hi h0 (k:=k) (.inl hl);omega
theorem Dw(f:Nat->Nat):∀n,gy f n<=n
 |0=>Nat.le_refl _
 |n+1=>by have:=Dw f n;simp only[gy];split<;>omega
theorem Dx{f:Nat->Nat}:∀n,gy f n=0->∀j,j<n->f j=0
 |0,_,j,hj=>by omega
 |n+1,h,j,hj=>by
  simp only[gy]at h;have h1:¬0<f n:=fun g=>by rw[if_pos g]at h;omega
  rcases Nat.eq_or_lt_of_le (Nat.le_of_lt_succ hj)with e|e
  ·subst e;omega
  ·exact Dx n (by omega) j e
theorem zl{f:Nat->Nat}{n:Nat}{fh:Int}(h:∀j,j<n->(f j:Int)<=fh):mm f n fh=false:=by
 apply decide_eq_false;rintro⟨j,hj,hl⟩;have:=h j hj;omega
theorem KA{f:Nat->Nat}{n k:Nat}{fh:Int}(hk:k<n)(h:fh<(f k:Int)):mm f n fh=true:=decide_eq_true ⟨k,hk,h⟩
def qY(f:Nat->Nat)(n:Nat)(fh:Int):Nat:=if fD f n fh=0 then n else 0
theorem KB{f:Nat->Nat}{n:Nat}{fh:Int}(h:fD f n fh=0)(j:Nat)(hj:j<n):gG f n j<4294967296:=by
 obtain⟨_,ad,_,hb,ha,_⟩:=lk h;have:=wO hj (fun j hj=>by have:=hb j hj;omega) ha;have h2:(2:Nat)^f j<=2^15:=Nat.pow_le_pow_right (by omega) (by have:=hb j hj;omega);have h3:(2:Nat)^15=32768:=rfl;omega
def zm(f:Nat->Nat)(n:Nat)(fh:Int)(j:Nat):Nat:=if fD f n fh=0/\j<n then gG f n j else 0
theorem Dy{f:Nat->Nat}{n:Nat}{fh:Int}(h:fD f n fh=0)(j:Nat)(hj:j<n):zm f n fh j=gG f n j:=by
 unfold zm;rw[if_pos ⟨h,hj⟩]
def Dz(l:List Int)(f:Nat->Nat)(fh:Int)(k:Nat):Bool:=decide (∃j,j<k/\(fh<(f j:Int)\/(f j=0/\0<l.getD j 0)))
def KC(l:List Int)(n:Nat)(f:Nat->Nat)(fh:Int):Bool:=decide (n=l.length/\Dz l f fh n=false/\nc 15 f n<=32768)
theorem KD{l:List Int}{f:Nat->Nat}{fh:Int}{k:Nat}(h:∀j,j<k->¬(fh<(f j:Int)\/(f j=0/\0<l.getD j 0))):Dz l f fh k=false:=decide_eq_false fun⟨j,hj,h2⟩=>h j hj h2
theorem DA{f:Nat->Nat}{L:Nat}(hL:L<=15):∀n,(∀i,i<n->f i<=L)->nc 15 f n=nc L f n*2^(15-L)
 |0,_=>by simp[nc,Vh]
 |n+1,h=>by
  have ih:=DA hL n (fun i hi=>h i (by omega));have e1:nc 15 f (n+1)=nc 15 f n+if 0<f n then 2^(15-f n)else 0:=rfl
  have e2:nc L f (n+1)=nc L f n+if 0<f n then 2^(L-f n)else 0:=rfl
  have hn:=h n (by omega);rw[e1,e2,ih,Nat.add_mul];split
  ·rw[<-Nat.pow_add,show L-f n+(15-L)=15-f n by omega]
  ·rw[Nat.zero_mul]
theorem DB{f:Nat->Nat}:∀n,(∀i,i<n->f i<=15)->UY f n=nc 15 f n
 |0,_=>rfl
 |n+1,h=>by
  have ih:=DB n (fun i hi=>h i (by omega));have e1:nc 15 f (n+1)=nc 15 f n+if 0<f n then 2^(15-f n)else 0:=rfl
  have hn:=h n (by omega);have hp:pt (f n)=2^(15-f n):=by rw[pG hn (Nat.le_refl 15),show pt 15=1 from rfl,Nat.one_mul]
  simp only[UY];rw[ih,e1,hp]
theorem DC{F f:Nat->Nat}:∀n,(∀i,i<n->(0<f i↔0<F i))->gy f n=nI F n
 |0,_=>rfl
 |n+1,h=>by
  have ih:=DC n (fun i hi=>h i (by omega));have hn:=h n (by omega);have e:nI F (n+1)=nI F n+if 0<F n then 1 else 0:=rfl
  simp only[gy];rw[ih,e];by_cases g:0<F n
  ·rw[if_pos g,if_pos (hn.2 g)]
  ·rw[if_neg g,if_neg (fun x=>g (hn.1 x))]
theorem zn{l:List Int}{fh:Int}(h:mM l fh=0):KC l l.length (ng l fh) fh=true/\fD (ng l fh) l.length fh=0/\(∀j,j<l.length->ng l fh j=iE (fy l) l.length fh.toNat j):=by
 obtain⟨h1,h2,h3,h4,h5⟩:=Dm h;obtain⟨L,rfl⟩:=Int.eq_ofNat_of_zero_le (show 0<=fh by omega);rw[Int.toNat_natCast]at h5;have e:ng l (L:Int)=iE (fy l) l.length L:=by funext j;unfold ng;rw[if_pos h,Int.toNat_natCast]
 rw[e];have hle:∀i,iE (fy l) l.length L i<=L:=fun i=>zd (fy l) (n:=l.length) (L:=L) (by omega) i
 have hz:∀i,fy l i=0->iE (fy l) l.length L i=0:=fun i hi=>by unfold iE;rw[if_pos hi]
 have ad:∀i,i<l.length->(0<iE (fy l) l.length L i↔0<fy l i):=fun i hi=>by
  constructor
  ·intro g;rcases Nat.eq_zero_or_pos (fy l i)with h0|h0
   ·rw[hz i h0]at g;omega
   ·exact h0
  ·intro g;exact(zc (F:=fy l) (by omega) h5 hi g).1
 have hc:=Kj (F:=fy l) (n:=l.length) (L:=L) (by omega) h5;have av:=DA (f:=iE (fy l) l.length L) (L:=L) (by omega) l.length (fun i _=>hle i);have hp:(2:Nat)^L*2^(15-L)=32768:=by rw[<-Nat.pow_add,show L+(15-L)=15 by omega]
 have aT:(2:Nat)^(L-1)*2^(15-L)=16384:=by rw[<-Nat.pow_add,show L-1+(15-L)=14 by omega]
 have ah:=DB (f:=iE (fy l) l.length L) l.length (fun i _=>Nat.le_trans (hle i) (by omega));have aU:=DC (F:=fy l) (f:=iE (fy l) l.length L) l.length ad;have al:nc 15 (iE (fy l) l.length L) l.length=if 2<=nI (fy l) l.length then 32768 else if nI (fy l) l.length=1 then 16384 else 0:=by
  rw[av,hc];split
  ·exact hp
  ·split
   ·exact aT
   ·exact Nat.zero_mul _
 refine⟨?_,?_,fun j _=>by rw[Int.toNat_natCast]⟩
 ·refine decide_eq_true ⟨rfl,KD fun j hj g=>?_,by rw[al];split<;>(try split)<;>omega⟩;have h6:=hle j;have h7:=ad j hj;have hf:fy l j=(l.getD j 0).toNat:=rfl;rcases g with g|⟨g1,g2⟩
  ·omega
  ·omega
 ·unfold fD;rw[if_neg (by omega),if_neg (by omega)];have hb:mm (iE (fy l) l.length L) l.length (L:Int)=false:=decide_eq_false fun⟨j,_,hl⟩=>by have:=hle j;omega
  rw[hb,if_neg (by decide),ah,aU,al];unfold oT;by_cases g2:2<=nI (fy l) l.length
  ·rw[if_pos g2,if_neg (by omega),if_pos (.inl rfl)]
  ·rw[if_neg g2];by_cases g1:nI (fy l) l.length=1
   ·rw[if_pos g1,if_neg (by omega),if_pos (.inr (.inr ⟨g1,rfl⟩))]
   ·rw[if_neg g1,if_neg (by omega),if_pos (.inr (.inl (by omega)))]
def Vi(x:Nat):List Nat->Nat
 |[]=>0
 |y::l=>if y=x then Vi x l+1 else 0
theorem wP(x:Nat):∀l,Vi x l<=l.length
 |[]=>Nat.le_refl _
 |y::l=>by
  have:=wP x l;simp only[Vi,List.length_cons];split<;>omega
theorem zo(x:Nat):∀l k,k<=Vi x l->l.take k=List.replicate k x
 |[],k,h=>by simp[Vi]at h;subst h;rfl
 |y::l,0,_=>rfl
 |y::l,k+1,h=>by
  simp only[Vi]at h;by_cases e:y=x
  ·rw[if_pos e]at h;rw[List.take_succ_cons,List.replicate_succ,zo x l k (by omega),e]
  ·rw[if_neg e]at h;omega
def iX(prev:Option Nat)(x:Nat)(n:Nat):(Int×Int)×Nat:=
 if x=0/\11<=n then((18,(min n 138-11:Nat)),min n 138)
 else if x=0/\3<=n then((17,(n-3:Nat)),n)
 else if x≠0/\prev=some x/\3<=n then((16,(min n 6-3:Nat)),min n 6)
 else((((x:Nat):Int),0),1)
def ofR:Nat->Option Nat->List Nat->List (Int×Int)
 |0,_,_=>[]
 |_+1,_,[]=>[]
 |d+1,prev,x::l=>(iX prev x (Vi x l+1)).1::ofR d (some x) ((x::l).drop (iX prev x (Vi x l+1)).2)
def fI(s:Int):Nat:=if s=16 then 2 else if s=17 then 3 else if s=18 then 7 else 0
def gM(s x:Int):Nat:=if s=16\/s=17 then x.toNat+3 else if s=18 then x.toNat+11 else 1
def nS(s:Int)(out:List Nat):Nat:=if s=16 then out.getLast?.getD 0 else if s<16 then s.toNat else 0
def Vq(n:Nat):List (Int×Int)->List Nat->Int×List Nat
 |[],out=>if out.length=n then(0,out)else(100,[])
 |(s,x)::rs,out=>if s<0\/18<s\/x<0\/(2^fI s:Nat)<=x then(8,[])else
   if(s=16/\out=[])\/n<out.length+gM s x then(100,[])else Vq n rs (out++List.replicate (gM s x) (nS s out))
theorem s9(prev:Option Nat)(x n:Nat)(hx:x<=15)(hn:1<=n):1<=(iX prev x n).2/\(iX prev x n).2<=n/\gM (iX prev x n).1.1 (iX prev x n).1.2=(iX prev x n).2/\
  ¬((iX prev x n).1.1<0\/18<(iX prev x n).1.1\/(iX prev x n).1.2<0\/(2^fI (iX prev x n).1.1:Nat)<=(iX prev x n).1.2)/\
  ((iX prev x n).1.1=16->prev=some x)/\((iX prev x n).1.1≠16->(if(iX prev x n).1.1<16 then(iX prev x n).1.1.toNat else 0)=x):=by
 unfold iX
 by_cases h1:x=0/\11<=n
 ·rw[if_pos h1];simp only[gM,fI];refine⟨by omega,by omega,by simp;omega,by simp;omega,by simp,by simp;omega⟩
 ·rw[if_neg h1];by_cases h2:x=0/\3<=n
  ·rw[if_pos h2];simp only[gM,fI];refine⟨by omega,by omega,by simp;omega,by simp;omega,by simp,by simp;omega⟩
  ·rw[if_neg h2];by_cases h3:x≠0/\prev=some x/\3<=n
   ·rw[if_pos h3];simp only[gM,fI];refine⟨by omega,by omega,by simp;omega,by simp;omega,fun _=>h3.2.1,by simp⟩
   ·rw[if_neg h3];simp only[gM,fI];refine⟨by omega,by omega,?_,?_,fun h=>by omega,fun _=>?_⟩
    ·rw[if_neg (by omega),if_neg (by omega)]
    ·rw[if_neg (by omega),if_neg (by omega),if_neg (by omega)];simp;omega
    ·rw[if_pos (by omega)];omega
theorem zp(n:Nat):∀d prev l out,l.length<=d->(∀x∈l,x<=15)->prev=out.getLast?->n=out.length+l.length->Vq n (ofR d prev l) out=(0,out++l)/\(ofR d prev l).length<=l.length
 |0,prev,l,out,hd,_,_,hn=>by
  have:l=[]:=List.length_eq_zero_iff.1 (by omega);subst this;simp only[ofR,Vq];rw[if_pos (by simpa using hn.symm)];simp
 |d+1,prev,[],out,_,_,_,hn=>by
  simp only[ofR,Vq];rw[if_pos (by simpa using hn.symm)];simp
 |d+1,prev,x::l,out,hd,av,hp,hn=>by
  have hx:=av x List.mem_cons_self;obtain⟨h1,h2,h3,h4,h5,h6⟩:=s9 prev x (Vi x l+1) hx (by omega);simp only[ofR];obtain⟨s,hs⟩:=fb ((iX prev x (Vi x l+1)).1.1);obtain⟨e,he⟩:=fb ((iX prev x (Vi x l+1)).1.2);obtain⟨k,hk⟩:=fb ((iX prev x (Vi x l+1)).2);have al:(iX prev x (Vi x l+1)).1=(s,e):=by rw[hs,he]
  rw[<-hs,<-he,<-hk]at h3;rw[<-hs,<-he]at h4;rw[<-hs]at h5 h6;rw[<-hk]at h1 h2⊢;rw[al];have aW:=wP x l;have ad:(x::l).take k=List.replicate k x:=zo x (x::l) k (by simp only[Vi,if_true];exact h2);have aT:nS s out=x:=by
   unfold nS;by_cases ah:s=16
   ·rw[if_pos ah,<-hp,h5 ah];rfl
   ·rw[if_neg ah];exact h6 ah
  have aU:¬((s=16/\out=[])\/n<out.length+gM s e):=by
   rw[h3];simp only[List.length_cons]at hn;rintro(⟨a,b⟩|a)
   ·have:=h5 a;rw[hp,b]at this;cases this
   ·omega
  simp only[Vq];rw[if_neg h4,if_neg aU,h3,aT,<-ad];have hlen:((x::l).drop k).length=l.length+1-k:=by simp
  have aV:((x::l).take k).length=k:=by rw[List.length_take,List.length_cons];omega
  simp only[List.length_cons]at hd hn;have ih:=zp n d (some x) ((x::l).drop k) (out++(x::l).take k) (by omega) (fun y hy=>av y (List.mem_of_mem_drop hy)) (by
   rw[ad];obtain⟨j,rfl⟩:∃j,k=j+1:=⟨k-1,by omega⟩;rw[List.replicate_succ',<-List.append_assoc,List.getLast?_append];simp) (by rw[List.length_append,aV,hlen];omega)
  refine⟨?_,?_⟩
  ·rw[ih.1,List.append_assoc,List.take_append_drop]
  ·have:=ih.2;rw[hlen]at this;simp only[List.length_cons];omega
def iY(f:Nat->Nat)(n a:Nat):List Nat:=((List.range n).map f).drop a
theorem wQ{f:Nat->Nat}{n a:Nat}(h:a<n):iY f n a=f a::iY f n (a+1):=by
 unfold iY;rw[List.drop_eq_getElem_cons (by simpa using h)];simp
theorem DD{f:Nat->Nat}{n a:Nat}(h:n<=a):iY f n a=[]:=List.drop_eq_nil_of_le (by simpa using h)
theorem qZ(f:Nat->Nat)(n a:Nat):(iY f n a).length=n-a:=by simp[iY]
theorem KE(f:Nat->Nat)(n a k:Nat):(iY f n a).drop k=iY f n (a+k):=by unfold iY;rw[List.drop_drop]
def mo(f:Nat->Nat)(n a:Nat):Nat:=Vi (f a) (iY f n (a+1))+1
theorem zq{f:Nat->Nat}{n a x:Nat}(h:a<n)(hx:f a=x):Vi x (iY f n a)=Vi x (iY f n (a+1))+1:=by
 rw[wQ h];simp only[Vi];rw[if_pos hx]
theorem DE{f:Nat->Nat}{n a x:Nat}(h:n<=a\/f a≠x):Vi x (iY f n a)=0:=by
 rcases Nat.lt_or_ge a n with g|g
 ·rw[wQ g];simp only[Vi];rw[if_neg (by omega)]
 ·rw[DD g];rfl
theorem uM{f:Nat->Nat}{n a:Nat}(h:a<n):1<=mo f n a/\a+mo f n a<=n:=by
 have:=wP (f a) (iY f n (a+1));rw[qZ]at this;unfold mo;omega
theorem KF{f:Nat->Nat}{n a:Nat}(h:a<n):∀i,i<mo f n a->f (a+i)=f a:=by
 intro i hi;have h1:=zo (f a) (iY f n a) (mo f n a) (by unfold mo;rw[zq h rfl];exact Nat.le_refl _);have h2:=congrArg (fun l=>l[i]?) h1;simp only[List.getElem?_take,if_pos hi,List.getElem?_replicate]at h2;have hl:=(uM (f:=f) h).2;unfold iY at h2;rw[List.getElem?_drop]at h2;simp[show a+i<n by omega]at h2;exact h2
def mq(f:Nat->Nat)(a:Nat):Option Nat:=if a=0 then none else some (f (a-1))
def lL(f:Nat->Nat)(n a:Nat):(Int×Int)×Nat:=iX (mq f a) (f a) (mo f n a)
theorem DF:∀d d' prev l,l.length<=d->l.length<=d'->(∀x∈l,x<=15)->ofR d prev l=ofR d' prev l
 |0,d',prev,l,h,_,_=>by
  have:l=[]:=List.length_eq_zero_iff.1 (by omega);subst this;cases d'<;>rfl
 |d+1,0,prev,l,_,h,_=>by
  have:l=[]:=List.length_eq_zero_iff.1 (by omega);subst this;rfl
 |d+1,d'+1,prev,[],_,_,_=>rfl
 |d+1,d'+1,prev,x::l,h1,h2,ad=>by
  simp only[ofR];have hs:=s9 prev x (Vi x l+1) (ad x List.mem_cons_self) (by omega);simp only[List.length_cons]at h1 h2;rw[DF d d' (some x) _ (by rw[List.length_drop,List.length_cons];omega) (by rw[List.length_drop,List.length_cons];omega) (fun y hy=>ad y (List.mem_of_mem_drop hy))]
def ki(f:Nat->Nat)(n a:Nat):List (Int×Int):=ofR (n-a) (mq f a) (iY f n a)
theorem KG{f:Nat->Nat}{n a:Nat}(h:n<=a):ki f n a=[]:=by unfold ki;rw[show n-a=0 by omega];rfl
theorem zr{f:Nat->Nat}{n a:Nat}(h:a<n)(ad:∀i,i<n->f i<=15):ki f n a=(lL f n a).1::ki f n (a+(lL f n a).2)/\1<=(lL f n a).2/\a+(lL f n a).2<=n:=by
 obtain⟨g1,g2,_⟩:=s9 (mq f a) (f a) (mo f n a) (ad a h) (uM (f:=f) h).1;have hl:=(uM (f:=f) h).2;have e:iX (mq f a) (f a) (mo f n a)=lL f n a:=rfl;rw[e]at g1 g2;refine⟨?_,g1,by omega⟩;unfold ki;rw[show n-a=(n-(a+1))+1 by omega,wQ h];simp only[ofR];have e2:iX (mq f a) (f a) (Vi (f a) (iY f n (a+1))+1)=lL f n a:=rfl;rw[e2,<-wQ h,KE];have hp:mq f (a+(lL f n a).2)=some (f a):=by
  unfold mq;rw[if_neg (by omega)];have:=KF (f:=f) h ((lL f n a).2-1) (by omega);rw[show a+(lL f n a).2-1=a+((lL f n a).2-1) by omega,this]
 rw[hp,DF (n-(a+1)) (n-(a+(lL f n a).2)) _ _ (by rw[qZ];omega) (by rw[qZ];omega)];intro x hx;unfold iY at hx;have hx:=List.mem_of_mem_drop hx;rw[List.mem_map]at hx;obtain⟨i,hi,rfl⟩:=hx;exact ad i (List.mem_range.1 hi)
def rT(f:Nat->Nat)(n:Nat):Int:=if 320<n then 4 else if∀i,i<n->f i<=15 then 0 else 2
def wR(f:Nat->Nat)(n:Nat):List (Int×Int):=if rT f n=0 then ki f n 0 else[]
def ll(s:Int):Int:=if 0<=s/\s<=18 then 0 else 2
def iR(s:Int):Int:=if 0<=s/\s<=18 then(fI s:Nat)else 0
def nh(l:List (Int×Int))(n:Int):Int×List Nat:=if n<0\/320<n then(2,[])else Vq n.toNat l []
def atN(T:Nat->Nat)(n:Nat):Nat->Nat
 |0=>0
 |k+1=>if T k<=n then k else atN T n k
theorem wS{T:Nat->Nat}{n:Nat}(h0:T 0<=n):∀k,0<k->atN T n k<k/\T (atN T n k)<=n/\∀j,atN T n k<j->j<k->n<T j
 |0,h=>absurd h (by omega)
 |k+1,_=>by
  simp only[atN];by_cases h:T k<=n
  ·rw[if_pos h];exact⟨by omega,h,fun j h1 h2=>by omega⟩
  ·rw[if_neg h];rcases Nat.eq_zero_or_pos k with e|e
   ·subst e;exact absurd h0 h
   ·obtain⟨h1,h2,h3⟩:=wS h0 k e;refine⟨by omega,h2,fun j g1 g2=>?_⟩;rcases Nat.eq_or_lt_of_le (Nat.le_of_lt_succ g2)with e2|e2
    ·subst e2;omega
    ·exact h3 j g1 e2
theorem KH{T:Nat->Nat}{n i k:Nat}(hk:i<k)(h1:T i<=n)(h2:∀j,i<j->j<k->n<T j):atN T n k=i:=by
 induction k with
 |zero=>omega
 |succ k ih=>
  simp only[atN];rcases Nat.eq_or_lt_of_le (Nat.le_of_lt_succ hk)with e|e
  ·subst e;rw[if_pos h1]
  ·rw[if_neg (by have:=h2 k e (by omega);omega)];exact ih e (fun j g1 g2=>h2 j g1 (by omega))
structure pH (T X:Nat->Nat) (N hi:Nat):Prop where
 pos:0<N
 up:∀i,i+1<N->T i<T (i+1)/\T (i+1)<=T i+2^X i
 last:T (N-1)<=hi/\hi<T (N-1)+2^X (N-1)
theorem pH.mono{T X:Nat->Nat}{N hi:Nat}(h:pH T X N hi){i:Nat}:∀d,i+d<N->T i+d<=T (i+d)
 |0,_=>Nat.le_refl _
 |d+1,hd=>by
  have:=h.mono (i:=i) d (by omega);have:=(h.up (i+d) (by omega)).1;rw[Nat.add_assoc]at this;omega
theorem pH.lt{T X:Nat->Nat}{N hi:Nat}(h:pH T X N hi){i j:Nat}(ad:i<j)(hj:j<N):T i<T j:=by
 have:=h.mono (i:=i) (j-i) (by omega);rw[show i+(j-i)=j by omega]at this;omega
theorem pH.at{T X:Nat->Nat}{N hi n:Nat}(h:pH T X N hi)(h0:T 0<=n)(hn:n<=hi):atN T n N<N/\T (atN T n N)<=n/\n-T (atN T n N)<2^X (atN T n N):=by
 obtain⟨h1,h2,h3⟩:=wS h0 N h.pos;refine⟨h1,h2,?_⟩;rcases Nat.lt_or_ge (atN T n N+1) N with g|g
 ·have:=h3 (atN T n N+1) (by omega) g;have:=(h.up _ g).2;omega
 ·have e:atN T n N=N-1:=by omega
  have:=h.last.2;rw[<-e]at this;omega
theorem pH.back{T X:Nat->Nat}{N hi i x:Nat}(h:pH T X N hi)(ad:i<N)(hx:∀j,i+1=j->j<N->T i+x<T j):atN T (T i+x) N=i:=by
 refine KH ad (by omega) fun j h1 h2=>?_
 rcases Nat.eq_or_lt_of_le (show i+1<=j by omega)with e|e
 ·exact hx j e h2
 ·have:=hx (i+1) rfl (by omega);have:=h.lt e h2;omega
def gI(i:Nat):Nat:=[3,4,5,6,7,8,9,10,11,13,15,17,19,23,27,31,35,43,51,59,67,83,99,115,131,163,195,227,258].getD i 0
def kJ(i:Nat):Nat:=[0,0,0,0,0,0,0,0,1,1,1,1,2,2,2,2,3,3,3,3,4,4,4,4,5,5,5,5,0].getD i 0
def ic(i:Nat):Nat:=[1,2,3,4,5,7,9,13,17,25,33,49,65,97,129,193,257,385,513,769,1025,1537,2049,3073,4097,6145,8193,12289,16385,24577].getD i 0
def ln(i:Nat):Nat:=[0,0,0,0,1,1,2,2,3,3,4,4,5,5,6,6,7,7,8,8,9,9,10,10,11,11,12,12,13,13].getD i 0
theorem pI{P:Nat->Prop}[DecidablePred P]{n:Nat}(h:((List.range n).all fun i=>decide (P i))=true):∀i,i<n->P i:=fun i hi=>by
 have:=List.all_eq_true.1 h i (List.mem_range.2 hi);exact of_decide_eq_true this
theorem zt:pH gI kJ 29 258 where
 pos:=by omega
 up:=fun i hi=>pI (P:=fun i=>gI i<gI (i+1)/\gI (i+1)<=gI i+2^kJ i) (n:=28) (by decide+kernel) i (by omega)
 last:=by decide
theorem zu:pH ic ln 30 32768 where
 pos:=by omega
 up:=fun i hi=>pI (P:=fun i=>ic i<ic (i+1)/\ic (i+1)<=ic i+2^ln i) (n:=29) (by decide+kernel) i (by omega)
 last:=by decide
theorem DG:∀i,i<28->i≠27->gI (i+1)=gI i+2^kJ i:=fun i hi hn=>
 pI (P:=fun i=>i≠27->gI (i+1)=gI i+2^kJ i) (n:=28) (by decide+kernel) i hi hn
theorem KI:∀i,i<29->ic (i+1)=ic i+2^ln i:=fun i hi=>pI (P:=fun i=>ic (i+1)=ic i+2^ln i) (n:=29) (by decide+kernel) i hi
theorem DH{i x:Nat}(hi:i<29)(hx:x<2^kJ i)(hn:¬(i=27/\x=31)):atN gI (gI i+x) 29=i/\3<=gI i+x/\gI i+x<=258:=by
 have h3:3<=gI i/\gI i<=258:=pI (P:=fun i=>3<=gI i/\gI i<=258) (n:=29) (by decide+kernel) i hi;have ad:∀j,i+1=j->j<29->gI i+x<gI j:=fun j e hj=>by
  subst e;by_cases ah:i=27
  ·subst ah;have e1:gI 27=227:=rfl;have e2:gI (27+1)=258:=rfl;have e3:(2:Nat)^kJ 27=32:=rfl;omega
  ·rw[DG i (by omega) ah];omega
 refine⟨zt.back hi ad,by omega,?_⟩;rcases Nat.lt_or_ge (i+1) 29 with g|g
 ·have h1:=ad (i+1) rfl g;have h2:gI (i+1)<=258:=(pI (P:=fun i=>3<=gI i/\gI i<=258) (n:=29) (by decide+kernel) (i+1) g).2;omega
 ·obtain rfl:i=28:=by omega
  have e1:gI 28=258:=rfl;have e3:(2:Nat)^kJ 28=1:=rfl;omega
theorem DI{i x:Nat}(hi:i<30)(hx:x<2^ln i):atN ic (ic i+x) 30=i/\1<=ic i+x/\ic i+x<=32768:=by
 have h3:1<=ic i/\ic i<=32768:=pI (P:=fun i=>1<=ic i/\ic i<=32768) (n:=30) (by decide+kernel) i hi;have ad:∀j,i+1=j->j<30->ic i+x<ic j:=fun j e hj=>by
  subst e;rw[KI i (by omega)];omega
 refine⟨zu.back hi ad,by omega,?_⟩;rcases Nat.lt_or_ge (i+1) 30 with g|g
 ·have h1:=ad (i+1) rfl g;have h2:ic (i+1)<=32768:=(pI (P:=fun i=>1<=ic i/\ic i<=32768) (n:=30) (by decide+kernel) (i+1) g).2;omega
 ·obtain rfl:i=29:=by omega
  have e1:ic 29=24577:=rfl;have e3:(2:Nat)^ln 29=8192:=rfl;omega
def qm(n:Int):Nat:=atN gI n.toNat 29
def nT(n:Int):Int:=if 3<=n/\n<=258 then 0 else 2
def gv(n:Int):Int:=if 3<=n/\n<=258 then((257+qm n:Nat):Int)else 0
def iN(n:Int):Int:=if 3<=n/\n<=258 then((kJ (qm n):Nat):Int)else 0
def jK(n:Int):Int:=if 3<=n/\n<=258 then((n.toNat-gI (qm n):Nat):Int)else 0
def oU(s:Int):Int:=if 257<=s/\s<=285 then 0 else 90
def mN(s:Int):Int:=if 257<=s/\s<=285 then((kJ (s-257).toNat:Nat):Int)else 0
def kK(s x:Int):Int:=if 257<=s/\s<=285 then(if x<0\/((2^kJ (s-257).toNat:Nat):Int)<=x then 2 else if s=284/\x=31 then 90 else 0)else 90
def kL(s x:Int):Int:=if kK s x=0 then((gI (s-257).toNat:Nat):Int)+x else 0
def qo(n:Int):Nat:=atN ic n.toNat 30
def ni(n:Int):Int:=if 1<=n/\n<=32768 then 0 else 2
def gE(n:Int):Int:=if 1<=n/\n<=32768 then((qo n:Nat):Int)else 0
def jo(n:Int):Int:=if 1<=n/\n<=32768 then((ln (qo n):Nat):Int)else 0
def jQ(n:Int):Int:=if 1<=n/\n<=32768 then((n.toNat-ic (qo n):Nat):Int)else 0
def oV(s:Int):Int:=if 0<=s/\s<=29 then 0 else 90
def mO(s:Int):Int:=if 0<=s/\s<=29 then((ln s.toNat:Nat):Int)else 0
def lp(s x:Int):Int:=if 0<=s/\s<=29 then(if x<0\/((2^ln s.toNat:Nat):Int)<=x then 2 else 0)else 90
def kM(s x:Int):Int:=if lp s x=0 then((ic s.toNat:Nat):Int)+x else 0
theorem DJ(i:Nat):kJ i<=5:=by
 rcases Nat.lt_or_ge i 29 with h|h
 ·exact pI (P:=fun i=>kJ i<=5) (n:=29) (by decide+kernel) i h
 ·unfold kJ;rw[List.getD_eq_getElem?_getD,List.getElem?_eq_none (by simpa using h)];exact Nat.zero_le _
theorem DK(i:Nat):ln i<=13:=by
 rcases Nat.lt_or_ge i 30 with h|h
 ·exact pI (P:=fun i=>ln i<=13) (n:=30) (by decide+kernel) i h
 ·unfold ln;rw[List.getD_eq_getElem?_getD,List.getElem?_eq_none (by simpa using h)];exact Nat.zero_le _
theorem uN{n:Int}(h:nT n=0):3<=n/\n<=258:=by
 unfold nT at h;split at h<;>omega
theorem wT{n:Int}(h:ni n=0):1<=n/\n<=32768:=by
 unfold ni at h;split at h<;>omega
theorem KJ{s x:Int}(h:kK s x=0):257<=s/\s<=285/\0<=x/\x<((2^kJ (s-257).toNat:Nat):Int)/\¬(s=284/\x=31):=by
 unfold kK at h;split at h
 ·split at h
  ·omega
  ·split at h<;>omega
 ·omega
theorem KL{s x:Int}(h:lp s x=0):0<=s/\s<=29/\0<=x/\x<((2^ln s.toNat:Nat):Int):=by
 unfold lp at h;split at h
 ·split at h<;>omega
 ·omega
theorem ta{n:Int}(h:nT n=0):kK (gv n) (jK n)=0/\kL (gv n) (jK n)=n/\oU (gv n)=0/\mN (gv n)=iN n/\0<=jK n/\jK n<((2^(iN n).toNat:Nat):Int)/\0<=iN n/\iN n<=5:=by
 have hn:=uN h;obtain⟨m,rfl⟩:=Int.eq_ofNat_of_zero_le (show 0<=n by omega);obtain⟨h1,h2,h3⟩:=zt.at (n:=m) (show 3<=m by omega) (by omega);have eI:qm (m:Int)=atN gI m 29:=rfl;obtain⟨i,hi⟩:=fb (atN gI m 29);rw[<-hi]at h1 h2 h3 eI;have eS:gv (m:Int)=((257+i:Nat):Int):=by unfold gv;rw[if_pos hn,eI]
 have eB:iN (m:Int)=((kJ i:Nat):Int):=by unfold iN;rw[if_pos hn,eI]
 have eX:jK (m:Int)=((m-gI i:Nat):Int):=by unfold jK;rw[if_pos hn,eI];rfl
 have et:(gv (m:Int)-257).toNat=i:=by rw[eS];omega
 have ad:¬(gv (m:Int)=284/\jK (m:Int)=31):=by
  rw[eS,eX];rintro⟨a,b⟩;have ah:i=27:=by omega
  subst ah;have e1:gI 27=227:=rfl;have hm:m=258:=by omega
  subst hm;exact absurd hi (by decide)
 have hE:kK (gv (m:Int)) (jK (m:Int))=0:=by
  unfold kK;rw[et,if_pos ⟨by rw[eS];omega,by rw[eS];omega⟩,if_neg (by rw[eX];omega),if_neg ad]
 have al:=DJ i;refine⟨hE,?_,?_,?_,by rw[eX];omega,by rw[eX,eB,Int.toNat_natCast];omega,by rw[eB];omega,by rw[eB];omega⟩
 ·unfold kL;rw[if_pos hE,et,eX];omega
 ·unfold oU;rw[if_pos ⟨by rw[eS];omega,by rw[eS];omega⟩]
 ·unfold mN;rw[if_pos ⟨by rw[eS];omega,by rw[eS];omega⟩,et,eB]
theorem tb{n:Int}(h:ni n=0):lp (gE n) (jQ n)=0/\kM (gE n) (jQ n)=n/\oV (gE n)=0/\mO (gE n)=jo n/\0<=jQ n/\jQ n<((2^(jo n).toNat:Nat):Int)/\0<=jo n/\jo n<=13:=by
 have hn:=wT h;obtain⟨m,rfl⟩:=Int.eq_ofNat_of_zero_le (show 0<=n by omega);obtain⟨h1,h2,h3⟩:=zu.at (n:=m) (show 1<=m by omega) (by omega);have eI:qo (m:Int)=atN ic m 30:=rfl;obtain⟨i,hi⟩:=fb (atN ic m 30);rw[<-hi]at h1 h2 h3 eI;have eS:gE (m:Int)=((i:Nat):Int):=by unfold gE;rw[if_pos hn,eI]
 have eB:jo (m:Int)=((ln i:Nat):Int):=by unfold jo;rw[if_pos hn,eI]
 have eX:jQ (m:Int)=((m-ic i:Nat):Int):=by unfold jQ;rw[if_pos hn,eI];rfl
 have et:(gE (m:Int)).toNat=i:=by rw[eS];omega
 have hE:lp (gE (m:Int)) (jQ (m:Int))=0:=by
  unfold lp;rw[et,if_pos ⟨by rw[eS];omega,by rw[eS];omega⟩,if_neg (by rw[eX];omega)]
 have ad:=DK i;refine⟨hE,?_,?_,?_,by rw[eX];omega,by rw[eX,eB,Int.toNat_natCast];omega,by rw[eB];omega,by rw[eB];omega⟩
 ·unfold kM;rw[if_pos hE,et,eX];omega
 ·unfold oV;rw[if_pos ⟨by rw[eS];omega,by rw[eS];omega⟩]
 ·unfold mO;rw[if_pos ⟨by rw[eS];omega,by rw[eS];omega⟩,et,eB]
theorem KM{s x:Int}(h:kK s x=0):nT (kL s x)=0/\gv (kL s x)=s/\jK (kL s x)=x:=by
 obtain⟨h1,h2,h3,h4,h5⟩:=KJ h;obtain⟨y,rfl⟩:=Int.eq_ofNat_of_zero_le h3;obtain⟨i,hi⟩:=fb ((s-257).toNat);have es:s=((257+i:Nat):Int):=by omega
 have eV:kL s (y:Int)=((gI i+y:Nat):Int):=by unfold kL;rw[if_pos h,<-hi];omega
 rw[<-hi]at h4;obtain⟨g1,g2,g3⟩:=DH (i:=i) (x:=y) (by omega) (by omega) (by omega);rw[eV];have hk:3<=((gI i+y:Nat):Int)/\((gI i+y:Nat):Int)<=258:=by omega
 have eI:qm ((gI i+y:Nat):Int)=i:=g1;refine⟨by unfold nT;rw[if_pos hk],by unfold gv;rw[if_pos hk,eI];exact es.symm,?_⟩;unfold jK;rw[if_pos hk,eI,Int.toNat_natCast];omega
theorem KN{s x:Int}(h:lp s x=0):ni (kM s x)=0/\gE (kM s x)=s/\jQ (kM s x)=x:=by
 obtain⟨h1,h2,h3,h4⟩:=KL h;obtain⟨y,rfl⟩:=Int.eq_ofNat_of_zero_le h3;obtain⟨i,rfl⟩:=Int.eq_ofNat_of_zero_le h1;rw[Int.toNat_natCast]at h4;have eV:kM (i:Int) (y:Int)=((ic i+y:Nat):Int):=by unfold kM;rw[if_pos h,Int.toNat_natCast];omega
 obtain⟨g1,g2,g3⟩:=DI (i:=i) (x:=y) (by omega) (by omega);rw[eV];have hk:1<=((ic i+y:Nat):Int)/\((ic i+y:Nat):Int)<=32768:=by omega
 have eI:qo ((ic i+y:Nat):Int)=i:=g1;refine⟨by unfold ni;rw[if_pos hk],by unfold gE;rw[if_pos hk,eI],?_⟩;unfold jQ;rw[if_pos hk,eI,Int.toNat_natCast];omega
def Vv(f:Nat->Nat)(L a p:Nat):Nat->Nat->Nat
 |0,n=>n
 |d+1,n=>if a+n<L/\f (p+n)=f (a+n)then Vv f L a p d (n+1)else n
def jL(f:Nat->Nat)(L a p:Nat):Nat:=Vv f L a p 258 0
theorem DL(f:Nat->Nat)(L a p:Nat):∀d n,n<=Vv f L a p d n/\Vv f L a p d n<=n+d/\(∀i,n<=i->i<Vv f L a p d n->a+i<L/\f (p+i)=f (a+i))/\
  (Vv f L a p d n=n+d\/¬(a+Vv f L a p d n<L/\f (p+Vv f L a p d n)=f (a+Vv f L a p d n)))
 |0,n=>by
  simp only[Vv];exact⟨Nat.le_refl _,Nat.le_refl _,fun i h1 h2=>by omega,.inl rfl⟩
 |d+1,n=>by
  simp only[Vv];by_cases h:a+n<L/\f (p+n)=f (a+n)
  ·rw[if_pos h];obtain⟨h1,h2,h3,h4⟩:=DL f L a p d (n+1);refine⟨by omega,by omega,fun i hi ad=>?_,?_⟩
   ·rcases Nat.eq_or_lt_of_le hi with e|e
    ·subst e;exact h
    ·exact h3 i (by omega) ad
   ·rcases h4 with h4|h4
    ·left;omega
    ·exact .inr h4
  ·rw[if_neg h];exact⟨Nat.le_refl _,by omega,fun i h1 h2=>by omega,.inr h⟩
theorem uO(f:Nat->Nat)(L a p:Nat):jL f L a p<=258/\(∀i,i<jL f L a p->a+i<L/\f (p+i)=f (a+i))/\(jL f L a p=258\/¬(a+jL f L a p<L/\f (p+jL f L a p)=f (a+jL f L a p))):=by
 obtain⟨_,h2,h3,h4⟩:=DL f L a p 258 0;exact⟨by unfold jL;omega,fun i hi=>h3 i (Nat.zero_le _) hi,by
  unfold jL;rcases h4 with h|h
  ·exact .inl (by omega)
  ·exact .inr h⟩
theorem DM{f:Nat->Nat}{L a p:Nat}(h:a<=L):a+jL f L a p<=L:=by
 obtain⟨_,h3,_⟩:=uO f L a p;rcases Nat.eq_zero_or_pos (jL f L a p)with e|e
 ·omega
 ·have:=(h3 (jL f L a p-1) (by omega)).1;omega
def UW(f:Nat->Nat)(L a size:Nat):Nat->Nat->Nat->Nat->Nat×Nat
 |0,_,d,n=>(d,n)
 |p+1,c,d,n=>if a-p<=size/\0<c then
   (if jL f L a p<3 then UW f L a size p c d n else if n<jL f L a p then UW f L a size p (c-1) (a-p) (jL f L a p)else UW f L a size p (c-1) d n)
  else(d,n)
def DN(f:Nat->Nat)(L a size d n:Nat):Prop:=(d=0/\n=0)\/(1<=d/\d<=size/\d<=a/\3<=n/\n=jL f L a (a-d))
theorem tc{f:Nat->Nat}{L a size:Nat}:∀p c d n,p<=a->DN f L a size d n->DN f L a size (UW f L a size p c d n).1 (UW f L a size p c d n).2
 |0,_,_,_,_,h=>h
 |p+1,c,d,n,hp,h=>by
  simp only[UW];split
  ·rename_i hc;split
   ·exact tc p c d n (by omega) h
   ·rename_i hm;split
    ·refine tc p (c-1) _ _ (by omega) (.inr ⟨by omega,hc.1,by omega,by omega,?_⟩);rw[show a-(a-p)=p by omega]
    ·exact tc p (c-1) d n (by omega) h
  ·exact h
structure fi where
 x:Nat
 d:Int
 n:Int
def fH(t:fi):Bool:=decide ((t.n=0/\t.d=0)\/(t.n≠0/\t.x=0/\3<=t.n/\t.n<=258/\1<=t.d/\t.d<=32768))
def jZ(all:List Nat)(d n:Nat):List Nat:=(List.range n).map fun i=>all.getD (all.length-d+i%d) 0
def fV(all:List Nat)(t:fi):List Nat:=if t.n=0 then all++[t.x]else all++jZ all t.d.toNat t.n.toNat
def il(t:fi):Nat:=if t.n=0 then 1 else t.n.toNat
def Vw(A:Nat):List fi->List Nat->Int×List Nat
 |[],all=>(0,all.drop A)
 |t::l,all=>if fH t=false then(8,[])else if(all.length:Int)<t.d then(60,[])else if 131072<all.length-A+il t then(4,[])else Vw A l (fV all t)
def rU(f:Nat->Nat)(L size chain:Nat)(lazy:Bool)(a:Nat):Nat:=if lazy=true/\a+1<L then(UW f L (a+1) size (a+1) chain 0 0).2 else 0
def Vr(f:Nat->Nat)(L size chain:Nat)(lazy:Bool):Nat->Nat->List fi
 |0,_=>[]
 |k+1,a=>if L<=a then[]else
   if(UW f L a size a chain 0 0).2=0\/(UW f L a size a chain 0 0).2<rU f L size chain lazy a then⟨f a,0,0⟩::Vr f L size chain lazy k (a+1)
   else⟨0,((UW f L a size a chain 0 0).1:Nat),((UW f L a size a chain 0 0).2:Nat)⟩::Vr f L size chain lazy k (a+(UW f L a size a chain 0 0).2)
theorem rV(all:List Nat)(t:fi):(fV all t).length=all.length+il t:=by
 unfold fV il jZ;split<;>simp
theorem KO{f:Nat->Nat}{a d n:Nat}(hd:1<=d)(ad:d<=a)(h:∀i,i<n->f (a-d+i)=f (a+i)):∀i,i<n->f (a-d+i%d)=f (a+i):=by
 intro i;induction i using Nat.strongRecOn with
 |_ i ih=>
  intro hi;rcases Nat.lt_or_ge i d with g|g
  ·rw[Nat.mod_eq_of_lt g];exact h i hi
  ·have e:i%d=(i-d)%d:=Nat.mod_eq_sub_mod g;rw[e,ih (i-d) (by omega) (by omega),<-h i hi];congr 1;omega
def iF(f:Nat->Nat)(a:Nat):List Nat:=(List.range a).map f
theorem qp(f:Nat->Nat)(a:Nat):(iF f a).length=a:=by simp[iF]
theorem wU(f:Nat->Nat){a i:Nat}(h:i<a):(iF f a).getD i 0=f i:=by simp[iF,h]
theorem DO(f:Nat->Nat)(a n:Nat):iF f a++(List.range n).map (fun i=>f (a+i))=iF f (a+n):=by
 unfold iF;rw[List.range_add,List.map_append,List.map_map];rfl
theorem KQ{f:Nat->Nat}{a d n:Nat}(hd:1<=d)(ad:d<=a)(hn:1<=n)(h:∀i,i<n->f (a-d+i)=f (a+i)):fV (iF f a) ⟨0,(d:Nat),(n:Nat)⟩=iF f (a+n):=by
 unfold fV;rw[if_neg (by show¬((n:Int)=0);omega),<-DO];congr 1;unfold jZ;simp only[Int.toNat_natCast,qp];apply List.map_congr_left;intro i hi;have hi:=List.mem_range.1 hi;have ah:i%d<d:=Nat.mod_lt _ hd;rw[wU f (by omega)];exact KO hd ad h i hi
theorem KR(f:Nat->Nat)(a:Nat):fV (iF f a) ⟨f a,0,0⟩=iF f (a+1):=by
 unfold fV;rw[if_pos rfl,<-DO];simp
theorem tf{f:Nat->Nat}{L a size chain:Nat}(h:(UW f L a size a chain 0 0).2≠0):1<=(UW f L a size a chain 0 0).1/\(UW f L a size a chain 0 0).1<=size/\(UW f L a size a chain 0 0).1<=a/\3<=(UW f L a size a chain 0 0).2/\(UW f L a size a chain 0 0).2<=258/\
  (∀i,i<(UW f L a size a chain 0 0).2->a+i<L/\f (a-(UW f L a size a chain 0 0).1+i)=f (a+i)):=by
 rcases tc (f:=f) (L:=L) (size:=size) a chain 0 0 fe (.inl ⟨rfl,rfl⟩)with⟨_,h2⟩|⟨h1,h2,h3,h4,h5⟩
 ·exact absurd h2 h
 ·obtain⟨g1,g2,_⟩:=uO f L a (a-(UW f L a size a chain 0 0).1);rw[<-h5]at g1 g2;exact⟨h1,h2,h3,h4,g1,g2⟩
theorem zv{f:Nat->Nat}{L size chain:Nat}(lazy:Bool)(hs:size<=32768)(hL:L<=131072){A:Nat}:∀k a,A<=a->a<=L->L<=a+k->Vw A (Vr f L size chain lazy k a) (iF f a)=(0,(iF f L).drop A)
 |0,a,_,_,h2=>by
  simp only[Vr,Vw];rw[show a=L by omega]
 |k+1,a,hA,h1,h2=>by
  simp only[Vr];by_cases h:L<=a
  ·rw[if_pos h];simp only[Vw];rw[show a=L by omega]
  ·rw[if_neg h];split
   ·simp only[Vw];have hm:fH ⟨f a,0,0⟩=true:=by simp[fH]
    rw[if_neg (by rw[hm];decide),if_neg (by show¬(((iF f a).length:Int)<0);omega),if_neg (by rw[qp];show¬(131072<a-A+1);omega),KR];exact zv lazy hs hL k (a+1) (by omega) (by omega) (by omega)
   ·rename_i hc;obtain⟨b1,b2,b3,b4,b5,b6⟩:=tf (f:=f) (L:=L) (a:=a) (size:=size) (chain:=chain) (by omega);obtain⟨d,hd⟩:=fb ((UW f L a size a chain 0 0).1);obtain⟨n,hn⟩:=fb ((UW f L a size a chain 0 0).2);rw[<-hd]at b1 b2 b3 b6⊢;rw[<-hn]at b4 b5 b6⊢;have ah:=(b6 (n-1) (by omega)).1;simp only[Vw];have hm:fH ⟨0,(d:Nat),(n:Nat)⟩=true:=by simp[fH];omega
    have ad:il ⟨0,(d:Nat),(n:Nat)⟩=n:=by unfold il;rw[if_neg (by show¬((n:Int)=0);omega)];exact Int.toNat_natCast n
    rw[if_neg (by rw[hm];decide),if_neg (by rw[qp];show¬((a:Int)<(d:Int));omega),if_neg (by rw[qp,ad];omega),KQ b1 b3 (by omega) (fun i hi=>(b6 i hi).2)];exact zv lazy hs hL k (a+n) (by omega) (by omega) (by omega)
theorem wV{f:Nat->Nat}{L size chain:Nat}(lazy:Bool)(hs:size<=32768):∀k a,a<=L->(Vr f L size chain lazy k a).length<=L-a/\∀t∈Vr f L size chain lazy k a,fH t=true/\t.d<=size/\(chain=0->t.n=0)
 |0,a,_=>by simp[Vr]
 |k+1,a,h1=>by
  simp only[Vr];by_cases h:L<=a
  ·rw[if_pos h];simp
  ·rw[if_neg h];split
   ·obtain⟨i1,i2⟩:=wV (f:=f) (L:=L) (size:=size) (chain:=chain) lazy hs k (a+1) (by omega);refine⟨by rw[List.length_cons];omega,fun t ht=>?_⟩;rcases List.mem_cons.1 ht with rfl|ht
    ·exact⟨by simp[fH],by show(0:Int)<=size;omega,fun _=>rfl⟩
    ·exact i2 t ht
   ·rename_i hc;obtain⟨b1,b2,b3,b4,b5,b6⟩:=tf (f:=f) (L:=L) (a:=a) (size:=size) (chain:=chain) (by omega);have h0:chain=0->(UW f L a size a chain 0 0).2=0:=fun e=>by
     subst e;cases a with
     |zero=>rfl
     |succ a=>simp only[UW];rw[if_neg (by omega)]
    obtain⟨d,hd⟩:=fb ((UW f L a size a chain 0 0).1);obtain⟨n,hn⟩:=fb ((UW f L a size a chain 0 0).2);rw[<-hd]at b1 b2 b3 b6⊢;rw[<-hn]at b4 b5 b6 h0 hc⊢;have ad:=(b6 (n-1) (by omega)).1;obtain⟨i1,i2⟩:=wV (f:=f) (L:=L) (size:=size) (chain:=chain) lazy hs k (a+n) (by omega);refine⟨by rw[List.length_cons];omega,fun t ht=>?_⟩;rcases List.mem_cons.1 ht with rfl|ht
    ·exact⟨by simp[fH];omega,by show(d:Int)<=size;omega,fun e=>by have:=h0 e;show(n:Int)=0;omega⟩
    ·exact i2 t ht
theorem KS{t:fi}(h:fH t=true):il t<=258:=by
 have:=of_decide_eq_true h;unfold il;split<;>omega
structure kN (n:Nat) (U:au) where
 w:au
 h:aS n U w
instance kN.some(n:Nat)(U:au):Inhabited (kN n U):=⟨⟨U,Below.refl n U⟩⟩
theorem qq{P:aA}{id:Nat}{Q:Exit->Act->au->Prop}{a:Act}{w:au}{l:List aB}(n:Nat)(U:au)(hU:aS n U w)(hm:P.follows .mixedOrders=true)(hB:Region.lexB .any l.toArray=true)
  (h:wpQuiet P l.toArray (fun V=>∃p:kN n U,V=p.w) (fun a'=>∀V,(∃p:kN n U,V=p.w)->Q .normal a' V) l a):(Code.region id l.toArray true).wp P Q a w:=
 wp_region_quiet (C:=fun V=>∃p:kN n U,V=p.w) hm hB ⟨⟨_,hU.drew⟩,rfl⟩ (by simpa using h)
theorem mP{P:aA}{f:FuncId}{args:Array ay}{n:Nat}{U:au}{v:ay}(h:∀V,aS n U V->ax P f args V fun e V'=>e=aq v/\aS n U V')(p:kN n U):
  ax P f args p.w fun e ad=>e=aq v/\∃q:kN n U,ad=q.w:=
 (h p.w p.h).mono fun _ _ ⟨he,hb⟩=>⟨he,⟨_,hb⟩,rfl⟩
theorem pJ{P:aA}{C:au->Prop}{K:Act->Prop}{a:Act}{o:aB}(ty:aC)(x:Operand)(ho:o.op=.load ty x)(b k:Nat)(hx:a.eval x=ag (some ⟨b,k,none⟩))(cs:List ay)(d:TypeDesc)
  (hS:∀V,C V->V.rangeAt b k cs) (hu:P.underlying ty=some d) (hd:d.isRow=true) (hi:(P.info? ty).map (·.size)=some cs.length) (hk:K (a.put o.dst (ai cs.toArray))):o.quiet P a C K:=
 ⟨_,fun w hw=>by
  unfold Oper.quietAt execOp;simp only[ho,hx,Instr.loadAt,Instr.sureAddr,Sem.run_bind,Sem.run_pure,Result.andThen_ok,run_loadVar_mid w b k ty cs d (hS w hw) hu hd hi];exact⟨rfl,rfl⟩,hk⟩
def rW(v n:Int):Bool:=decide (0<=n/\n<=32/\v<2^n.toNat)
theorem KT{v n:Nat}:rW v n=true↔n<=32/\v<2^n:=by
 have e:((2:Int)^n)=((2^n:Nat):Int):=by rw[Int.natCast_pow];rfl
 simp only[rW,decide_eq_true_eq,Int.toNat_natCast];rw[e];constructor
 ·rintro⟨_,h1,h2⟩;exact⟨by omega,by exact_mod_cast h2⟩
 ·rintro⟨h1,h2⟩;exact⟨by omega,by omega,by exact_mod_cast h2⟩
theorem KU(v p:Int)(h0:0<=v)(hp:0<p):(v/p==0)=decide (v<p):=by
 rw[Bool.eq_iff_iff];simp;constructor
 ·intro h;have:=Int.emod_add_mul_ediv v p;rw[h]at this;have:=Int.emod_lt_of_pos v hp;omega
 ·intro h;exact Int.ediv_eq_zero_of_lt h0 h
theorem KW(v n:Int)(w:au)(h0:0<=v)(_:v<4294967296)(ad: -9223372036854775808<=n)(ah:n<=9223372036854775807):
  ax prog 134 #[ae .u32 v,ae ak n] w fun e w'=>e=aq (.bool (rW v n))/\w=w':=by
 by_cases ha:0<=n
 ·by_cases hb:n<=32
  ·go_enter func134,ntmps134
   go_wp2;go_ret;refine⟨yP ?_,rfl⟩;rw[KU v _ h0 (Int.pow_pos (by omega))];simp[rW,ha,hb]
  ·go_enter func134,ntmps134
   go_wp2;go_ret;exact⟨yP (by simp[rW];omega),rfl⟩
 ·go_enter func134,ntmps134
  go_wp2;go_ret;exact⟨yP (by simp[rW];omega),rfl⟩
theorem wW(k:Nat)(w:au)(h:k<=9223372036854775800):
  ax prog 82 #[ae ak (k:Int)] w fun e w'=>e=aq (ae ak (((k+7)/8:Nat):Int))/\w=w':=by
 go_enter func82,ntmps82
 go_wp2
 go_ret
 exact⟨rfl,rfl⟩
def Vn(v:Nat):Nat->Nat
 |0=>0
 |i+1=>2*Vn v i+v/2^i%2
theorem tg(v:Nat):∀i,Vn v i<2^i
 |0=>by simp[Vn]
 |i+1=>by
  have:=tg v i;have h2:v/2^i%2<2:=Nat.mod_lt _ (by omega);simp only[Vn,Nat.pow_succ];omega
theorem KX(v n:Nat)(w:au)(h1:v<4294967296)(ah:n<=32)(hf:rW v n=true):
  ax prog 93 #[ae .u32 v,ae ak n] w fun e w'=>e=aq (.tuple #[ae .u32 (Vn v n),ae ak 0])/\w=w':=by
 go_enter func93,ntmps93
 go_wp2_with (go_at_call 134;refine(KW _ _ _ (by omega) (by omega) (by omega) (by omega)).mono ?_;rintro e w' ⟨rfl,rfl⟩)
 go_loop [6,7,13] (fun t _ i=>∃k:Nat,k<=n/\i=ae ak k/\t=ae .u32 (Vn v k)) (fun _ _ i=>n-(aQ i).toNat)
 case atStart=>exact⟨0,Nat.zero_le _,rfl,rfl⟩
 case round=>
  obtain⟨k,hk,rfl,rfl⟩:=hrel;have hb:=tg v k;have al:Vn v k<4294967296:=CS hb (by omega);by_cases ad:k<n
  ·go_wp2;refine⟨⟨k+1,ad,by go_num,lX ?_⟩,by simp[aQ];omega⟩;have h3:Vn v k*2<4294967296:=by
    have:=yN (k:=k+1) (by omega);rw[Nat.pow_succ]at this;omega
   have h4:v/2^k%2<2:=Nat.mod_lt _ (by omega);rw[CU v k h1,show((Vn v k:Int)*2%4294967296)=((Vn v k*2:Nat):Int) by omega,
    J9 _ _ 1 h3 (by omega) (by omega) (by omega)]
   simp only[Vn];congr 1;omega
  ·go_wp2;go_ret2;exact⟨CW (by rw[show k=n by omega]) rfl,rfl⟩
def iO(f:Nat->Nat)(k:Nat):Nat:=f (k/8)/2^(k%8)%2
theorem th(f:Nat->Nat)(k:Nat):iO f k<2:=Nat.mod_lt _ (by omega)
def UR(f:Nat->Nat)(at_:Nat):Nat->Nat
 |0=>0
 |i+1=>UR f at_ i+iO f (at_+i)*2^i
theorem nj(f:Nat->Nat)(at_:Nat):∀i,UR f at_ i<2^i
 |0=>by simp[UR]
 |i+1=>by
  have:=nj f at_ i;have h2:=th f (at_+i);have:iO f (at_+i)*2^i<=1*2^i:=Nat.mul_le_mul_right _ (by omega);simp only[UR,Nat.pow_succ];omega
theorem KY(w:au)(B:Nat)(A:Option aw)(n c:Nat)(f:Nat->Nat)(k:Nat)(hr:fB w B A n f)(hk:k<8*n)(hn:n<=9223372036854775807/8):
  ax prog 135 #[af A n c,ae ak (k:Int)] w fun e w'=>e=aq (ae .u32 (iO f k:Nat))/\w=w':=by
 obtain⟨hf,hc⟩:=hr
 obtain⟨b,o,rfl,hb,hc⟩:=hc (by omega)
 have ad:=hc (k/8) (by omega)
 have al:k/8<n:=by omega
 have ah:=hf (k/8)
 clear hc
 go_enter func135,ntmps135
 go_wp2
 go_ret
 refine⟨ou ?_,rfl⟩
 have h5:f (k/8)/2^(k%8)<256:=Nat.lt_of_le_of_lt (Nat.div_le_self _ _) ah
 rw[wF,CV _ (by omega),CR _ (by omega)]
 rfl
theorem KZ(w:au)(A:Option aw)(l c:Nat)(a n:Int)(h:a<0\/n<0\/32<n):
  ax prog 94 #[af A l c,ae ak a,ae ak n] w fun e w'=>e=aq (.tuple #[ae .u32 0,ae ak 2])/\w=w':=by
 by_cases h1:a<0
 ·go_enter func94,ntmps94
  go_wp2;go_ret2;exact⟨rfl,rfl⟩
 ·by_cases h2:n<0
  ·go_enter func94,ntmps94
   go_wp2;go_ret2;exact⟨rfl,rfl⟩
  ·have h3:32<n:=by omega
   clear h;go_enter func94,ntmps94
   go_wp2;go_ret2;exact⟨rfl,rfl⟩
theorem DP(w:au)(A:Option aw)(l c:Nat)(a n:Nat)(ha:a<=9223372036854775807)(hn:n<=32)(hl:l<=1000000000000)(h:8*l<a+n):
  ax prog 94 #[af A l c,ae ak (a:Int),ae ak (n:Int)] w fun e w'=>e=aq (.tuple #[ae .u32 0,ae ak 10])/\w=w':=by
 go_enter func94,ntmps94
 go_wp2
 go_ret2
 exact⟨rfl,rfl⟩
theorem DQ(w:au)(B:Nat)(A:Option aw)(l c:Nat)(f:Nat->Nat)(a n:Nat)(hr:fB w B A l f)(hn:n<=32)(hl:l<=1000000000000)(h:a+n<=8*l):
  ax prog 94 #[af A l c,ae ak (a:Int),ae ak (n:Int)] w fun e w'=>e=aq (.tuple #[ae .u32 (UR f a n:Nat),ae ak 0])/\w=w':=by
 have HR:=fa hr
 clear hr
 go_enter func94,ntmps94
 go_wp2
 go_loop [8,9,31] (fun t _ i=>∃k:Nat,k<=n/\i=ae ak k/\t=ae .u32 (UR f a k:Nat)) (fun _ _ i=>n-(aQ i).toNat)
 case atStart=>exact⟨0,Nat.zero_le _,rfl,rfl⟩
 case round=>
  obtain⟨k,hk,rfl,rfl⟩:=hrel;have hb:=nj f a k;have ad:UR f a k<4294967296:=CS hb (by omega);have h4:=th f (a+k);by_cases ah:k<n
  ·go_wp2_with (go_at_call 135;refine(KY _ B _ _ _ f (a+k) HR.out (by omega) (by omega)).mono ?_;rintro e w' ⟨rfl,rfl⟩)
   refine⟨⟨k+1,ah,by go_num,lX ?_⟩,by simp[aQ];omega⟩;have h6:iO f (a+k)*2^k<=1*2^k:=Nat.mul_le_mul_right _ (by omega);have h7:=yN (k:=k+1) (by omega);rw[Nat.pow_succ]at h7;have h8:iO f (a+k)*2^k<4294967296:=by omega
   rw[yO,CV _ h8,Ka _ _ k ad h8 hb (Nat.dvd_mul_left _ _)];rfl
  ·go_wp2;go_ret2;exact⟨CW (by rw[show k=n by omega]) rfl,rfl⟩
def qs(v j:Nat):Nat:=v/2^j
open Go.ChangeMaps (open_string shut_string)
def q9(f:Nat->Nat)(l:Nat)(a n:Int):Nat:=if a<0\/n<0\/32<n then 0 else if 8*(l:Int)<a+n then 0 else UR f a.toNat n.toNat
def rX(l:Nat)(a n:Int):Int:=if a<0\/n<0\/32<n then 2 else if 8*(l:Int)<a+n then 10 else 0
theorem K6{P:Int->Int->Prop}(f:Nat->Nat)(l:Nat)(a n:Int)
  (h1:a<0\/n<0\/32<n->P 0 2) (h2:∀x y:Nat,a=x->n=y->y<=32->8*l<x+y->P 0 10)
  (h3:∀x y:Nat,a=x->n=y->y<=32->x+y<=8*l->P (UR f x y:Nat) 0):P (q9 f l a n:Nat) (rX l a n):=by
 unfold q9 rX
 by_cases c1:a<0\/n<0\/32<n
 ·rw[if_pos c1,if_pos c1];exact h1 c1
 ·rw[if_neg c1,if_neg c1];obtain⟨x,rfl⟩:=Int.eq_ofNat_of_zero_le (show 0<=a by omega);obtain⟨y,rfl⟩:=Int.eq_ofNat_of_zero_le (show 0<=n by omega);by_cases c2:8*(l:Int)<(x:Int)+(y:Int)
  ·rw[if_pos c2,if_pos c2];exact h2 x y rfl rfl (by omega) (by omega)
  ·rw[if_neg c2,if_neg c2];exact h3 x y rfl rfl (by omega) (by omega)
theorem K7(w:au)(B:Nat)(A:Option aw)(l c:Nat)(f:Nat->Nat)(a n:Int)(hr:fB w B A l f)(hl:l<=1000000000000)(ha:a<=9223372036854775807):
  ax prog 94 #[af A l c,ae ak a,ae ak n] w fun e w'=>e=aq (.tuple #[ae .u32 (q9 f l a n:Nat),ae ak (rX l a n)])/\w=w':=by
 refine K6 (P:=fun x y=>ax prog 94 #[af A l c,ae ak a,ae ak n] w fun e w'=>e=aq (.tuple #[ae .u32 x,ae ak y])/\w=w') f l a n ?_ ?_ ?_
 ·intro h;exact KZ w A l c a n h
 ·rintro x y rfl rfl h1 h2;exact DP w A l c x y (by omega) h1 hl h2
 ·rintro x y rfl rfl h1 h2;exact DQ w B A l c f x y hr h1 hl h2
theorem K8:(prog.info? 5).map (fun i=>(i.zero,i.size,i.bytes))=some (some (ae .u8 0),1,1):=by kernel_rfl
theorem K9(k L:Nat)(w:au)(h:k<=9223372036854775800)(hL:L=(k+7)/8):
  ax prog 82 #[ae ak (k:Int)] w fun e w'=>e=aq (ae ak (L:Int))/\w=w':=by
 subst hL;exact wW k w h
theorem zw:(prog.info? 5).map (·.size)=some 1:=by kernel_rfl
def ie(n:Nat)(f:Nat->Nat)(j:Nat):Nat:=if j<n then f j else 0
theorem La(L n:Nat)(f:Nat->Nat)(hn:n<=L):splice (aK #[ae .u8 0] L).toList 0 (ft n f)=ft L (ie n f):=by
 rw[toList_madeCells_one];apply List.ext_getElem?;intro j;rw[lK];have hl:(ft n f).length=n:=by simp[ft]
 simp only[splice,List.take_zero,List.nil_append,Nat.zero_add,List.getElem?_append,hl,lK,List.getElem?_drop,List.getElem?_replicate,ie];by_cases h1:j<n
 ·simp[h1];omega
 ·by_cases h2:j<L
  ·simp[h1,h2];omega
  ·simp[h1,h2];omega
theorem Lb{w w':au}{B n:Nat}{A:Option aw}{f:Nat->Nat}(h:fB w B A n f)(hb:aS B w w'):
  0<(ft n f).length->∃ad,A=some ad/\∀j v,(ft n f)[j]?=some v->w'.cell? (ad.add j)=some v:=by
 intro hp
 have hl:(ft n f).length=n:=by simp[ft]
 rw[hl]at hp
 obtain⟨b,o,rfl,ah,hc⟩:=h.2 hp
 refine⟨_,rfl,fun j v hv=>?_⟩
 rw[lK]at hv
 by_cases hj:j<n
 ·rw[if_pos hj]at hv;injection hv with hv
  subst hv;have e:(⟨b,o,none⟩:aw).add j=⟨b,o+j,none⟩:=by unfold Addr.add;split<;>simp_all
  rw[e,hb.cell (p:=⟨b,o+j,none⟩) ah];exact hc j hj
 ·rw[if_neg hj]at hv;cases hv
theorem Lc(w:au)(A:Option aw)(n c:Nat)(f:Nat->Nat)(k m L:Nat)(hr:fB w w.heap.size A n f)(hk:k<=8388608)(hm:m<=64)(hn:n<=L)(hL:L=(k+m+7)/8):
  ax prog 163 #[ai #[af A n c,ae ak (k:Int)],ae ak (m:Int)] w fun e w'=>e=aq (ai #[af (some ⟨w.heap.size+1+1,0,none⟩) L L,ae ak (k:Int)])/\
   aS w.heap.size w w'/\Row w' (w.heap.size+1+1) L (ie n f):=by
 obtain⟨i0,hi,al,av,aT⟩:=info_parts K8
 have aV:L<=2000000:=by omega
 have aW:∀u:au,(Instr.makeSlice 22 (ae ak (L:Int)) (ae ak (L:Int))).run prog u=
   .ok (af (some ⟨u.heap.size,0,none⟩) L L) (u.alloc (ao (aK #[ae .u8 0] L) 5)):=fun u=>by
  have h:=run_make (P:=prog) u 22 5 i0 (ae .u8 0) underlying22 hi al ak ak (L:Int) (L:Int) (by omega) (Int.le_refl _) (by rw[aT];omega) (by omega)
  rw[Int.toNat_natCast]at h
  simpa[av,Value.cells]using h
 have HL:=fa hL
 have HR:=fa hr
 clear hL hr
 go_enter func163,ntmps163
 go_wp2_with (first
  |(go_at_call 82;refine(K9 (k+m) L _ (by omega) HL.out).mono ?_;rintro e w' ⟨rfl,rfl⟩)
  |(with_reducible refine wpList_copy_splice rfl (.tmp 12) (.tmp 14) 22 22 rfl 5 underlying22 zw _ _ _ _ _ _ rfl rfl (w.heap.size+1+1) 0 (aK #[ae .u8 0] L).toList 5 ?c1 (ft n f) ?c2 ?c3 ?c4 (uE n f) (w.heap.size+1+1) _ fz fe ?c5))
 case c1=>rw[Array.toArray_toList];simpa using aH ((w.alloc (ao #[af A n c,ae ak (k:Int)] 62)).alloc (ao #[af none 0 0,ae ak 0] 238)) (ao (aK #[ae .u8 0] L) 5)
 case c2=>simp[ft,Nat.min_eq_left hn]
 case c3=>exact Lb HR.out ((((fz.alloc fe _).alloc (by simp) _).alloc (by simp;omega) _))
 case c4=>simp[ft,size_madeCells];omega
 case c5=>
  intro w4 aU ad;have HB:=fa ad;have aX:w.heap.size+1+1<w4.heap.size:=by have:=ad.size;simp at this;omega
  obtain⟨hc,ah⟩:=yQ ad;have k1:=(hc w.heap.size 1 (by omega)).trans (by go_simp:_=some (Value.int ak (k:Int)));have k2:=(hc (w.heap.size+1) 0 (by omega)).trans (by go_simp:_=some (Value.slice none 0 0));have k3:=(hc (w.heap.size+1) 1 (by omega)).trans (by go_simp:_=some (Value.int ak 0));have k4:=(ah (w.heap.size+1) 0 (by omega)).trans (by go_simp:_=false);have k5:=(ah (w.heap.size+1) 1 (by omega)).trans (by go_simp:_=false);clear ad hc ah;go_wp2;refine bodyPost_ret (v:=ai #[af (some ⟨w.heap.size+1+1,0,none⟩) L L,ae ak (k:Int)]) ?_ rfl ⟨rfl,?_,?_⟩
  ·simp[results,Tryz.results163,go_sem,k2,k3]
  ·exact(((((fz.alloc fe _).alloc (by simp) _).alloc (by simp;omega) _).trans (HB.out.mono (by omega))).setCell (by simp) _).setCell (by simp) _
  ·unfold Row;rw[Below.heap_setCell _ _ _ _ (by simp),Below.heap_setCell _ _ _ _ (by simp),<-La L n f hn];exact aU.out
def rY(w:au)(p g L k:Nat):Prop:=w.heap[p]?=some (ao #[af (some ⟨g,0,none⟩) L L,ae ak (k:Int)] 238 (0,0))
theorem Ld(x:Nat)(h:x<256):(x:Int)%256=(x:Int):=by omega
theorem Le(w:au)(p g L k:Nat)(f:Nat->Nat)(x:Nat)(hx:x<2)(hp:rY w p g L k)(ad:Row w g L f)(ah:p≠g)(hk:k<8*L)(hL:L<=2000000)(hf:f (k/8)<2^(k%8)):
  ax prog 164 #[ag (some ⟨p,0,none⟩),ae .u32 (x:Int)] w fun e w'=>e=aq (.tuple #[])/\w'=(((w.setCell ⟨g,k/8,none⟩ (ae .u8 ((f (k/8)+x*2^(k%8):Nat):Int))).setCell ⟨p,1,none⟩ (ae ak ((k+1:Nat):Int))).drew):=by
 have c0:w.cell? ⟨p,0,none⟩=some (af (some ⟨g,0,none⟩) L L):=by rw[aI w p 0 _ 238 (0,0) hp];rfl
 have c1:w.cell? ⟨p,1,none⟩=some (ae ak (k:Int)):=by rw[aI w p 1 _ 238 (0,0) hp];rfl
 have c2:=ad.cell (j:=k/8) (by omega)
 have z1:w.frozen? ⟨p,1,none⟩=false:=by unfold rY at hp;simp[World.frozen?,hp]
 have z2:=ad.frozen (k/8)
 have al:k/8<L:=by omega
 have HF:=fa hf;have HP:=fa hp;have HR:=fa ad
 clear hf hp ad
 have hv:bits .or .u8 ((f (k/8):Nat):Int) ((x:Int)*2^(k%8)%256)=((f (k/8)+x*2^(k%8):Nat):Int):=by
  have h8:k%8<8:=Nat.mod_lt _ (by omega);have h1:2^(k%8)*2<=256:=by
   have:=Nat.pow_le_pow_right (n:=2) (by omega) (show k%8+1<=8 by omega);rw[Nat.pow_succ]at this;simpa using this
  have h2:x*2^(k%8)<=1*2^(k%8):=Nat.mul_le_mul_right _ (by omega);have h3:=HF.out;rw[yO,Ld _ (by omega),VW _ _ (by omega) (by omega),Nat.or_comm,wE _ _ (k%8) h3 (Nat.dvd_mul_left _ _),Nat.add_comm]
 have HV:=fa hv
 clear hv
 go_enter func164,ntmps164
 go_wp2
 go_region
 go_wp2
 go_end0
 rw[HV.out]
 exact⟨rfl,rfl⟩
def kj(f:Nat->Nat)(k b:Nat):Nat->Nat:=fK f (k/8) (f (k/8)+b*2^(k%8))
def Vo(f:Nat->Nat)(k v:Nat):Nat->(Nat->Nat)
 |0=>f
 |i+1=>kj (Vo f k v i) (k+i) (v/2^i%2)
def Ve(f:Nat->Nat)(k:Nat):Prop:=(∀j,f j<256)/\(∀j,k/8<j->f j=0)/\f (k/8)<2^(k%8)
theorem Ve.step{f:Nat->Nat}{k b:Nat}(h:Ve f k)(hb:b<2):Ve (kj f k b) (k+1):=by
 obtain⟨h1,h2,h3⟩:=h;have h8:k%8<8:=Nat.mod_lt _ (by omega);have hp:2^(k%8)*2<=256:=by
  have:=Nat.pow_le_pow_right (n:=2) (by omega) (show k%8+1<=8 by omega);rw[Nat.pow_succ]at this;simpa using this
 have hq:b*2^(k%8)<=1*2^(k%8):=Nat.mul_le_mul_right _ (by omega);refine⟨fun j=>?_,fun j hj=>?_,?_⟩
 ·unfold kj fK;split
  ·omega
  ·exact h1 j
 ·unfold kj fK;rw[if_neg (by omega)];exact h2 j (by omega)
 ·unfold kj fK;by_cases e:k%8=7
  ·rw[if_neg (by omega),h2 _ (by omega)];exact Nat.two_pow_pos _
  ·rw[if_pos (by omega),show(k+1)%8=k%8+1 by omega,Nat.pow_succ];omega
theorem Ve.put{f:Nat->Nat}{k:Nat}(h:Ve f k)(v:Nat):∀i,Ve (Vo f k v i) (k+i)
 |0=>h
 |i+1=>(Ve.put h v i).step (Nat.mod_lt _ (by omega))
theorem Lf(w:au)(p g L k:Nat)(f:Nat->Nat)(x:Nat)(y:Int)(hy:y=(x:Int))(hx:x<2)(hp:rY w p g L k)(ad:Row w g L f)(ah:p≠g)(hk:k<8*L)(hL:L<=2000000)(hf:Ve f k):
  ax prog 164 #[ag (some ⟨p,0,none⟩),ae .u32 y] w fun e w'=>e=aq (.tuple #[])/\rY w' p g L (k+1)/\Row w' g L (kj f k x)/\∀B,B<=p->B<=g->aS B w w':=by
 subst hy
 refine(Le w p g L k f x hx hp ad ah hk hL hf.2.2).mono ?_
 rintro e w' ⟨rfl,rfl⟩
 refine⟨rfl,?_,?_,fun B h1 h2=>((fz.setCell h2 _).setCell h1 _).drew⟩
 ·have h1:rY (w.setCell ⟨g,k/8,none⟩ (ae .u8 ((f (k/8)+x*2^(k%8):Nat):Int))) p g L k:=(Below.heap_setCell w ⟨g,k/8,none⟩ _ p ah).trans hp;show(World.setCell _ _ _).heap[p]?=_
  unfold rY at h1;simp[World.setCell,Array.getElem?_modify]at h1⊢;simp[h1]
 ·exact(ad.set (k/8) _).other (p:=⟨p,1,none⟩) (fun e=>ah e.symm) _
theorem Lg(w:au)(A:Option aw)(n c:Nat)(f:Nat->Nat)(k m L v:Nat)(hr:fB w w.heap.size A n f)(aT:Ve (ie n f) k)(hk:k<=8388608)(hm:m<=32)(hn:n<=L)(hL:L=(k+m+7)/8)(hv:v<4294967296):
  ax prog 121 #[ai #[af A n c,ae ak (k:Int)],ae .u32 (v:Int),ae ak (m:Int)] w fun e w'=>∃g,e=aq (ai #[af (some ⟨g,0,none⟩) L L,ae ak ((k+m:Nat):Int)])/\
   w.heap.size<=g/\aS w.heap.size w w'/\Row w' g L (Vo (ie n f) k v m):=by
 have aW:L<=2000000:=by omega
 have aY:k+m<=8*L:=by omega
 have HL:=fa hL
 have HR:=fa hr
 have HC:=fa aT
 clear hL hr aT
 go_enter func121,ntmps121
 go_wp2_with fail
 refine(Lc _ A n c f k m L (HR.out.below ((fz.alloc fe _).alloc (by simp) _) fe|>.more (by simp;omega)) hk (by omega) hn HL.out).mono ?_
 rintro e w2 ⟨rfl,hb,ad⟩
 have HB:=fa hb
 have aU:=fa ad
 have aX:=ad.lt
 simp only[World.size_alloc]at aX
 clear hb ad
 go_wp2
 go_loopw [13] (fun i wr=>∃j:Nat,j<=m/\i=ae ak j/\rY wr w2.heap.size (w.heap.size+1+1+1+1) L (k+j)/\Row wr (w.heap.size+1+1+1+1) L (Vo (ie n f) k v j)/\aS (w.heap.size+1+1) w2 wr) (fun i _=>m-(aQ i).toNat)
 case atStart=>
  refine⟨0,Nat.zero_le _,rfl,aH _ _,?_,?_⟩
  ·exact(Row.alloc (by simpa using aU.out) _:Row _ _ L (ie n f))
  ·exact fz.alloc (by omega) _
 case round=>
  obtain⟨j,hj,rfl,hp,ad,ah⟩:=hrel;have HP:=fa hp;have HW:=fa ad;have al:=fa ah;clear hp ad ah;by_cases aV:j<m
  ·go_wp2_with fail
   refine(Lf _ _ _ L (k+j) _ (v/2^j%2) _ (CU v j hv) (Nat.mod_lt _ (by omega)) HP.out HW.out (by omega) (by omega) aW (HC.out.put v j)).mono ?_;rintro e w5 ⟨rfl,h1,h2,h3⟩;have h4:=fa (al.out.trans (h3 (w.heap.size+1+1) (by omega) (by omega)));have h5:=fa h1;have h6:=fa h2;clear h1 h2 h3;go_wp2;go_roundw
   case rel=>exact⟨j+1,aV,by go_num,h5.out,h6.out,h4.out⟩
   case measure=>simp[aQ];omega
  ·obtain rfl:j=m:=by omega
   have d0:wr.cell? ⟨w2.heap.size,0,none⟩=some (af (some ⟨w.heap.size+1+1+1+1,0,none⟩) L L):=by rw[aI _ _ 0 _ 238 (0,0) HP.out];rfl
   have d1:wr.cell? ⟨w2.heap.size,1,none⟩=some (ae ak ((k+j:Nat):Int)):=by rw[aI _ _ 1 _ 238 (0,0) HP.out];rfl
   obtain⟨hc,av⟩:=yQ (HB.out.mono (B':=w.heap.size+1+1) (by simp)|>.trans al.out);have k2:=(hc (w.heap.size+1) 0 (by omega)).trans (by go_simp:_=some (Value.slice none 0 0));have k3:=(hc (w.heap.size+1) 1 (by omega)).trans (by go_simp:_=some (Value.int ak 0));have k4:=(av (w.heap.size+1) 0 (by omega)).trans (by go_simp:_=false);have k5:=(av (w.heap.size+1) 1 (by omega)).trans (by go_simp:_=false);clear hc av;go_wp2;refine bodyPost_ret (v:=ai #[af (some ⟨w.heap.size+1+1+1+1,0,none⟩) L L,ae ak ((k+j:Nat):Int)]) ?_ rfl ⟨_,rfl,by omega,?_,?_⟩
   ·simp[results,Tryz.results121,go_sem,k2,k3]
   ·exact(((fz.alloc fe _).alloc (by simp) _).trans ((HB.out.mono (by simp;omega)).trans (al.out.mono (by omega)))).setCell (by simp) _|>.setCell (by simp) _
   ·exact(HW.out.other (p:=⟨w.heap.size+1,0,none⟩) (by simp;omega) _).other (p:=⟨w.heap.size+1,1,none⟩) (by simp;omega) _
def UQ:List (Nat×Nat)->Nat
 |[]=>0
 |x::l=>x.2+UQ l
def fE(f:Nat->Nat)(k:Nat):List (Nat×Nat)->Nat->Nat
 |[]=>f
 |x::l=>fE (Vo f k x.1 x.2) (k+x.2) l
theorem gm:∀a b,UQ (a++b)=UQ a+UQ b
 |[],b=>by simp[UQ]
 |x::a,b=>by simp only[List.cons_append,UQ,gm a b];omega
theorem ku(f:Nat->Nat)(k:Nat):∀a b,fE f k (a++b)=fE (fE f k a) (k+UQ a) b
 |[],b=>by simp[UQ,fE]
 |x::a,b=>by
  simp only[List.cons_append,UQ,fE];rw[ku _ _ a b,Nat.add_assoc]
theorem Ve.ti{f:Nat->Nat}{k:Nat}(h:Ve f k):∀l,Ve (fE f k l) (k+UQ l)
 |[]=>h
 |x::l=>by
  have:=(h.put x.1 x.2).ti l;simp only[fE,UQ];rwa[Nat.add_assoc]at this
def iG(F:Nat->Nat)(n i:Nat):Nat×Nat:=(Vn (gG F n i) (F i),F i)
def iP(t:fi):Nat:=if t.n=0 then t.x else(gv t.n).toNat
def kl(t:fi):Nat:=(gE t.d).toNat
def gT(F:Nat->Nat)(n:Nat)(G:Nat->Nat)(m:Nat)(t:fi):List (Nat×Nat):=
 if t.n=0 then[iG F n t.x]else[iG F n (gv t.n).toNat,((jK t.n).toNat,(iN t.n).toNat),iG G m (gE t.d).toNat,((jQ t.d).toNat,(jo t.d).toNat)]
def ix(F:Nat->Nat)(n:Nat)(G:Nat->Nat)(m:Nat)(l:List fi):List (Nat×Nat):=l.flatMap (gT F n G m)++[iG F n 256]
def iH(i:Nat):Nat:=if 256<=i/\i<=279 then 7 else if 144<=i/\i<=255 then 9 else 8
def iZ(_:Nat):Nat:=5
def gU(i:Nat):Nat:=[16,17,18,0,8,7,9,6,10,5,11,4,12,3,13,2,14,1,15].getD i 0
def iC(l:List fi)(i:Nat):Nat:=(if i=256 then 1 else 0)+l.countP fun t=>decide (iP t=i)
def iq(l:List fi)(i:Nat):Nat:=l.countP fun t=>decide (t.n≠0/\kl t=i)
theorem Lh(l:List fi)(t:fi)(i:Nat):iC (l++[t]) i=iC l i+if iP t=i then 1 else 0:=by
 unfold iC;rw[List.countP_append,List.countP_singleton];simp only[decide_eq_true_eq];omega
theorem zx(l:List fi)(t:fi)(i:Nat):iq (l++[t]) i=iq l i+if t.n≠0/\kl t=i then 1 else 0:=by
 unfold iq;rw[List.countP_append,List.countP_singleton];simp only[decide_eq_true_eq]
theorem tj(l:List fi)(i:Nat):iC l i<=l.length+1:=by
 have:=List.countP_le_length (p:=fun t=>decide (iP t=i)) (l:=l);unfold iC;split<;>omega
theorem rZ(l:List fi)(i:Nat):iq l i<=l.length:=List.countP_le_length
theorem zy{l:List fi}{t:fi}(h:t∈l):0<iC l (iP t):=by
 have:0<l.countP fun u=>decide (iP u=iP t):=List.countP_pos_iff.2 ⟨t,h,by simp⟩
 unfold iC;omega
theorem zz{l:List fi}{t:fi}(h:t∈l)(hn:t.n≠0):0<iq l (kl t):=List.countP_pos_iff.2 ⟨t,h,by simp[hn]⟩
theorem zA(l:List fi):0<iC l 256:=by unfold iC;rw[if_pos rfl];omega
def jR(c:Nat->Nat)(n:Nat):List Int:=(List.range n).map fun i=>((c i:Nat):Int)
theorem mQ(c:Nat->Nat)(n:Nat):(jR c n).length=n:=by simp[jR]
theorem uP(c:Nat->Nat){n i:Nat}(h:i<n):(jR c n).getD i 0=((c i:Nat):Int):=by
 unfold jR;rw[List.getD_eq_getElem?_getD];simp[h]
theorem DR(c:Nat->Nat){n i:Nat}(h:i<n):fy (jR c n) i=c i:=by unfold fy;rw[uP c h];rfl
theorem wX{c:Nat->Nat}{n:Nat}{fh:Nat}(h1:1<=fh)(h2:fh<=15)(hn:n<=320)(ad:n<=2^fh)(hc:∀i,c i<=1073741824):mM (jR c n) (fh:Int)=0:=by
 unfold mM;rw[mQ,if_neg (by omega),if_neg (by omega),if_neg,if_neg]
 ·have:=rR (fy (jR c n)) n;rw[Int.toNat_natCast];omega
 ·unfold qW;simp only[decide_eq_true_eq];rintro⟨j,hj,hb⟩;rw[uP c hj]at hb;unfold qV at hb;simp only[decide_eq_true_eq]at hb;have:=hc j;omega
def lM(c:Nat->Nat)(n fh:Nat):Nat->Nat:=ng (jR c n) (fh:Int)
theorem tp{c:Nat->Nat}{n:Nat}{fh:Nat}(h1:1<=fh)(h2:fh<=15)(hn:n<=320)(ad:n<=2^fh)(hc:∀i,c i<=1073741824):
  (∀i,lM c n fh i<=fh)/\UY (lM c n fh) n<=32768/\(∀i,i<n->(0<lM c n fh i↔0<c i))/\lM c n fh=iE (fy (jR c n)) n fh/\nI (fy (jR c n)) n<=2^fh:=by
 have ha:=wX h1 h2 hn ad hc
 obtain⟨h3,h4,h5⟩:=zn ha
 rw[mQ]at h4 h5
 obtain⟨_,_,_,_,g5,_⟩:=lk h4
 have ah:nI (fy (jR c n)) n<=2^fh:=Nat.le_trans (rR _ _) ad
 have e:lM c n fh=iE (fy (jR c n)) n fh:=by
  funext i;unfold lM ng;rw[if_pos ha,mQ,Int.toNat_natCast]
 refine⟨fun i=>by rw[e];exact zd _ (by omega) i,g5,fun i hi=>?_,e,ah⟩
 rw[e]
 constructor
 ·intro g;rcases Nat.eq_zero_or_pos (c i)with h0|h0
  ·unfold iE at g;rw[DR c hi,if_pos h0]at g;omega
  ·exact h0
 ·intro g;exact(zc (by omega) ah hi (by rw[DR c hi];exact g)).1
def Vj(f:Nat->Nat)(least:Nat):Nat->Nat
 |0=>least
 |k+1=>if least<=k/\f k≠0 then k+1 else Vj f least k
theorem tq(f:Nat->Nat)(least:Nat):∀n,least<=Vj f least n
 |0=>Nat.le_refl _
 |k+1=>by
  simp only[Vj];split
  ·omega
  ·exact tq f least k
theorem ra(f:Nat->Nat)(least:Nat):∀n,least<=n->Vj f least n<=n
 |0,h=>h
 |k+1,h=>by
  simp only[Vj];split
  ·omega
  ·rename_i g;rcases Nat.eq_or_lt_of_le h with e|e
   ·have:∀j,j<=k->Vj f least j=least:=by
     intro j;induction j with
     |zero=>intro _;rfl
     |succ j ih=>intro hj;simp only[Vj];rw[if_neg (by omega)];exact ih (by omega)
    rw[this k fe];omega
   ·exact Nat.le_trans (ra f least k (by omega)) (by omega)
theorem uQ(f:Nat->Nat)(least:Nat):∀n i,i<n->f i≠0->i<Vj f least n
 |0,i,h,_=>absurd h (by omega)
 |k+1,i,h,hf=>by
  simp only[Vj];split
  ·omega
  ·rename_i g;rcases Nat.eq_or_lt_of_le (Nat.le_of_lt_succ h)with e|e
   ·subst e;have:=tq f least i;have:¬least<=i:=fun h2=>g ⟨h2,hf⟩
    omega
   ·exact uQ f least k i e hf
theorem DS(f:Nat->Nat){a b:Nat}(h:a<=b):UY f a<=UY f b:=by
 induction b with
 |zero=>rw[show a=0 by omega];exact Nat.le_refl _
 |succ b ih=>
  rcases Nat.eq_or_lt_of_le h with h|h
  ·subst h;exact Nat.le_refl _
  ·exact Nat.le_trans (ih (by omega)) (Nat.le_add_right _ _)
def ja(l:List fi):Nat->Nat:=lM (iC l) 286 15
def jb(l:List fi):Nat->Nat:=lM (iq l) 30 15
def nA(l:List fi):Nat:=Vj (ja l) 257 286
def nB(l:List fi):Nat:=Vj (jb l) 1 30
def lN(l:List fi):Nat->Nat:=cat (ja l) (nA l) (jb l)
def ju(l:List fi):List (Int×Int):=ki (lN l) (nA l+nB l) 0
def j0(l:List (Int×Int))(i:Nat):Nat:=l.countP fun r=>decide (r.1=(i:Int))
theorem Li(l:List (Int×Int))(r:Int×Int)(i:Nat):j0 (l++[r]) i=j0 l i+if r.1=(i:Int)then 1 else 0:=by
 unfold j0;rw[List.countP_append,List.countP_singleton];simp only[decide_eq_true_eq]
theorem rb(l:List (Int×Int))(i:Nat):j0 l i<=l.length:=List.countP_le_length
def kW(l:List fi):Nat->Nat:=lM (j0 (ju l)) 19 7
def mr(l:List fi)(i:Nat):Nat:=kW l (gU i)
def nR(l:List fi):Nat:=Vj (mr l) 4 19
def gS(F:Nat->Nat)(r:Int×Int):List (Nat×Nat):=[iG F 19 r.1.toNat,(r.2.toNat,(iR r.1).toNat)]
def jC(l:List fi):List (Nat×Nat):=
 [(nA l-257,5),(nB l-1,5),(nR l-4,4)]++((List.range (nR l)).map fun i=>(mr l i,3))++(ju l).flatMap (gS (kW l))
def jV(a:Nat):Nat:=(8-(a+3)%8)%8
def pK(a n:Nat)(r:Nat->Nat):List (Nat×Nat):=List.replicate (jV a) (0,1)++[(n,16),(65535-n,16)]++((List.range n).map fun i=>(r i,8))
def gp(a kind n:Nat)(r:Nat->Nat)(l:List fi)(last:Bool):List (Nat×Nat):=
 [(if last then 1 else 0,1),(kind,2)]++(if kind=1 then ix iH 288 iZ 32 l else if kind=2 then jC l++ix (ja l) (nA l) (jb l) (nB l) l else pK a n r)
def my(kind n:Nat)(l:List fi):Int:=if 2<kind then 2 else if 65535<n\/65535<l.length then 4 else if l.all fH then 0 else 8
theorem mR{t:fi}(h:fH t=true)(hx:t.x<256):iP t<286/\(t.n=0->iP t=t.x)/\(t.n≠0->nT t.n=0/\ni t.d=0/\257<=iP t/\kl t<30):=by
 unfold fH at h;simp only[decide_eq_true_eq]at h;unfold iP kl;by_cases h0:t.n=0
 ·rw[if_pos h0];exact⟨by omega,fun _=>rfl,fun g=>absurd h0 g⟩
 ·rw[if_neg h0];obtain⟨_,_,h3,h4,h5,h6⟩:t.n≠0/\t.x=0/\3<=t.n/\t.n<=258/\1<=t.d/\t.d<=32768:=by
   rcases h with⟨a,_⟩|h
   ·exact absurd a h0
   ·exact h
  have e1:nT t.n=0:=if_pos ⟨h3,h4⟩;have e2:ni t.d=0:=if_pos ⟨h5,h6⟩;have a1:=(wS (T:=gI) (n:=t.n.toNat) (show 3<=t.n.toNat by omega) 29 (by omega)).1;have a2:=(wS (T:=ic) (n:=t.d.toNat) (show 1<=t.d.toNat by omega) 30 (by omega)).1;have s1:gv t.n=((257+qm t.n:Nat):Int):=if_pos ⟨h3,h4⟩;have s2:gE t.d=((qo t.d:Nat):Int):=if_pos ⟨h5,h6⟩;have b1:qm t.n<29:=a1;have b2:qo t.d<30:=a2;refine⟨by omega,fun g=>absurd g h0,fun _=>⟨e1,e2,by omega,by omega⟩⟩
theorem lO(l:List fi)(hl:l.length<=1000000):
  (∀i,ja l i<=15)/\(∀i,jb l i<=15)/\UY (ja l) (nA l)<=32768/\UY (jb l) (nB l)<=32768/\257<=nA l/\nA l<=286/\1<=nB l/\nB l<=30/\
  (∀i,i<286->0<iC l i->i<nA l/\0<ja l i)/\(∀i,i<30->0<iq l i->i<nB l/\0<jb l i):=by
 obtain⟨a1,a2,a3,_,_⟩:=tp (c:=iC l) (n:=286) (fh:=15) (by omega) (by omega) (by omega) (by decide) (fun i=>by have:=tj l i;omega)
 obtain⟨b1,b2,b3,_,_⟩:=tp (c:=iq l) (n:=30) (fh:=15) (by omega) (by omega) (by omega) (by decide) (fun i=>by have:=rZ l i;omega)
 have c1:=tq (ja l) 257 286
 have c2:=ra (ja l) 257 286 (by omega)
 have d1:=tq (jb l) 1 30
 have d2:=ra (jb l) 1 30 (by omega)
 refine⟨a1,b1,Nat.le_trans (DS _ c2) a2,Nat.le_trans (DS _ d2) b2,c1,c2,d1,d2,fun i hi h=>?_,fun i hi h=>?_⟩
 ·have:=(a3 i hi).2 h;exact⟨uQ _ _ _ i hi (by unfold ja;omega),this⟩
 ·have:=(b3 i hi).2 h;exact⟨uQ _ _ _ i hi (by unfold jb;omega),this⟩
theorem uR(l:List fi)(hl:l.length<=1000000)(i:Nat):lN l i<=15:=by
 obtain⟨h1,h2,_⟩:=lO l hl;unfold lN cat;split
 ·exact h1 _
 ·exact h2 _
def fq(w:au)(B:Nat)(A:Option aw)(n c:Nat)(f:Nat->Nat):Prop:=fB w B A n f/\(A=none->c=0)/\n<=c/\c<=maxLen
theorem fq.below{w w':au}{B B' n c:Nat}{A:Option aw}{f:Nat->Nat}(h:fq w B A n c f)(hb:aS B' w w')(hB:B<=B'):fq w' B A n c f:=⟨h.1.below hb hB,h.2⟩
theorem fq.more{w:au}{B B' n c:Nat}{A:Option aw}{f:Nat->Nat}(h:fq w B A n c f)(hB:B<=B'):fq w B' A n c f:=⟨h.1.more hB,h.2⟩
theorem fq.nil(w:au)(B:Nat)(f:Nat->Nat)(hf:∀j,f j<256):fq w B none 0 0 f:=⟨⟨hf,fun h=>by omega⟩,fun _=>rfl,Nat.le_refl _,by unfold maxLen;omega⟩
theorem fq.gD{w:au}{base n c:Nat}{A:Option aw}{f:Nat->Nat}(h:w.ownsRow base 5 1 (af A n c) n (ft n f))(hf:∀j,f j<256):fq w w.heap.size A n c f:=by
 refine⟨fB.gD h hf,?_⟩;rcases h.2 with⟨hv,h0⟩|⟨g,cap,cur,hv,_,_,h1,h2,_⟩
 ·injection hv with h3 h4 h5
  exact⟨fun _=>h5,by omega,by unfold maxLen;omega⟩
 ·injection hv with h3 h4 h5
  exact⟨(fun h=>by rw[h]at h3;cases h3),by omega,by omega⟩
theorem fB.ext{w:au}{B n:Nat}{A:Option aw}{f g:Nat->Nat}(h:fB w B A n f)(hg:∀j,g j<256)(e:∀j,j<n->f j=g j):fB w B A n g:=by
 refine⟨hg,fun hn=>?_⟩;obtain⟨b,o,rfl,ad,hc⟩:=h.2 hn;exact⟨b,o,rfl,ad,fun j hj=>by rw[<-e j hj];exact hc j hj⟩
theorem fq.ext{w:au}{B n c:Nat}{A:Option aw}{f g:Nat->Nat}(h:fq w B A n c f)(hg:∀j,g j<256)(e:∀j,j<n->f j=g j):fq w B A n c g:=⟨h.1.ext hg e,h.2⟩
theorem DT{H:Type}{enc:aC×ay->H}{W:au}{base:Nat}{sp:Nat->Bool}{hd:Bool}{a:Option aw}{len cap:Nat}{d:DataW H}{p:List MemPlace}
  (h:∃fuel,DataW.trod enc prog W base sp hd fuel 22 (Value.slice a len cap).cells.toList=some (d,p)):∃f,fq W W.heap.size a len cap f:=by
 obtain⟨f,h1,h2,h3,h4⟩:=Kd h
 exact⟨f,h1,h2,h3,h4⟩
theorem fq.drop{w:au}{B n c p:Nat}{a:aw}{A2:Option aw}{f:Nat->Nat}(h:fq w B (some a) n c f)(hp:p<=n)(hA:(if c=p then some a else some (a.add p))=A2):fq w B A2 (n-p) (c-p) (fun j=>f (j+p)):=by
 obtain⟨h1,h2,h3,h4⟩:=h;refine⟨⟨fun j=>h1.1 _,fun hn=>?_⟩,fun h=>?_,by omega,by omega⟩
 ·obtain⟨b,o,e,hb,ad⟩:=h1.2 (by omega);cases e
  rw[if_neg (by omega)]at hA;have e:(⟨b,o,none⟩:aw).add p=⟨b,o+p,none⟩:=by unfold Addr.add;split<;>simp_all
  rw[e]at hA;refine⟨b,o+p,hA.symm,hb,fun j hj=>?_⟩;have:=ad (j+p) (by omega);rw[show o+p+j=o+(j+p) by omega];exact this
 ·rw[h]at hA;split at hA<;>cases hA
theorem Lj(w:au)(n:Nat)(hn:n<=1000000000000):
  ax prog 117 #[af none 0 0,ae ak (n:Int)] w fun e w'=>∃A c,e=aq (af A 0 c)/\w'.ownsRow w.heap.size 5 1 (af A 0 c) 0 []/\aS w.heap.size w w':=by
 rcases Nat.eq_zero_or_pos n with h0|h0
 ·subst h0;go_enter func117,ntmps117
  go_wp2;go_ret;exact⟨none,0,rfl,World.ownsRow_nil _ _ _ _,Below.refl _ _⟩
 ·obtain⟨i0,hi,av,aW,aT⟩:=info_parts ox;have ad:=Lib.run_append_nil_zeros (P:=prog) w 22 3 22 5 i0 (ae .u8 0) ak ak underlying22 underlying3 hi av n h0 (by omega) (by omega) (by rw[aT];omega);have aX:=grownCap_ge w n 0 5;have hle:=grownCap_le_maxLen w n 0 5 (by unfold maxLen;omega);obtain⟨c,hc⟩:=fb (grownCap w n 0 5);rw[<-hc]at ad aX hle;obtain⟨Z,hZ⟩:=fb ((Builtin.zeroCells (Value.int .u8 0).cells n++Builtin.zeroCells (Value.int .u8 0).cells (c-n)));rw[<-hZ]at ad;have aU:Z.size=c*1:=by rw[hZ];simp[size_zeroCells,Value.cells];omega
  have ah:=World.ownsRow_made (base:=w.heap.size) (e:=5) (size:=1) w.drew Z c fe hle aU;have al:aS w.heap.size w (w.drew.alloc (ao Z 5)):=(Below.refl w.heap.size w).drew.alloc fe _;obtain⟨w1,aV⟩:=fb (w.drew.alloc (ao Z 5));rw[<-aV]at ad ah al;have HR:=fa ad;have HO:=fa ah;have HB:=fa al
  unfold maxLen at hle;clear ad ah al hZ aU aV hc hi av aW aT;have hp:(0:Int)<(n:Int):=by omega
  go_enter func117,ntmps117
  go_wp2_with (at_builtin;refine Lib.wpList_append_run _ rfl _ _ _ _ rfl _ _ rfl rfl _ _ HR.out ?_)
  go_ret;exact⟨_,_,rfl,HO.out,HB.out⟩
theorem rf{n:Nat}{f g:Nat->Nat}(h:∀j,j<n->f j=g j):ft n f=ft n g:=by
 unfold ft;exact List.map_congr_left fun j hj=>by rw[h j (List.mem_range.1 hj)]
theorem zB(w:au)(base:Nat)(A:Option aw)(n c:Nat)(F:Nat->Nat)(hF:∀j,F j<256)(ah:w.ownsRow base 5 1 (af A n c) n (ft n F))(x:Nat)(hx:x=F n)(hn:n<=1000000000)(ad:base<=w.heap.size):
  ∃A' c' w',(Builtin.append_ #[22,22] 22 #[af A n c,af (some ⟨w.heap.size,0,none⟩) 1 1]).run prog (w.alloc (ao #[ae .u8 (x:Int)] 5))=.ok (af A' (n+1) c') w'/\
   w'.ownsRow base 5 1 (af A' (n+1) c') (n+1) (ft (n+1) F)/\aS base w w':=by
 subst hx
 have al:aS base w (w.alloc (ao #[ae .u8 (F n:Int)] 5)):=(Below.refl base w).alloc ad _
 have hr:fB (w.alloc (ao #[ae .u8 (F n:Int)] 5)) (w.alloc (ao #[ae .u8 (F n:Int)] 5)).heap.size (some ⟨w.heap.size,0,none⟩) 1 (fun _=>F n):=
  ⟨fun _=>hF n,fun _=>⟨w.heap.size,0,rfl,by simp,fun j hj=>by
   obtain rfl:j=0:=by omega
   rw[aI _ _ _ _ _ (0,0) (aH w _)];rfl⟩⟩
 obtain⟨A',c',w',h1,h2,h3⟩:=wG (w.alloc (ao #[ae .u8 (F n:Int)] 5)) base _ (af A n c) n F (ah.alloc _) (some ⟨w.heap.size,0,none⟩) 1 1 (fun _=>F n) hr (by omega) 22 (fun h=>by cases h) (Nat.le_trans ad al.size)
 refine⟨A',c',w',h1,?_,al.trans h3⟩
 rw[<-rf (f:=cat F n (fun _=>F n)) (g:=F)]
 ·exact h2
 ·intro j hj;unfold cat;split
  ·rfl
  ·rw[show j=n by omega]
theorem Lk(n:Nat)(h:n<=1000000000):∀u:au,(Instr.makeSlice 22 (ae ak 0) (ae ak (n:Int))).run prog u=
   .ok (af (some ⟨u.heap.size,0,none⟩) 0 n) (u.alloc (ao (aK #[ae .u8 0] n) 5)):=fun u=>by
 obtain⟨i0,hi,ad,ah,al⟩:=info_parts ox
 have h:=run_make (P:=prog) u 22 5 i0 _ underlying22 hi ad ak ak 0 (n:Int) (by omega) (by omega) (by rw[al];omega) (by omega)
 rw[Int.toNat_natCast,ah,Nat.mul_one]at h
 exact h
theorem Ll(u:au)(n:Nat)(h:n<=1000000000)(F:Nat->Nat):(u.alloc (ao (aK #[ae .u8 0] n) 5)).ownsRow u.heap.size 5 1 (af (some ⟨u.heap.size,0,none⟩) 0 n) 0 (ft 0 F):=
 World.ownsRow_made u _ n fe (by unfold maxLen;omega) (by simp[aK])
def Vg(n:Nat->Nat):Nat->Nat
 |0=>0
 |k+1=>Vg n k+n k
def Vy(n:Nat->Nat)(f:Nat->Nat->Nat):Nat->Nat->Nat
 |0,_=>0
 |k+1,j=>cat (Vy n f k) (Vg n k) (f k) j
theorem DU{n:Nat->Nat}{f:Nat->Nat->Nat}(hf:∀i j,f i j<256):∀k j,Vy n f k j<256
 |0,_=>by show 0<256;omega
 |k+1,j=>by show cat _ _ _ _<256;exact CX (DU hf k) (hf k) j
theorem wY(n:Nat->Nat){a b:Nat}(h:a<=b):Vg n a<=Vg n b:=by
 induction h with
 |refl=>exact Nat.le_refl _
 |step _ ih=>exact Nat.le_trans ih (Nat.le_add_right _ _)
def VF(w:au)(B:Nat)(A:Option aw)(k:Nat)(n:Nat->Nat)(f:Nat->Nat->Nat):Prop:=
 0<k->∃b o,A=some ⟨b,o,none⟩/\b<B/\∀i,i<k->∃Ai ci,w.cell? ⟨b,o+i,none⟩=some (af Ai (n i) ci)/\fB w B Ai (n i) (f i)/\(Ai=none->ci=0)
theorem VF.below{w w':au}{B B' k:Nat}{A:Option aw}{n:Nat->Nat}{f:Nat->Nat->Nat}(h:VF w B A k n f)(hb:aS B' w w')(hB:B<=B'):VF w' B A k n f:=fun hk=>by
 obtain⟨b,o,h1,h2,h3⟩:=h hk;refine⟨b,o,h1,h2,fun i hi=>?_⟩;obtain⟨Ai,ci,q1,q2,q3⟩:=h3 i hi;exact⟨Ai,ci,by rw[hb.cell (p:=⟨b,o+i,none⟩) (by show b<B';omega)];exact q1,q2.below hb hB,q3⟩
theorem Lm(w:au)(A:Option aw)(k c:Nat)(n:Nat->Nat)(f:Nat->Nat->Nat)(hf:∀i j,f i j<256)(hr:VF w w.heap.size A k n f)(hk:k<=1000000)(hs:Vg n k<=1000000000):
  ax prog 78 #[af A k c] w fun e w'=>∃A' c',e=aq (af A' (Vg n k) c')/\fq w' w'.heap.size A' (Vg n k) c' (Vy n f k)/\aS w.heap.size w w'/\(∀b,A'.map (·.block)=some b->w.heap.size<=b):=by
 have HR:=fa hr;have HF:=fa hf;have HS:=fa hs
 obtain⟨N,hN⟩:=fb (Vg n k)
 rw[<-hN]at hs⊢
 have HN:=fa hN
 clear hr hf hN
 go_enter func78,ntmps78
 go_wp2_with fail
 go_loopw [3,11] (fun s i wr=>∃j q:Nat,j<=k/\i=ae ak (j:Int)/\s=ae ak (q:Int)/\Hid (q=Vg n j)/\w=wr) (fun _ i _=>k-(aQ i).toNat)
 case atStart=>exact⟨0,0,Nat.zero_le _,rfl,rfl,fa rfl,rfl⟩
 case round=>
  obtain⟨j,q,hj,rfl,rfl,HQ,rfl⟩:=hrel;by_cases aZ:j<k
  ·have aV:(j:Int)<(k:Int):=by omega
   obtain⟨b,o,rfl,hb,ah⟩:=HR.out (by omega);obtain⟨Ai,ci,c1,_,_⟩:=ah j aZ;have ad:Vg n (j+1)=q+n j:=by rw[HQ.out];rfl
   have al:=wY n (show j+1<=k by omega);have av:=HS.out;obtain⟨m,hm⟩:=fb (n j);rw[<-hm]at c1 ad;have a5:q+m<=1000000000:=by omega
   have a6:¬((q:Int)+(m:Int)<0):=by omega
   have aT:=fa ad;clear ah ad al av hm;go_wp2;go_roundw
   case rel=>exact⟨j+1,q+m,by omega,by go_num,by go_num,fa aT.out.symm,trivial⟩
   case measure=>simp[aQ];omega
  ·obtain rfl:j=k:=by omega
   have aV:¬(j:Int)<(j:Int):=by omega
   have a1:q=N:=by rw[HQ.out,HN.out]
   subst a1;go_wp2_with fail
   refine(Lj _ q (by omega)).mono ?_;rintro e w1 ⟨A1,c1,rfl,aW,aX⟩;have a2:=fa aW;have a3:=fa aX
   clear aW aX;go_wp2_with fail
   go_loopw [6,27] (fun s i wr=>∃(t p:Nat) (At:Option aw) (ct:Nat),t<=j/\i=ae ak (t:Int)/\s=af At p ct/\Hid (p=Vg n t)/\Hid (wr.ownsRow w.heap.size 5 1 (af At p ct) p (ft p (Vy n f t)))/\Hid (aS w.heap.size w wr)) (fun _ i _=>j-(aQ i).toNat)
   case atStart=>exact⟨0,0,A1,c1,Nat.zero_le _,rfl,rfl,fa rfl,a2,a3⟩
   case round=>
    obtain⟨t,p,At,ct,ht,rfl,rfl,HP,HO,HB⟩:=hrel;by_cases aY:t<j
    ·have aU:(t:Int)<(j:Int):=by omega
     obtain⟨b,o,rfl,hb,ah⟩:=(HR.out.below HB.out fe) (by omega);obtain⟨Ai,ci,k1,k2,k3⟩:=ah t aY;have ad:Vg n (t+1)=p+n t:=by rw[HP.out];rfl
     have al:=wY n (show t+1<=j by omega);have av:=HS.out;obtain⟨A',c',w',r1,r2,r3⟩:=wG wr w.heap.size _ (af At p ct) p _ HO.out Ai (n t) ci (f t) k2 (by omega) 22 k3 HB.out.size;obtain⟨m,hm⟩:=fb (n t);rw[<-hm]at k1 r1 r2 ad;have e1:cat (Vy n f t) p (f t)=Vy n f (t+1):=by funext x;rw[HP.out];rfl
     rw[e1]at r2;have aT:=fa ad;have R1:=fa r1;have R2:=fa r2;have R3:=fa (HB.out.trans r3)
     clear ah ad al av r1 r2 r3 k2 k3 hm e1;go_wp2_with (at_builtin;refine wpList_append_run rfl (.tmp 31) (.tmp 32) 22 rfl (af At p ct) (af Ai m ci) (af A' (p+m) c') w' rfl rfl R1.out ?_)
     go_roundw
     case rel=>exact⟨t+1,p+m,A',c',by omega,by go_num,rfl,fa aT.out.symm,R2,R3⟩
     case measure=>simp[aQ];omega
    ·obtain rfl:t=j:=by omega
     have aU:¬(t:Int)<(t:Int):=by omega
     have a4:p=q:=by rw[HP.out,HN.out]
     subst a4;go_wp2;go_ret;exact⟨At,ct,rfl,fq.gD HO.out (DU HF.out t),HB.out,fun b hb=>by subst hb;exact CZ HO.out b.block rfl⟩
open Go.Joins
def oW:Nat×Nat:=(0,0)
def j4(r:Nat×Nat):List ay:=[ae .u32 (r.1:Int),ae ak (r.2:Int)]
def VG:List (Nat×Nat)->List ay
 |[]=>[]
 |r::l=>j4 r++VG l
theorem DV:∀l,(VG l).length=l.length*2
 |[]=>rfl
 |r::l=>by simp only[VG,List.length_append,List.length_cons,DV l];simp[j4];omega
theorem zC:∀(l:List (Nat×Nat)) (j i:Nat),j<l.length->i<2->(VG l)[j*2+i]?=(j4 (l.getD j oW))[i]?
 |[],j,i,h,_=>absurd h (by simp)
 |r::l,0,i,_,hi=>by
  simp only[VG,Nat.zero_mul,Nat.zero_add];rw[List.getElem?_append_left (by simpa[j4]using hi)];rfl
 |r::l,j+1,i,h,hi=>by
  simp only[VG];rw[List.getElem?_append_right (by simp[j4];omega)];have e:(j+1)*2+i-(j4 r).length=j*2+i:=by simp[j4];omega
  rw[e,zC l j i (by simpa using h) hi];rfl
def tu(w:au)(B:Nat)(A:Option aw)(l:List (Nat×Nat)):Prop:=gR w B 2 A l.length (VG l)
theorem tu.at{w:au}{B:Nat}{A:Option aw}{l:List (Nat×Nat)}(h:tu w B A l){k:Nat}(hk:k<l.length):∃b o,A=some ⟨b,o,none⟩/\b<B/\∀j,j<l.length->
  w.cell? ⟨b,o+j*2,none⟩=some (ae .u32 ((l.getD j oW).1:Int))/\w.cell? ⟨b,o+j*2+1,none⟩=some (ae ak ((l.getD j oW).2:Int)):=by
 obtain⟨b,o,h1,h2,h3⟩:=h.2 (by omega)
 refine⟨b,o,h1,h2,fun j hj=>⟨?_,?_⟩⟩
 ·have:=h3 (j*2+0) _ ((zC l j 0 hj (by omega)).trans rfl);simpa using this
 ·have:=h3 (j*2+1) _ ((zC l j 1 hj (by omega)).trans rfl);rw[show o+j*2+1=o+(j*2+1) by omega];exact this
theorem tu.range{w:au}{B:Nat}{A:Option aw}{l:List (Nat×Nat)}(h:tu w B A l){b o:Nat}(hA:A=some ⟨b,o,none⟩){j:Nat}(hj:j<l.length):w.rangeAt b (o+j*2) (j4 (l.getD j oW)):=by
 obtain⟨b',o',h1,_,h3⟩:=h.at hj;rw[hA]at h1;injection h1 with h1
 injection h1 with hb ho _
 subst hb;subst ho;obtain⟨c0,c1⟩:=h3 j hj;intro i v hv;rcases i with _|_|i
 ·simp[j4]at hv;subst hv;exact c0
 ·simp[j4]at hv;subst hv;exact c1
 ·simp[j4]at hv
theorem mS{w w':au}{base:Nat}{e:aC}{sz:Nat}{v:ay}{n:Nat}{xs:List ay}(h:w.ownsRow base e sz v n xs)(hb:aS w.heap.size w w'):w'.ownsRow base e sz v n xs:=by
 obtain⟨h1,h2⟩:=h;refine⟨h1,?_⟩;rcases h2 with h2|⟨g,cap,cur,hv,hg,hh,r⟩
 ·exact .inl h2
 ·exact .inr ⟨g,cap,cur,hv,hg,(hb.block g (Array.getElem?_eq_some_iff.1 hh).1).trans hh,r⟩
theorem qu{ops:Array aB}{o:aB}{a:Act}{w:au}{K:Act->au->Prop}{Q:Exit->Act->au->Prop}{E:Prop}(ah:o.guard=none)(f:FuncId)(xs:Array Operand)(ts:Array aC)
  (ho:o.op=.call {callee:=.value (.func f),args:=xs,argTypes:=ts}) (eg:∀args w,(callFunc f args).run prog w=.ok (.enter f args) w) (args:Array ay) (hx:xs.map a.eval=args) {R:Ending->au->Prop} (hc:ax prog f args w R)
  (h:∀e w',R e w'->∃v,e=aq v/\K (a.put o.dst v) w'):
  if Region.wanted o (aN ops a.tmps)=true then Oper.wp prog o a w K Q else E:=by
 have hw:Region.wanted o (aN ops a.tmps)=true:=by simp[Region.wanted,ah]
 rw[if_pos hw]
 unfold Oper.wp
 have ad:(execOp a.eval o).run prog w=.ok (.enter f args) w:=by
  simp[execOp,ho,resolve,invoke,hx,go_sem,eg,Deferred.ofValue]
 rw[ad]
 refine hc.mono fun e w' hr=>?_
 obtain⟨v,rfl,hk⟩:=h e w' hr
 exact hk
theorem Ln{ops:Array aB}{o:aB}{a:Act}{w:au}{K:Act->au->Prop}{Q:Exit->Act->au->Prop}{E:Prop}(hw:Region.wanted o (aN ops a.tmps)=true)(f:FuncId)(xs:Array Operand)(ts:Array aC)
  (ho:o.op=.call {callee:=.value (.func f),args:=xs,argTypes:=ts}) (eg:∀args w,(callFunc f args).run prog w=.ok (.enter f args) w) (args:Array ay) (hx:xs.map a.eval=args) {R:Ending->au->Prop} (hc:ax prog f args w R)
  (h:∀e w',R e w'->∃v,e=aq v/\K (a.put o.dst v) w'):
  if Region.wanted o (aN ops a.tmps)=true then Oper.wp prog o a w K Q else E:=by
 rw[if_pos hw]
 unfold Oper.wp
 have ad:(execOp a.eval o).run prog w=.ok (.enter f args) w:=by
  simp[execOp,ho,resolve,invoke,hx,go_sem,eg,Deferred.ofValue]
 rw[ad]
 refine hc.mono fun e w' hr=>?_
 obtain⟨v,rfl,hk⟩:=h e w' hr
 exact hk
theorem Lp{w:au}{X:Nat}{x y p q:ay}(h0:w.cell? ⟨X,0,none⟩=some x)(h1:w.cell? ⟨X,1,none⟩=some y):
  ((w.setCell ⟨X,0,none⟩ p).setCell ⟨X,1,none⟩ q).cell? ⟨X,0,none⟩=some p/\((w.setCell ⟨X,0,none⟩ p).setCell ⟨X,1,none⟩ q).cell? ⟨X,1,none⟩=some q:=
 ⟨(World.cell?_setCell_other _ _ _ _ (by simp)).trans (World.cell?_setCell_same _ _ _ h0),World.cell?_setCell_same _ _ _ ((World.cell?_setCell_other _ _ _ _ (by simp)).trans h1)⟩
theorem tv{ops:Array aB}{o:aB}{a:Act}{w:au}{K:Act->au->Prop}{Q:Exit->Act->au->Prop}{E:Prop}(ah:o.guard=none)(ty:aC)(x y:Operand)(ho:o.op=.store ty x y)(ad:o.dst=none)
  (g:Nat) (cells:Array ay) (hx:a.eval x=ag (some ⟨g,0,none⟩)) (hy:a.eval y=ai cells)
  (t:aC) (old:Array ay) (hg:w.heap[g]?=some (ao old t (0,0))) (hi:(prog.info? ty).map (·.size)=some cells.size) (hold:old.size=cells.size) (h1:cells.all (·.oneCell')=true) (h:K a (w.setRow g cells)):
  if Region.wanted o (aN ops a.tmps)=true then Oper.wp prog o a w K Q else E:=by
 rw[if_pos (by simp[Region.wanted,ah])]
 unfold Oper.wp execOp
 have:=run_storeVar_row (P:=prog) w g t ty old cells hg hi hold h1
 simp[ho,hx,hy,Instr.storeAt,Instr.sureAddr,this,Result.andThen]
 show K (a.put o.dst undef) (w.setRow g cells)
 rw[show a.put o.dst undef=a by rw[ad];rfl]
 exact h
theorem tw{fn:Func}{t u v x:Tmp}(h:fn.results=#[.tmp t,.tmp u,.tmp v,.tmp x])(tmps:Array ay)(P:aA)(w:au):
  (results fn tmps).run P w=.ok (.tuple #[tmps.getD t undef,tmps.getD u undef,tmps.getD v undef,tmps.getD x undef]) w:=by
 simp[results,h,go_sem]
def tz(T:Nat->Int)(n:Nat):List ay:=(List.range n).map fun i=>ae ak (T i)
def jk(T:Nat->Int)(n:Nat):Array ay:=(tz T n).toArray
theorem pL(T:Nat->Int)(n:Nat):(jk T n).size=n:=by simp[jk,tz]
theorem tA(T:Nat->Int)(n:Nat):(jk T n).all (·.oneCell')=true:=
 all_oneCell_toArray fun u hu=>by
  unfold tz at hu;obtain⟨i,_,rfl⟩:=List.mem_map.1 hu;rfl
theorem sb(T:Nat->Int)(n i:Nat)(h:i<n):(jk T n)[i]?=some (ae ak (T i)):=by simp[jk,tz,h]
theorem uS{T T':Nat->Int}{n:Nat}(h:∀i,i<n->T i=T' i):jk T n=jk T' n:=by
 unfold jk tz;congr 1;exact List.map_congr_left fun i hi=>by rw[h i (List.mem_range.1 hi)]
theorem zD(T:Nat->Int)(n i:Nat)(x:Int):(jk T n).setIfInBounds i (ae ak x)=jk (fun k=>if k=i then x else T k) n:=by
 apply Array.ext_getElem?;intro k;rw[Array.getElem?_setIfInBounds,pL];rcases Nat.lt_or_ge k n with h|h
 ·rw[sb _ _ _ h];by_cases e:i=k
  ·subst e;rw[if_pos rfl,if_pos h,sb _ _ _ h,if_pos rfl]
  ·rw[if_neg e,sb _ _ _ h,if_neg (fun g:k=i=>e g.symm)]
 ·have h1:(jk T n)[k]?=none:=Array.getElem?_eq_none (by rw[pL];exact h);have h2:(jk (fun k=>if k=i then x else T k) n)[k]?=none:=Array.getElem?_eq_none (by rw[pL];exact h);rw[h1,h2];by_cases e:i=k
  ·subst e;rw[if_pos rfl,if_neg (by omega)]
  ·rw[if_neg e]
theorem Lr{w:au}{g:Nat}{T:Nat->Int}{n:Nat}{t:aC}(hg:w.heap[g]?=some (ao (jk T n) t (0,0))){i:Nat}(h:i<n):w.cell? ⟨g,i,none⟩=some (ae ak (T i)):=
 (aI w g _ _ _ (0,0) hg).trans (sb T n i h)
theorem oX{B:Nat}{a w:au}(h:aS B a w){g:Nat}(hp:B<=g)(cs:Array ay):aS B a (w.setRow g cs):=
 ⟨h.os,h.tape,h.output,by rw[size_setRow];exact h.size,fun k hk=>(setRow_other w g k cs (by omega)).trans (h.block k hk)⟩
def gi(w:au)(z cs:Array ay)(t:aC):au:=(w.alloc (ao z t)).setRow w.heap.size cs
theorem kO(w:au)(z cs:Array ay)(t:aC):(gi w z cs t).heap[w.heap.size]?=some (ao cs t (0,0)):=setRow_heap _ _ _ _ _ _ (aH w _)
theorem km(w:au)(z cs:Array ay)(t:aC):aS w.heap.size w (gi w z cs t):=oX (fz.alloc fe _) fe cs
theorem wZ(w:au)(z cs:Array ay)(t:aC):(gi w z cs t).heap.size=w.heap.size+1:=by unfold gi;rw[size_setRow];simp
theorem lq{p:Prop}[Decidable p](h:¬p):decide p=false:=by simp[h]
theorem kP{p:Prop}[Decidable p](h:p):decide p=true:=by simp[h]
def gN(k:Nat):Nat:=2^k
theorem DW:(prog.info? 213).map (fun i=>(i.zero,i.size))=some (some (ai (jk (fun _=>0) 19)),19):=by kernel_rfl
theorem DX(T:Nat->Int):(prog.info? 213).map (·.size)=some (jk T 19).size:=by rw[pL];kernel_rfl
theorem Ls:(([16,17,18,0,8,7,9,6,10,5,11,4,12,3,13,2,14,1,15]:List Int).map (Value.int ak)).toArray=jk (fun i=>(gU i:Int)) 19:=by kernel_rfl
end Go.Proofs.YtgokdgcmkcmjeaaGreat
