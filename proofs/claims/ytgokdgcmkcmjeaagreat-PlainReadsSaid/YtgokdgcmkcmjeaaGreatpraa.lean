/-
  Words and walks.
-/
import Derived.Test.YtgokdgcmkcmjeaaGreatRows
import Derived.WalkKit
import Derived.ProofKit
import Derived.Lib.Hide
import Derived.Handy
import Derived.OpenShut
import Derived.ShutString
import Derived.ChangeOld
import Derived.Maps.AppendAt
import Derived.Laws.BytesArg
import Derived.Laws.Rows
import Derived.Deep.AppendLies
import Derived.Deep.QuietTactic
import Derived.BigQuiet
import Derived.BigRegion
import Derived.Deep.RegionLaw
import Derived.Lib.AppendZeros
import Derived.OneCell
import Derived.Deep.MidRow
import Derived.Laws.StructEq
import Derived.Laws.CopyOwn
import Derived.StillTailTactics
set_option maxRecDepth 100000
set_option maxHeartbeats 16000000
namespace Go.Proofs.YtgokdgcmkcmjeaaGreat
open Go.RowKit Go.ChangeShapes Go.WideShapes Go.ChangeAt
open Go.ChangeMaps (open_string shut_string)
theorem own:ownKnob Tryz.prog.godebug=none:=by kernel_rfl
theorem laidOut:laidOutB Tryz.prog=true:=by kernel_rfl
theorem ofInt_nat(W a:Nat)(ha:a<2^W):(BitVec.ofInt W (a:Int)).toNat=a:=by
 rw[BitVec.ofInt_natCast,BitVec.toNat_ofNat];exact Nat.mod_eq_of_lt ha
theorem u32_and(a b:Nat)(ha:a<4294967296)(hb:b<4294967296):bits .and .u32 (a:Int) (b:Int)=((a&&&b:Nat):Int):=by
 have hx:a&&&b<2^32:=Nat.and_lt_two_pow _ (by omega)
 show IntKind.u32.wrap ((BitVec.ofInt 32 (a:Int)&&&BitVec.ofInt 32 (b:Int)).toNat:Int)=_
 rw[BitVec.toNat_and,ofInt_nat 32 a (by omega),ofInt_nat 32 b (by omega),IntKind.wrap_u32]
 omega
theorem u32_or(a b:Nat)(ha:a<4294967296)(hb:b<4294967296):bits .or .u32 (a:Int) (b:Int)=((a|||b:Nat):Int):=by
 have hx:a|||b<2^32:=Nat.or_lt_two_pow (by omega) (by omega)
 show IntKind.u32.wrap ((BitVec.ofInt 32 (a:Int)|||BitVec.ofInt 32 (b:Int)).toNat:Int)=_
 rw[BitVec.toNat_or,ofInt_nat 32 a (by omega),ofInt_nat 32 b (by omega),IntKind.wrap_u32]
 omega
theorem u64_and(a b:Nat)(ha:a<18446744073709551616)(hb:b<18446744073709551616):bits .and .u64 (a:Int) (b:Int)=((a&&&b:Nat):Int):=by
 have hx:a&&&b<2^64:=Nat.and_lt_two_pow _ (by omega)
 show IntKind.u64.wrap ((BitVec.ofInt 64 (a:Int)&&&BitVec.ofInt 64 (b:Int)).toNat:Int)=_
 rw[BitVec.toNat_and,ofInt_nat 64 a (by omega),ofInt_nat 64 b (by omega),IntKind.wrap_u64]
 omega
theorem u32_and_one(a:Nat)(ha:a<4294967296):bits .and .u32 (a:Int) 1=((a%2:Nat):Int):=by
 have:=u32_and a 1 ha (by omega)
 rw[Nat.and_one_is_mod]at this
 exact this
theorem or_add(a b i:Nat)(hb:b<2^i)(ha:2^i∣a):a|||b=a+b:=by
 obtain⟨c,rfl⟩:=ha
 exact(Nat.two_pow_add_eq_or_of_lt hb c).symm
theorem u32_or_add'(a b i:Nat)(ha:a<4294967296)(h:b<4294967296)(hb:a<2^i)(hd:2^i∣b):bits .or .u32 (a:Int) (b:Int)=((a+b:Nat):Int):=by
 rw[u32_or a b ha h,Nat.or_comm,or_add b a i hb hd,Nat.add_comm]
theorem pow_le_32{k:Nat}(h:k≤32):2^k≤4294967296:=by
 have:=Nat.pow_le_pow_right (n:=2) (by omega) h;simpa using this
theorem lt_32{x k:Nat}(hx:x<2^k)(h:k≤32):x<4294967296:=Nat.lt_of_lt_of_le hx (pow_le_32 h)
theorem cast_shr(v k:Nat):((v:Int)/2^k)=((v/2^k:Nat):Int):=by
 rw[Int.natCast_ediv,Int.natCast_pow];rfl
theorem cast_shl(v k:Nat):((v:Int)*2^k)=((v*2^k:Nat):Int):=by
 rw[Int.natCast_mul,Int.natCast_pow];rfl
theorem emod_u32(x:Nat)(h:x<4294967296):(x:Int)%4294967296=(x:Int):=by omega
theorem ret_int{k:IntKind}{a b:Int}(h:a=b):Ending.returned (.int k a)=.returned (.int k b):=by rw[h]
theorem val_int{k:IntKind}{a b:Int}(h:a=b):Value.int k a=.int k b:=by rw[h]
theorem ret_two{k l:IntKind}{a b c d:Int}(h:a=b)(g:c=d):Ending.returned (.tuple #[.int k a,.int l c])=.returned (.tuple #[.int k b,.int l d]):=by rw[h,g]
def RdB(w:World)(B:Nat)(A:Option Addr)(n:Nat)(f:Nat→Nat):Prop:=
 (∀j,f j<256)∧(0<n→∃b o,A=some ⟨b,o,none⟩∧b<B∧∀j,j<n→w.cell? ⟨b,o+j,none⟩=some (.int .u8 (f j:Int)))
theorem RdB.below{w w':World}{B B' n:Nat}{A:Option Addr}{f:Nat→Nat}(h:RdB w B A n f)(hb:Below B' w w')(hB:B≤B'):RdB w' B A n f:=by
 refine⟨h.1,fun hn=>?_⟩
 obtain⟨b,o,rfl,hlt,hc⟩:=h.2 hn
 exact⟨b,o,rfl,hlt,fun j hj=>by rw[hb.cell (p:=⟨b,o+j,none⟩) (by show b<B';omega)];exact hc j hj⟩
theorem RdB.more{w:World}{B B' n:Nat}{A:Option Addr}{f:Nat→Nat}(h:RdB w B A n f)(hB:B≤B'):RdB w B' A n f:=by
 refine⟨h.1,fun hn=>?_⟩
 obtain⟨b,o,rfl,hlt,hc⟩:=h.2 hn
 exact⟨b,o,rfl,by omega,hc⟩
def bytesL(n:Nat)(f:Nat→Nat):List Value:=(List.range n).map fun j=>.int .u8 (f j:Int)
theorem bytesL_get(n:Nat)(f:Nat→Nat)(j:Nat):(bytesL n f)[j]?=if j<n then some (.int .u8 (f j:Int))else none:=by
 unfold bytesL
 by_cases h:j<n<;>simp[h]
theorem bytesL_one(n:Nat)(f:Nat→Nat):∀u∈bytesL n f,u.oneCell'=true:=by
 intro u hu
 simp only[bytesL,List.mem_map]at hu
 obtain⟨j,_,rfl⟩:=hu
 rfl
theorem RdB.of_own{w:World}{base n c:Nat}{A:Option Addr}{e:TypeId}{f:Nat→Nat}(h:w.ownsRow base e 1 (.slice A n c) n (bytesL n f))(hf:∀j,f j<256):RdB w w.heap.size A n f:=by
 refine⟨hf,fun hn=>?_⟩
 obtain⟨g,cap,hv,_,hlt⟩:=h.form hn
 injection hv with hA _ _
 subst hA
 refine⟨g,0,rfl,hlt,fun j hj=>?_⟩
 have:=h.cells (g:=g) rfl j (.int .u8 (f j:Int)) (by rw[bytesL_get,if_pos hj])
 have e:(⟨g,0,none⟩:Addr).add j=⟨g,0+j,none⟩:=by unfold Addr.add;split<;>simp_all
 rw[e]at this
 exact this
theorem infoU8:(Tryz.prog.info? 5).map (fun i=>(i.zero,i.size,i.bytes))=some (some (.int .u8 0),1,1):=by kernel_rfl
theorem run_twin(w:World)(B:Nat)(A:Option Addr)(n c:Nat)(f:Nat→Nat)(hr:RdB w B A n f)(hn:n≤1000000000000)(ty:TypeId)(hA:A=none→c=0):
  ∃A' c' w',(Builtin.append_ #[22,22] ty #[.slice none 0 0,.slice A n c]).run Tryz.prog w=.ok (.slice A' n c') w'∧
   w'.ownsRow w.heap.size 5 1 (.slice A' n c') n (bytesL n f)∧Below w.heap.size w w'∧RdB w' w'.heap.size A' n f:=by
 obtain⟨i0,hi,hz0,hz1,hz2⟩:=info_parts infoU8
 have key:∃v' w',(Builtin.append_ #[22,22] ty #[.slice none 0 0,.slice A n c]).run Tryz.prog w=.ok v' w'∧
   w'.ownsRow w.heap.size 5 1 v' n (bytesL n f)∧w.grownBy w' none:=by
  rcases A with _|ad
  ·have h0:n=0:=by
    rcases Nat.eq_zero_or_pos n with h|h
    ·exact h
    ·obtain⟨b,o,h,_⟩:=hr.2 h;cases h
   subst h0
   obtain rfl:=hA rfl
   exact⟨_,w,run_append_owned_none (P:=Tryz.prog) (w:=w) w.heap.size 22 ty 5 i0 1 Tryz.underlying22 hi (.slice none 0 0) 0 [] (World.ownsRow_nil w _ 5 1),World.ownsRow_nil w _ 5 1,World.grownBy.refl _ _⟩
  ·have hcells:∀j u,(bytesL n f)[j]?=some u→w.cell? (ad.add j)=some u:=by
    intro j u hu
    rw[bytesL_get]at hu
    by_cases hj:j<n
    ·rw[if_pos hj]at hu
     injection hu with hu
     subst hu
     obtain⟨b,o,h,_,hc⟩:=hr.2 (by omega)
     injection h with h
     subst h
     have e:(⟨b,o,none⟩:Addr).add j=⟨b,o+j,none⟩:=by unfold Addr.add;split<;>simp_all
     rw[e];exact hc j hj
    ·rw[if_neg hj]at hu;cases hu
   obtain⟨v',w',h1,h2,h3,_,_⟩:=run_append_own_at (P:=Tryz.prog) w w.heap.size 22 ty 5 i0 (.int .u8 0) 1 1 Tryz.underlying22 hi hz0 hz1 hz2 rfl (by decide)
    (.slice none 0 0) 0 [] (World.ownsRow_nil w _ 5 1) ad n c (bytesL n f) (by simp[bytesL]) hcells (bytesL_one n f) (by unfold maxLen;omega) (by omega) (Nat.le_refl _)
   rw[Nat.zero_add,List.nil_append]at h2
   exact⟨v',w',h1,h2,h3⟩
 obtain⟨v',w',h1,h2,h3⟩:=key
 have hv:∃A' c',v'=.slice A' n c':=by
  rcases h2.2 with⟨rfl,rfl⟩|⟨g,cap,cur,rfl,_⟩
  ·exact⟨_,_,rfl⟩
  ·exact⟨_,_,rfl⟩
 obtain⟨A',c',rfl⟩:=hv
 exact⟨A',c',w',h1,h2,⟨h3.os,h3.tape,h3.output,h3.size,fun k hk=>h3.block k hk (by simp)⟩,RdB.of_own h2 hr.1⟩
def cat(f:Nat→Nat)(n:Nat)(g:Nat→Nat)(j:Nat):Nat:=if j<n then f j else g (j-n)
theorem bytesL_cat(f g:Nat→Nat)(n m:Nat):bytesL n f++bytesL m g=bytesL (n+m) (cat f n g):=by
 apply List.ext_getElem?
 intro j
 rw[List.getElem?_append]
 have hl:(bytesL n f).length=n:=by simp[bytesL]
 rw[hl,bytesL_get,bytesL_get,bytesL_get]
 unfold cat
 by_cases h1:j<n
 ·rw[if_pos h1,if_pos h1,if_pos (by omega),if_pos h1]
 ·rw[if_neg h1,if_neg h1]
  by_cases h2:j-n<m
  ·rw[if_pos h2,if_pos (by omega)]
  ·rw[if_neg h2,if_neg (by omega)]
theorem own_ge{w:World}{base n:Nat}{e:TypeId}{v:Value}{xs:List Value}(h:w.ownsRow base e 1 v n xs):∀k,v.ownBlock=some k→base≤k:=by
 intro k hk
 rcases h.2 with⟨rfl,_⟩|⟨g,cap,cur,rfl,hg,_⟩
 ·simp[Value.ownBlock]at hk
 ·simp[Value.ownBlock]at hk;omega
theorem run_more(w:World)(base B:Nat)(v0:Value)(n:Nat)(f:Nat→Nat)(hown:w.ownsRow base 5 1 v0 n (bytesL n f))(A:Option Addr)(m c:Nat)(g:Nat→Nat)(hr:RdB w B A m g)(hnm:n+m≤1000000000000)(ty:TypeId)
  (hA:A=none→c=0) (hbase:base≤w.heap.size):
  ∃A' c' w',(Builtin.append_ #[22,22] ty #[v0,.slice A m c]).run Tryz.prog w=.ok (.slice A' (n+m) c') w'∧
   w'.ownsRow base 5 1 (.slice A' (n+m) c') (n+m) (bytesL (n+m) (cat f n g))∧Below base w w':=by
 obtain⟨i0,hi,hz0,hz1,hz2⟩:=info_parts infoU8
 have key:∃v' w',(Builtin.append_ #[22,22] ty #[v0,.slice A m c]).run Tryz.prog w=.ok v' w'∧
   w'.ownsRow base 5 1 v' (n+m) (bytesL (n+m) (cat f n g))∧w.grownBy w' v0.ownBlock:=by
  rcases A with _|ad
  ·have h0:m=0:=by
    rcases Nat.eq_zero_or_pos m with h|h
    ·exact h
    ·obtain⟨b,o,h,_⟩:=hr.2 h;cases h
   subst h0
   obtain rfl:=hA rfl
   refine⟨v0,w,run_append_owned_none (P:=Tryz.prog) (w:=w) base 22 ty 5 i0 1 Tryz.underlying22 hi v0 n _ hown,?_,World.grownBy.refl _ _⟩
   rw[←bytesL_cat]
   simpa[bytesL]using hown
  ·have hcells:∀j u,(bytesL m g)[j]?=some u→w.cell? (ad.add j)=some u:=by
    intro j u hu
    rw[bytesL_get]at hu
    by_cases hj:j<m
    ·rw[if_pos hj]at hu
     injection hu with hu
     subst hu
     obtain⟨b,o,h,_,hc⟩:=hr.2 (by omega)
     injection h with h
     subst h
     have e:(⟨b,o,none⟩:Addr).add j=⟨b,o+j,none⟩:=by unfold Addr.add;split<;>simp_all
     rw[e];exact hc j hj
    ·rw[if_neg hj]at hu;cases hu
   obtain⟨v',w',h1,h2,h3,_,_⟩:=run_append_own_at (P:=Tryz.prog) w base 22 ty 5 i0 (.int .u8 0) 1 1 Tryz.underlying22 hi hz0 hz1 hz2 rfl (by decide)
    v0 n _ hown ad m c (bytesL m g) (by simp[bytesL]) hcells (bytesL_one m g) (by unfold maxLen;omega) (by omega) hbase
   rw[bytesL_cat]at h2
   exact⟨v',w',h1,h2,h3⟩
 obtain⟨v',w',h1,h2,h3⟩:=key
 have hv:∃A' c',v'=.slice A' (n+m) c':=by
  rcases h2.2 with⟨rfl,h⟩|⟨g,cap,cur,rfl,_⟩
  ·exact⟨none,0,by rw[h]⟩
  ·exact⟨_,_,rfl⟩
 obtain⟨A',c',rfl⟩:=hv
 exact⟨A',c',w',h1,h2,(Below.refl base w).grown h3 hbase (own_ge hown)⟩
theorem wpList_append_run{P:Program}{w:World}{ops:Array Oper}{rest:List Oper}{o:Oper}{a:Act}{Q:Exit→Act→World→Prop}(hgd:o.guard=none)(s x:Operand)(t:TypeId)
  (ho:o.op=.call {callee:=.builtin .append,args:=#[s,x],argTypes:=#[t,t]}) (v u v':Value) (w':World) (hs:a.eval s=v) (hx:a.eval x=u)
  (hrun:(Builtin.append_ #[t,t] o.type #[v,u]).run P w=.ok v' w') (h:wpList P ops Q rest (a.put o.dst v') w'):wpList P ops Q (o::rest) a w:=by
 refine wpList_plain hgd fun K hK=>?_
 unfold Oper.wp
 simp[execOp,ho,resolve,invoke,builtin,hs,hx,hrun,Result.andThen]
 exact hK _ _ h
def strB(n:Nat)(f:Nat→Nat):ByteArray:=strOfNums ((List.range n).map fun j=>(f j:Int))
theorem strB_zero(f:Nat→Nat):strB 0 f=ByteArray.empty:=rfl
theorem run_str{w:World}{B:Nat}{A:Option Addr}{n:Nat}{f:Nat→Nat}(hr:RdB w B A n f)(c:Nat):
  (convert 22 9 (.slice A n c)).run Tryz.prog w=.ok (.string (strB n f)) w:=by
 rcases Nat.eq_zero_or_pos n with h0|h0
 ·subst h0
  rcases A with _|⟨b,o,s⟩
  ·rw[strB_zero];exact run_convert_bytes_nil w 22 5 Tryz.underlying22 Tryz.underlying5 0 c 9 Tryz.underlying9
  ·rw[run_convert_bytes_string w 22 9 5 _ 0 c Tryz.underlying22 Tryz.underlying5 Tryz.underlying9,run_bytesToString w _ 0 c [] (by simpa using run_loadCells_list (P:=Tryz.prog) w ⟨b,o,s⟩ [] (by simp))]
   rfl
 ·obtain⟨b,o,rfl,_,hc⟩:=hr.2 h0
  exact run_convert_bytes_arg w 22 5 Tryz.underlying22 Tryz.underlying5 b o n c _ (by simp) (fun i hi=>by rw[hc i hi];simp[List.getD,hi]) 9 Tryz.underlying9
theorem open_bytes{H:Type}{enc:TypeId×Value→H}{W:World}{base:Nat}{sp:Nat→Bool}{hd:Bool}{a:Option Addr}{len cap:Nat}{d:DataW H}{p:List MemPlace}
  (h:∃fuel,DataW.trod enc Tryz.prog W base sp hd fuel 22 (Value.slice a len cap).cells.toList=some (d,p)):
  ∃f,RdB W W.heap.size a len f∧(a=none→cap=0)∧len≤cap∧cap≤maxLen:=by
 obtain⟨fuel,hf⟩:=h
 rcases open_ints Tryz.underlying22 Tryz.underlying5 (by kernel_rfl) hf with⟨hcs,_⟩|⟨x,l,c,zs,hcs,_,hl,hm,hz,_,hcell,hwz⟩
 ·simp[Value.cells]at hcs
  obtain⟨rfl,rfl,rfl⟩:=hcs
  exact⟨fun _=>0,⟨fun _=>by show 0<256;omega,fun h=>by omega⟩,fun _=>rfl,Nat.le_refl _,by unfold maxLen;omega⟩
 ·simp[Value.cells]at hcs
  obtain⟨rfl,rfl,rfl⟩:=hcs
  have hbd:∀j,0≤zs.getD j 0∧zs.getD j 0<256:=by
   intro j
   rcases Nat.lt_or_ge j zs.length with hj|hj
   ·have:=hwz (zs.getD j 0) (by simp[List.getD,hj])
    simp[Lit.wf,IntKind.min,IntKind.max,IntKind.signed,IntKind.bits]at this
    simp[List.getD,hj]
    simp[hj]at this
    omega
   ·simp[List.getD,List.getElem?_eq_none hj]
  refine⟨fun j=>(zs.getD j 0).toNat,⟨fun j=>by have:=hbd j;show(zs.getD j 0).toNat<256;omega,fun hn=>?_⟩,(fun h=>by cases h),hl,hm⟩
  have hzl:len≤zs.length:=by rw[hz];split<;>omega
  obtain⟨b,off,spot⟩:=x
  have h0:=hcell 0 (by omega)
  have hspot:spot=none:=by simpa[Addr.add]using World.cell?_spot h0
  subst hspot
  have hlt:b<W.heap.size:=by
   rcases Nat.lt_or_ge b W.heap.size with h|h
   ·exact h
   ·simp[Addr.add,World.cell?,Array.getElem?_eq_none h]at h0
  refine⟨b,off,rfl,hlt,fun j hj=>?_⟩
  have hb:=hbd j
  have h1:=hcell j (by omega)
  have e:(⟨b,off,none⟩:Addr).add j=⟨b,off+j,none⟩:=by unfold Addr.add;split<;>simp_all
  rw[e]at h1
  rw[h1,Int.toNat_of_nonneg hb.1]
def upd(f:Nat→Nat)(i x:Nat):Nat→Nat:=fun j=>if j=i then x else f j
def RowW(w:World)(g n:Nat)(f:Nat→Nat):Prop:=∃cur:Array Value,w.heap[g]?=some (.cells cur 5 (0,0))∧∀j,j<n→cur[j]?=some (.int .u8 (f j:Int))
theorem RowW.lt{w:World}{g n:Nat}{f:Nat→Nat}(h:RowW w g n f):g<w.heap.size:=by
 obtain⟨cur,h1,_⟩:=h;exact(Array.getElem?_eq_some_iff.1 h1).1
theorem RowW.cell{w:World}{g n:Nat}{f:Nat→Nat}(h:RowW w g n f){j:Nat}(hj:j<n):w.cell? ⟨g,j,none⟩=some (.int .u8 (f j:Int)):=by
 obtain⟨cur,h1,h2⟩:=h
 rw[cell_of_row w g j _ _ (0,0) h1];exact h2 j hj
theorem RowW.frozen{w:World}{g n:Nat}{f:Nat→Nat}(h:RowW w g n f)(j:Nat):w.frozen? ⟨g,j,none⟩=false:=by
 obtain⟨cur,h1,_⟩:=h;exact frozen_of_row w g j _ _ h1
theorem RowW.set{w:World}{g n:Nat}{f:Nat→Nat}(h:RowW w g n f)(i x:Nat):RowW (w.setCell ⟨g,i,none⟩ (.int .u8 (x:Int))) g n (upd f i x):=by
 obtain⟨cur,h1,h2⟩:=h
 refine⟨cur.setIfInBounds i (.int .u8 (x:Int)),heap_setCell_same w g i cur _ _ h1,fun j hj=>?_⟩
 rw[Array.getElem?_setIfInBounds,upd]
 have hs:j<cur.size:=by
  rcases Nat.lt_or_ge j cur.size with h|h
  ·exact h
  ·have:=h2 j hj;rw[Array.getElem?_eq_none h]at this;cases this
 by_cases e:i=j
 ·subst e;simp[hs]
 ·have e':¬j=i:=fun h=>e h.symm
  simp[e,e',h2 j hj]
theorem RowW.below{w w':World}{g n B:Nat}{f:Nat→Nat}(h:RowW w g n f)(hb:Below B w w')(hg:g<B):RowW w' g n f:=by
 obtain⟨cur,h1,h2⟩:=h;exact⟨cur,(hb.block g hg).trans h1,h2⟩
theorem RowW.rd{w:World}{g n:Nat}{f:Nat→Nat}(h:RowW w g n f)(hf:∀j,f j<256):RdB w w.heap.size (some ⟨g,0,none⟩) n f:=
 ⟨hf,fun _=>⟨g,0,rfl,h.lt,fun j hj=>by rw[Nat.zero_add];exact h.cell hj⟩⟩
theorem RowW.ext{w:World}{g n:Nat}{f f':Nat→Nat}(h:RowW w g n f)(e:∀j,j<n→f j=f' j):RowW w g n f':=by
 obtain⟨cur,h1,h2⟩:=h;exact⟨cur,h1,fun j hj=>by rw[h2 j hj,e j hj]⟩
theorem wf_u8_range{n:Int}(h:(Lit.int .u8 n).wf=true):0≤n∧n<256:=by
 simp[Lit.wf,IntKind.min,IntKind.max,IntKind.signed,IntKind.bits]at h;omega
theorem wf_i64_range{n:Int}(h:(Lit.int .i64 n).wf=true): -9223372036854775808≤n∧n≤9223372036854775807:=by
 simp[Lit.wf,IntKind.min,IntKind.max,IntKind.signed,IntKind.bits]at h;omega
end Go.Proofs.YtgokdgcmkcmjeaaGreat
namespace Go.Proofs.YtgokdgcmkcmjeaaGreat
open Go.RowKit Go.ChangeShapes Go.WideShapes Go.ChangeAt
def SrcL(w:World)(B sz:Nat)(A:Option Addr)(m:Nat)(ys:List Value):Prop:=
 ys.length=m*sz∧(0<m→∃b o,A=some ⟨b,o,none⟩∧b<B∧∀j u,ys[j]?=some u→w.cell? ⟨b,o+j,none⟩=some u)
theorem SrcL.none_(w:World)(B sz:Nat)(A:Option Addr):SrcL w B sz A 0 []:=⟨by simp,fun h=>absurd h (by omega)⟩
theorem SrcL.below{w w':World}{B B' sz m:Nat}{A:Option Addr}{ys:List Value}(h:SrcL w B sz A m ys)(hb:Below B' w w')(hB:B≤B'):SrcL w' B sz A m ys:=by
 refine⟨h.1,fun hn=>?_⟩
 obtain⟨b,o,rfl,hlt,hc⟩:=h.2 hn
 exact⟨b,o,rfl,hlt,fun j u hu=>by rw[hb.cell (p:=⟨b,o+j,none⟩) (by show b<B';omega)];exact hc j u hu⟩
theorem SrcL.more{w:World}{B B' sz m:Nat}{A:Option Addr}{ys:List Value}(h:SrcL w B sz A m ys)(hB:B≤B'):SrcL w B' sz A m ys:=by
 refine⟨h.1,fun hn=>?_⟩
 obtain⟨b,o,rfl,hlt,hc⟩:=h.2 hn
 exact⟨b,o,rfl,by omega,hc⟩
theorem SrcL.new(w:World)(sz m:Nat)(cs:Array Value)(t:TypeId)(h:cs.size=m*sz):SrcL (w.alloc (.cells cs t)) (w.alloc (.cells cs t)).heap.size sz (some ⟨w.heap.size,0,none⟩) m cs.toList:=
 ⟨by simpa using h,fun _=>⟨w.heap.size,0,rfl,by simp,fun j u hu=>by rw[Nat.zero_add,cell_of_row _ _ j cs t (0,0) (heap_alloc_new w _)];simpa using hu⟩⟩
theorem SrcL.of_own{w:World}{base sz n c:Nat}{e:TypeId}{A:Option Addr}{xs:List Value}(h:w.ownsRow base e sz (.slice A n c) n xs):SrcL w w.heap.size sz A n xs:=by
 refine⟨h.1,fun hn=>?_⟩
 obtain⟨g,cap,hv,_,hlt⟩:=h.form hn
 injection hv with hA _ _
 subst hA
 refine⟨g,0,rfl,hlt,fun j u hu=>?_⟩
 have:=h.cells (g:=g) rfl j u hu
 have e:(⟨g,0,none⟩:Addr).add j=⟨g,0+j,none⟩:=by unfold Addr.add;split<;>simp_all
 rw[e]at this
 exact this
theorem own_geS{w:World}{base sz n:Nat}{e:TypeId}{v:Value}{xs:List Value}(h:w.ownsRow base e sz v n xs):∀k,v.ownBlock=some k→base≤k:=by
 intro k hk
 rcases h.2 with⟨rfl,_⟩|⟨g,cap,cur,rfl,hg,_⟩
 ·simp[Value.ownBlock]at hk
 ·simp[Value.ownBlock]at hk;omega
theorem run_app{T E:TypeId}{z:Value}{sz by_:Nat}(hT:Tryz.prog.underlying T=some (.slice E))(hI:(Tryz.prog.info? E).map (fun i=>(i.zero,i.size,i.bytes))=some (some z,sz,by_))(hz:z.cells.size=sz)(hsz:0<sz)
  (w:World) (base B:Nat) (v0:Value) (n:Nat) (xs:List Value) (hown:w.ownsRow base E sz v0 n xs) (A:Option Addr) (m c:Nat) (ys:List Value) (hr:SrcL w B sz A m ys) (h1:∀u∈ys,u.oneCell'=true)
  (hnm:n+m≤maxLen) (hby:(n+m)*by_≤140737488355328) (ty:TypeId) (hA:A=none→c=0) (hbase:base≤w.heap.size):
  ∃A' c' w',(Builtin.append_ #[T,T] ty #[v0,.slice A m c]).run Tryz.prog w=.ok (.slice A' (n+m) c') w'∧w'.ownsRow base E sz (.slice A' (n+m) c') (n+m) (xs++ys)∧Below base w w':=by
 obtain⟨i0,hi,hz0,hz1,hz2⟩:=info_parts hI
 have key:∃v' w',(Builtin.append_ #[T,T] ty #[v0,.slice A m c]).run Tryz.prog w=.ok v' w'∧w'.ownsRow base E sz v' (n+m) (xs++ys)∧w.grownBy w' v0.ownBlock:=by
  rcases A with _|ad
  ·have h0:m=0:=by
    rcases Nat.eq_zero_or_pos m with h|h
    ·exact h
    ·obtain⟨b,o,h,_⟩:=hr.2 h;cases h
   subst h0
   obtain rfl:=hA rfl
   have hy:ys=[]:=List.length_eq_zero_iff.1 (by have:=hr.1;omega)
   subst hy
   refine⟨v0,w,run_append_owned_none (P:=Tryz.prog) (w:=w) base T ty E i0 sz hT hi v0 n _ hown,?_,World.grownBy.refl _ _⟩
   simpa using hown
  ·have hcells:∀j u,ys[j]?=some u→w.cell? (ad.add j)=some u:=by
    intro j u hu
    have hm:0<m:=by
     rcases Nat.eq_zero_or_pos m with h|h
     ·have hy:ys=[]:=List.length_eq_zero_iff.1 (by have:=hr.1;rw[h]at this;omega)
      rw[hy]at hu;cases hu
     ·exact h
    obtain⟨b,o,h,_,hc⟩:=hr.2 hm
    injection h with h
    subst h
    have e:(⟨b,o,none⟩:Addr).add j=⟨b,o+j,none⟩:=by unfold Addr.add;split<;>simp_all
    rw[e];exact hc j u hu
   obtain⟨v',w',h1,h2,h3,_,_⟩:=run_append_own_at (P:=Tryz.prog) w base T ty E i0 z sz by_ hT hi hz0 hz1 hz2 hz hsz v0 n xs hown ad m c ys hr.1 hcells h1 hnm hby hbase
   exact⟨v',w',h1,h2,h3⟩
 obtain⟨v',w',h1,h2,h3⟩:=key
 have hv:∃A' c',v'=.slice A' (n+m) c':=by
  rcases h2.2 with⟨rfl,h⟩|⟨g,cap,cur,rfl,_⟩
  ·exact⟨none,0,by rw[h]⟩
  ·exact⟨_,_,rfl⟩
 obtain⟨A',c',rfl⟩:=hv
 exact⟨A',c',w',h1,h2,(Below.refl base w).grown h3 hbase (own_geS hown)⟩
def intsL(l:List Int):List Value:=l.map (Value.int .i64)
theorem intsL_get(l:List Int)(j:Nat):(intsL l)[j]?=(l[j]?).map (Value.int .i64):=by unfold intsL;simp
theorem infoInt:(Tryz.prog.info? 3).map (fun i=>(i.zero,i.size,i.bytes))=some (some (.int .i64 0),1,8):=by kernel_rfl
def RdI(w:World)(B:Nat)(A:Option Addr)(l:List Int):Prop:=SrcL w B 1 A l.length (intsL l)
theorem RdI.below{w w':World}{B B':Nat}{A:Option Addr}{l:List Int}(h:RdI w B A l)(hb:Below B' w w')(hB:B≤B'):RdI w' B A l:=SrcL.below h hb hB
theorem RdI.more{w:World}{B B':Nat}{A:Option Addr}{l:List Int}(h:RdI w B A l)(hB:B≤B'):RdI w B' A l:=SrcL.more h hB
theorem RdI.at{w:World}{B:Nat}{A:Option Addr}{l:List Int}(h:RdI w B A l){k:Nat}(hk:k<l.length):∃b o,A=some ⟨b,o,none⟩∧b<B∧∀j,j<l.length→w.cell? ⟨b,o+j,none⟩=some (.int .i64 (l.getD j 0)):=by
 obtain⟨b,o,rfl,hb,hc⟩:=h.2 (by omega)
 refine⟨b,o,rfl,hb,fun j hj=>hc j _ ?_⟩
 rw[intsL_get,List.getElem?_eq_getElem hj,List.getD_eq_getElem?_getD,List.getElem?_eq_getElem hj]
 rfl
theorem RdI.of_own{w:World}{base c n:Nat}{A:Option Addr}{l:List Int}(h:w.ownsRow base 3 1 (.slice A n c) n (intsL l)):n=l.length∧RdI w w.heap.size A l:=by
 have hl:(intsL l).length=n*1:=h.1
 have e:n=l.length:=by simp[intsL]at hl;omega
 subst e
 exact⟨rfl,SrcL.of_own h⟩
theorem open_intl{H:Type}{enc:TypeId×Value→H}{W:World}{base:Nat}{sp:Nat→Bool}{hd:Bool}{a:Option Addr}{len cap:Nat}{d:DataW H}{p:List MemPlace}
  (h:∃fuel,DataW.trod enc Tryz.prog W base sp hd fuel 24 (Value.slice a len cap).cells.toList=some (d,p)):
  ∃l:List Int,len=l.length∧RdI W W.heap.size a l∧(a=none→cap=0)∧(len≤cap∧cap≤maxLen)∧(∀x∈l,-9223372036854775808≤x∧x≤9223372036854775807):=by
 obtain⟨fuel,hf⟩:=h
 rcases open_ints Tryz.underlying24 Tryz.underlying3 (by kernel_rfl) hf with⟨hcs,_⟩|⟨x,l,c,zs,hcs,_,hl,hm,hz,_,hcell,hwz⟩
 ·simp[Value.cells]at hcs
  obtain⟨rfl,rfl,rfl⟩:=hcs
  exact⟨[],rfl,SrcL.none_ _ _ _ _,fun _=>rfl,⟨Nat.le_refl _,by unfold maxLen;omega⟩,fun x hx=>by simp at hx⟩
 ·simp[Value.cells]at hcs
  obtain⟨rfl,rfl,rfl⟩:=hcs
  have hzl:len≤zs.length:=by rw[hz];split<;>omega
  have hlen:(zs.take len).length=len:=by rw[List.length_take];omega
  refine⟨zs.take len,hlen.symm,⟨by simp[intsL],fun hn=>?_⟩,(fun h=>by cases h),⟨hl,hm⟩,fun y hy=>?_⟩
  ·obtain⟨b,off,spot⟩:=x
   have h0:=hcell 0 (by omega)
   have hspot:spot=none:=by simpa[Addr.add]using World.cell?_spot h0
   subst hspot
   have hlt:b<W.heap.size:=by
    rcases Nat.lt_or_ge b W.heap.size with h|h
    ·exact h
    ·simp[Addr.add,World.cell?,Array.getElem?_eq_none h]at h0
   refine⟨b,off,rfl,hlt,fun j u hu=>?_⟩
   have hj:j<len:=by
    rcases Nat.lt_or_ge j len with h|h
    ·exact h
    ·rw[List.getElem?_eq_none (by simp[intsL];omega)]at hu;cases hu
   have h1:=hcell j (by omega)
   have e:(⟨b,off,none⟩:Addr).add j=⟨b,off+j,none⟩:=by unfold Addr.add;split<;>simp_all
   rw[e]at h1
   rw[h1,←hu,intsL_get,List.getElem?_take,if_pos hj,List.getElem?_eq_getElem (by omega)]
   simp[List.getD,show j<zs.length by omega]
  ·exact wf_i64_range (hwz y (List.mem_of_mem_take hy))
def natsI(l:List Nat):List Int:=l.map fun(x:Nat)=>(x:Int)
theorem natsI_length(l:List Nat):(natsI l).length=l.length:=by simp[natsI]
theorem natsI_get(l:List Nat)(j:Nat):(natsI l).getD j 0=((l.getD j 0:Nat):Int):=by
 unfold natsI
 rw[List.getD_eq_getElem?_getD,List.getD_eq_getElem?_getD,List.getElem?_map]
 cases l[j]?<;>rfl
theorem own_cap{w:World}{base n c:Nat}{e:TypeId}{A:Option Addr}{xs:List Value}(h:w.ownsRow base e 1 (.slice A n c) n xs):n≤c∧c≤maxLen∧(A=none→n=0∧c=0):=by
 rcases h.2 with⟨hv,h0⟩|⟨g,cap,cur,hv,_,_,h1,h2,_⟩
 ·injection hv with h3 h4 h5
  exact⟨by omega,by unfold maxLen;omega,fun _=>⟨by omega,h5⟩⟩
 ·injection hv with h3 h4 h5
  exact⟨by omega,by omega,fun h=>by rw[h]at h3;cases h3⟩
theorem run_one(w:World)(base:Nat)(A:Option Addr)(n c:Nat)(xs:List Int)(hown:w.ownsRow base 3 1 (.slice A n c) n (intsL xs))(x:Int)(hn:n≤1000000)(hbase:base≤w.heap.size):
  ∃A' c' w',(Builtin.append_ #[24,24] 24 #[.slice A n c,.slice (some ⟨w.heap.size,0,none⟩) 1 1]).run Tryz.prog (w.alloc (.cells #[.int .i64 x] 3))=.ok (.slice A' (n+1) c') w'∧
   w'.ownsRow base 3 1 (.slice A' (n+1) c') (n+1) (intsL (xs++[x]))∧Below base w w':=by
 have hb1:Below base w (w.alloc (.cells #[.int .i64 x] 3)):=(Below.refl base w).alloc hbase _
 obtain⟨A',c',w',h2,o2,b2⟩:=run_app (z:=.int .i64 0) (by_:=8) Tryz.underlying24 infoInt rfl (by decide) (w.alloc (.cells #[.int .i64 x] 3)) base _ (.slice A n c) n _ (hown.alloc _) _ 1 1 _
  (SrcL.new w 1 1 #[.int .i64 x] 3 rfl) (fun u hu=>by simp at hu;subst hu;rfl) (by unfold maxLen;omega) (by omega) 24 (fun h=>by cases h) (Nat.le_trans hbase hb1.size)
 refine⟨A',c',w',h2,?_,hb1.trans b2⟩
 have e:intsL xs++(#[Value.int .i64 x]:Array Value).toList=intsL (xs++[x]):=by simp[intsL]
 rw[e]at o2
 exact o2
theorem rdI_new(w:World)(l:List Int)(cs:Array Value)(h:cs.toList=intsL l):RdI (w.alloc (.cells cs 3)) (w.alloc (.cells cs 3)).heap.size (some ⟨w.heap.size,0,none⟩) l:=by
 have h1:=SrcL.new w 1 l.length cs 3 (by rw[←Array.length_toList,h];simp[intsL])
 rw[h]at h1
 exact h1
theorem ownsRow_same{w w':World}{base:Nat}{e:TypeId}{size:Nat}{v:Value}{n:Nat}{xs:List Value}(h:w.ownsRow base e size v n xs)(hh:∀g,base≤g→w'.heap[g]?=w.heap[g]?):w'.ownsRow base e size v n xs:=by
 obtain⟨h1,h2⟩:=h
 refine⟨h1,?_⟩
 rcases h2 with h2|⟨g,cap,cur,hv,hg,hb,r⟩
 ·exact .inl h2
 ·exact .inr ⟨g,cap,cur,hv,hg,(hh g hg).trans hb,r⟩
theorem ownsRow_lower{w:World}{base base':Nat}{e:TypeId}{size:Nat}{v:Value}{n:Nat}{xs:List Value}(h:w.ownsRow base e size v n xs)(hb:base'≤base):w.ownsRow base' e size v n xs:=by
 obtain⟨h1,h2⟩:=h
 refine⟨h1,?_⟩
 rcases h2 with h2|⟨g,cap,cur,hv,hg,r⟩
 ·exact .inl h2
 ·exact .inr ⟨g,cap,cur,hv,by omega,r⟩
end Go.Proofs.YtgokdgcmkcmjeaaGreat
namespace Go.Proofs.YtgokdgcmkcmjeaaGreat
open Go.RowKit
theorem rowW_made(w:World)(n:Nat):RowW (w.alloc (.cells (madeCells #[.int .u8 0] n) 5)) w.heap.size n (fun _=>0):=by
 refine⟨_,heap_alloc_new w _,fun j hj=>?_⟩
 unfold madeCells
 have e1:j%1=0:=by omega
 simp[hj,e1]
theorem make_u8(n:Nat)(h:n≤1000):∀u:World,(Instr.makeSlice 22 (.int .i64 (n:Int)) (.int .i64 (n:Int))).run Tryz.prog u=
   .ok (.slice (some ⟨u.heap.size,0,none⟩) n n) (u.alloc (.cells (madeCells #[.int .u8 0] n) 5)):=fun u=>by
 obtain⟨i0,hi,hz0,hz1,hz2⟩:=info_parts infoU8
 have h:=run_make (P:=Tryz.prog) u 22 5 i0 (.int .u8 0) Tryz.underlying22 hi hz0 .i64 .i64 (n:Int) (n:Int) (by omega) (Int.le_refl _) (by rw[hz2];omega) (by omega)
 rw[Int.toNat_natCast]at h
 simpa[hz1,Value.cells]using h
end Go.Proofs.YtgokdgcmkcmjeaaGreat
namespace Go.Proofs.YtgokdgcmkcmjeaaGreat
def pt(m:Nat):Nat:=32768/2^m
theorem pt_mul{a b:Nat}(h:a≤b)(hb:b≤15):pt a=pt b*2^(b-a):=by
 unfold pt
 have e:(32768:Nat)=2^(15-b)*2^b:=by rw[←Nat.pow_add,show 15-b+b=15 by omega]
 have e2:(2:Nat)^b=2^(b-a)*2^a:=by rw[←Nat.pow_add,show b-a+a=b by omega]
 have ha:0<2^a:=Nat.two_pow_pos a
 have hb0:0<2^b:=Nat.two_pow_pos b
 rw[e,Nat.mul_div_cancel _ hb0]
 rw[e2,←Nat.mul_assoc,Nat.mul_div_cancel _ ha]
theorem pt_pos{m:Nat}(h:m≤15):0<pt m:=by
 have:=pt_mul h (Nat.le_refl 15)
 rw[this];exact Nat.mul_pos (by decide) (Nat.two_pow_pos _)
theorem pt_le(m:Nat):pt m≤32768:=Nat.div_le_self _ _
theorem pt_half(m:Nat):pt (m+1)=pt m/2:=by unfold pt;rw[Nat.pow_succ,Nat.div_div_eq_div_mul]
theorem pt_dvd{a b:Nat}(h:a≤b)(hb:b≤15):pt b∣pt a:=⟨2^(b-a),pt_mul h hb⟩
def allN(f:Nat→Nat):Nat→Nat
 |0=>0
 |n+1=>allN f n+if 0<f n then pt (f n)else 0
def usedN(f:Nat→Nat):Nat→Nat
 |0=>0
 |n+1=>usedN f n+if 0<f n then 1 else 0
def inN(f:Nat→Nat)(m:Nat):Nat→Nat
 |0=>0
 |n+1=>inN f m n+if f n=m then pt m else 0
def sumTo(f:Nat→Nat)(n:Nat):Nat→Nat
 |0=>0
 |m+1=>sumTo f n m+inN f (m+1) n
def stN(f:Nat→Nat)(n m i:Nat):Nat:=sumTo f n (m-1)+inN f m i
def codeB(f:Nat→Nat)(n i:Nat):Nat:=if f i=0 then 0 else stN f n (f i) i/pt (f i)
theorem inN_mono(f:Nat→Nat)(m:Nat){a b:Nat}(h:a≤b):inN f m a≤inN f m b:=by
 induction b with
 |zero=>rw[show a=0 by omega];exact Nat.le_refl _
 |succ b ih=>
  rcases Nat.eq_or_lt_of_le h with h|h
  ·subst h;exact Nat.le_refl _
  ·exact Nat.le_trans (ih (by omega)) (Nat.le_add_right _ _)
theorem inN_step{f:Nat→Nat}{m a b:Nat}(h:a<b)(hf:f a=m):inN f m a+pt m≤inN f m b:=by
 have:=inN_mono f m (show a+1≤b by omega)
 simp only[inN,hf,if_true]at this
 exact this
theorem sumTo_mono(f:Nat→Nat)(n:Nat){a b:Nat}(h:a≤b):sumTo f n a≤sumTo f n b:=by
 induction b with
 |zero=>rw[show a=0 by omega];exact Nat.le_refl _
 |succ b ih=>
  rcases Nat.eq_or_lt_of_le h with h|h
  ·subst h;exact Nat.le_refl _
  ·exact Nat.le_trans (ih (by omega)) (Nat.le_add_right _ _)
theorem sumTo_more(f:Nat→Nat)(n:Nat):∀M,sumTo f (n+1) M=sumTo f n M+if 0<f n∧f n≤M then pt (f n)else 0
 |0=>by rw[if_neg (by omega)];rfl
 |M+1=>by
  simp only[sumTo,inN]
  rw[sumTo_more f n M]
  by_cases h1:f n=M+1
  ·rw[if_pos h1,if_neg (by omega),if_pos (by omega),h1];omega
  ·by_cases h2:0<f n∧f n≤M
   ·rw[if_neg h1,if_pos h2,if_pos (by omega)];omega
   ·rw[if_neg h1,if_neg h2,if_neg (by omega)];omega
theorem sumTo_none(f:Nat→Nat):∀M,sumTo f 0 M=0
 |0=>rfl
 |M+1=>by simp only[sumTo,inN];rw[sumTo_none f M]
theorem allN_sum(f:Nat→Nat):∀n,(∀j,j<n→f j≤15)→allN f n=sumTo f n 15
 |0,_=>(sumTo_none f 15).symm
 |n+1,h=>by
  rw[sumTo_more,←allN_sum f n (fun j hj=>h j (by omega))]
  simp only[allN]
  have:=h n (by omega)
  by_cases h1:0<f n
  ·rw[if_pos h1,if_pos ⟨h1,this⟩]
  ·rw[if_neg h1,if_neg (fun g=>h1 g.1)]
theorem st_end{f:Nat→Nat}{n m i:Nat}(hi:i<n)(hf:f i=m)(hm:0<m):stN f n m i+pt m≤sumTo f n m:=by
 obtain⟨k,rfl⟩:∃k,m=k+1:=⟨m-1,by omega⟩
 have:=inN_step hi hf
 unfold stN
 rw[Nat.add_sub_cancel]
 simp only[sumTo];omega
theorem st_all{f:Nat→Nat}{n i:Nat}(hi:i<n)(h:∀j,j<n→f j≤15)(hp:0<f i):stN f n (f i) i+pt (f i)≤allN f n:=by
 rw[allN_sum f n h]
 exact Nat.le_trans (st_end hi rfl hp) (sumTo_mono f n (h i hi))
theorem inN_dvd(f:Nat→Nat)(m:Nat):∀n,pt m∣inN f m n
 |0=>⟨0,rfl⟩
 |n+1=>by
  simp only[inN]
  refine Nat.dvd_add (inN_dvd f m n) ?_
  split
  ·exact Nat.dvd_refl _
  ·exact⟨0,rfl⟩
theorem sumTo_dvd(f:Nat→Nat)(n:Nat){b:Nat}(hb:b≤15):∀m,m≤b→pt b∣sumTo f n m
 |0,_=>⟨0,rfl⟩
 |m+1,h=>Nat.dvd_add (sumTo_dvd f n hb m (by omega)) (Nat.dvd_trans (pt_dvd h hb) (inN_dvd f (m+1) n))
theorem st_dvd(f:Nat→Nat)(n i:Nat){m:Nat}(hm:m≤15):pt m∣stN f n m i:=
 Nat.dvd_add (sumTo_dvd f n hm (m-1) (by omega)) (inN_dvd f m i)
theorem codeB_st{f:Nat→Nat}{n i:Nat}(hp:0<f i)(h:f i≤15):codeB f n i*pt (f i)=stN f n (f i) i:=by
 unfold codeB
 rw[if_neg (by omega)]
 exact Nat.div_mul_cancel (st_dvd f n i h)
theorem in_cover(f:Nat→Nat)(m:Nat):∀n r,r<inN f m n→∃i,i<n∧f i=m∧inN f m i≤r∧r<inN f m i+pt m
 |0,r,h=>by simp[inN]at h
 |n+1,r,h=>by
  by_cases h1:r<inN f m n
  ·obtain⟨i,hi,h2,h3⟩:=in_cover f m n r h1
   exact⟨i,by omega,h2,h3⟩
  ·simp only[inN]at h
   split at h
   ·rename_i hf
    exact⟨n,by omega,hf,by omega,h⟩
   ·omega
theorem sum_cover(f:Nat→Nat)(n:Nat):∀M r,r<sumTo f n M→∃i,i<n∧0<f i∧f i≤M∧stN f n (f i) i≤r∧r<stN f n (f i) i+pt (f i)
 |0,r,h=>by simp[sumTo]at h
 |M+1,r,h=>by
  by_cases h1:r<sumTo f n M
  ·obtain⟨i,hi,h2,h3,h4⟩:=sum_cover f n M r h1
   exact⟨i,hi,h2,by omega,h4⟩
  ·simp only[sumTo]at h
   obtain⟨i,hi,hf,h2,h3⟩:=in_cover f (M+1) n (r-sumTo f n M) (by omega)
   refine⟨i,hi,by omega,by omega,?_,?_⟩<;>(unfold stN;rw[hf,Nat.add_sub_cancel];omega)
def bigB(f:Nat→Nat)(n:Nat)(most:Int):Bool:=decide (∃j,j<n∧most<(f j:Int))
def endE(all used:Nat):Int:=if 32768<all then 30 else if all=32768∨used=0∨(used=1∧all=16384)then 0 else 31
def checkE(f:Nat→Nat)(n:Nat)(most:Int):Int:=
 if most<1∨15<most then 2 else if 320<n then 4 else if bigB f n most=true then 2 else endE (allN f n) (usedN f n)
theorem bigB_false{f:Nat→Nat}{n:Nat}{most:Int}(h:bigB f n most=false):∀j,j<n→(f j:Int)≤most:=by
 intro j hj
 have:=of_decide_eq_false h
 have h2:¬(most<(f j:Int)):=fun g=>this ⟨j,hj,g⟩
 omega
theorem check_ok{f:Nat→Nat}{n:Nat}{most:Int}(h:checkE f n most=0):
  1≤most∧most≤15∧n≤320∧(∀j,j<n→(f j:Int)≤most)∧allN f n≤32768∧(allN f n=32768∨usedN f n=0∨(usedN f n=1∧allN f n=16384)):=by
 unfold checkE at h
 by_cases h1:most<1∨15<most
 ·rw[if_pos h1]at h;cases h
 ·rw[if_neg h1]at h
  by_cases h2:320<n
  ·rw[if_pos h2]at h;cases h
  ·rw[if_neg h2]at h
   cases h3:bigB f n most with
   |true=>rw[h3,if_pos rfl]at h;cases h
   |false=>
    rw[h3,if_neg (by decide)]at h
    unfold endE at h
    by_cases h4:32768<allN f n
    ·rw[if_pos h4]at h;cases h
    ·rw[if_neg h4]at h
     by_cases h5:allN f n=32768∨usedN f n=0∨(usedN f n=1∧allN f n=16384)
     ·exact⟨by omega,by omega,by omega,bigB_false h3,by omega,h5⟩
     ·rw[if_neg h5]at h;cases h
theorem fits_code{f:Nat→Nat}{n i:Nat}(hi:i<n)(h:∀j,j<n→f j≤15)(ha:allN f n≤32768):codeB f n i<2^f i:=by
 by_cases h0:0<f i
 ·have h1:=st_all hi h h0
  have h2:=codeB_st (n:=n) h0 (h i hi)
  have h3:=pt_mul (h i hi) (Nat.le_refl 15)
  have h4:pt (f i)*2^f i=32768:=by
   rw[h3,show pt 15=1 from rfl,Nat.one_mul,←Nat.pow_add,show 15-f i+f i=15 by have:=h i hi;omega]
  have hp:=pt_pos (h i hi)
  rw[←h2]at h1
  refine Nat.lt_of_mul_lt_mul_right (a:=pt (f i)) ?_
  rw[Nat.mul_comm (2^f i),h4]
  omega
 ·have:f i=0:=by omega
  unfold codeB
  rw[if_pos this,this];decide
theorem used_le(f:Nat→Nat):∀n,usedN f n≤n
 |0=>Nat.le_refl _
 |n+1=>by have:=used_le f n;simp only[usedN];split<;>omega
theorem used_none{f:Nat→Nat}:∀n,usedN f n=0→∀j,j<n→f j=0
 |0,_,j,hj=>by omega
 |n+1,h,j,hj=>by
  simp only[usedN]at h
  have h1:¬0<f n:=fun g=>by rw[if_pos g]at h;omega
  rcases Nat.eq_or_lt_of_le (Nat.le_of_lt_succ hj)with e|e
  ·subst e;omega
  ·exact used_none n (by omega) j e
theorem bigB_mk{f:Nat→Nat}{n:Nat}{most:Int}(h:∀j,j<n→(f j:Int)≤most):bigB f n most=false:=by
 apply decide_eq_false
 rintro⟨j,hj,hl⟩
 have:=h j hj;omega
theorem bigB_yes{f:Nat→Nat}{n k:Nat}{most:Int}(hk:k<n)(h:most<(f k:Int)):bigB f n most=true:=decide_eq_true ⟨k,hk,h⟩
end Go.Proofs.YtgokdgcmkcmjeaaGreat
namespace Go.Proofs.YtgokdgcmkcmjeaaGreat
def bitsR(s:Int):Nat:=if s=16 then 2 else if s=17 then 3 else if s=18 then 7 else 0
def timesR(s x:Int):Nat:=if s=16∨s=17 then x.toNat+3 else if s=18 then x.toNat+11 else 1
def valR(s:Int)(out:List Nat):Nat:=if s=16 then out.getLast?.getD 0 else if s<16 then s.toNat else 0
def strR(n:Nat):List (Int×Int)→List Nat→Int×List Nat
 |[],out=>if out.length=n then(0,out)else(100,[])
 |(s,x)::rs,out=>if s<0∨18<s∨x<0∨(2^bitsR s:Nat)≤x then(8,[])else
   if(s=16∧out=[])∨n<out.length+timesR s x then(100,[])else strR n rs (out++List.replicate (timesR s x) (valR s out))
end Go.Proofs.YtgokdgcmkcmjeaaGreat
namespace Go.Proofs.YtgokdgcmkcmjeaaGreat
def bitE(s:Int):Int:=if 0≤s∧s≤18 then 0 else 2
def bitV(s:Int):Int:=if 0≤s∧s≤18 then(bitsR s:Nat)else 0
def strO(l:List (Int×Int))(n:Int):Int×List Nat:=if n<0∨320<n then(2,[])else strR n.toNat l []
end Go.Proofs.YtgokdgcmkcmjeaaGreat
namespace Go.Proofs.YtgokdgcmkcmjeaaGreat
structure Rises (T X:Nat→Nat) (N hi:Nat):Prop where
 pos:0<N
 up:∀i,i+1<N→T i<T (i+1)∧T (i+1)≤T i+2^X i
 last:T (N-1)≤hi∧hi<T (N-1)+2^X (N-1)
theorem Rises.mono{T X:Nat→Nat}{N hi:Nat}(h:Rises T X N hi){i:Nat}:∀d,i+d<N→T i+d≤T (i+d)
 |0,_=>Nat.le_refl _
 |d+1,hd=>by
  have:=h.mono (i:=i) d (by omega)
  have:=(h.up (i+d) (by omega)).1
  rw[Nat.add_assoc]at this
  omega
def longT(i:Nat):Nat:=[3,4,5,6,7,8,9,10,11,13,15,17,19,23,27,31,35,43,51,59,67,83,99,115,131,163,195,227,258].getD i 0
def longX(i:Nat):Nat:=[0,0,0,0,0,0,0,0,1,1,1,1,2,2,2,2,3,3,3,3,4,4,4,4,5,5,5,5,0].getD i 0
def farT(i:Nat):Nat:=[1,2,3,4,5,7,9,13,17,25,33,49,65,97,129,193,257,385,513,769,1025,1537,2049,3073,4097,6145,8193,12289,16385,24577].getD i 0
def farX(i:Nat):Nat:=[0,0,0,0,1,1,2,2,3,3,4,4,5,5,6,6,7,7,8,8,9,9,10,10,11,11,12,12,13,13].getD i 0
theorem all_lt{P:Nat→Prop}[DecidablePred P]{n:Nat}(h:((List.range n).all fun i=>decide (P i))=true):∀i,i<n→P i:=fun i hi=>by
 have:=List.all_eq_true.1 h i (List.mem_range.2 hi)
 exact of_decide_eq_true this
theorem longs_rise:Rises longT longX 29 258 where
 pos:=by omega
 up:=fun i hi=>all_lt (P:=fun i=>longT i<longT (i+1)∧longT (i+1)≤longT i+2^longX i) (n:=28) (by decide+kernel) i (by omega)
 last:=by decide
theorem fars_rise:Rises farT farX 30 32768 where
 pos:=by omega
 up:=fun i hi=>all_lt (P:=fun i=>farT i<farT (i+1)∧farT (i+1)≤farT i+2^farX i) (n:=29) (by decide+kernel) i (by omega)
 last:=by decide
theorem long_next:∀i,i<28→i≠27→longT (i+1)=longT i+2^longX i:=fun i hi hn=>
 all_lt (P:=fun i=>i≠27→longT (i+1)=longT i+2^longX i) (n:=28) (by decide+kernel) i hi hn
end Go.Proofs.YtgokdgcmkcmjeaaGreat
namespace Go.Proofs.YtgokdgcmkcmjeaaGreat
def lbE(s:Int):Int:=if 257≤s∧s≤285 then 0 else 90
def lbV(s:Int):Int:=if 257≤s∧s≤285 then((longX (s-257).toNat:Nat):Int)else 0
def loE(s x:Int):Int:=if 257≤s∧s≤285 then(if x<0∨((2^longX (s-257).toNat:Nat):Int)≤x then 2 else if s=284∧x=31 then 90 else 0)else 90
def loV(s x:Int):Int:=if loE s x=0 then((longT (s-257).toNat:Nat):Int)+x else 0
def fbE(s:Int):Int:=if 0≤s∧s≤29 then 0 else 90
def fbV(s:Int):Int:=if 0≤s∧s≤29 then((farX s.toNat:Nat):Int)else 0
def foE(s x:Int):Int:=if 0≤s∧s≤29 then(if x<0∨((2^farX s.toNat:Nat):Int)≤x then 2 else 0)else 90
def foV(s x:Int):Int:=if foE s x=0 then((farT s.toNat:Nat):Int)+x else 0
theorem longX_le(i:Nat):longX i≤5:=by
 rcases Nat.lt_or_ge i 29 with h|h
 ·exact all_lt (P:=fun i=>longX i≤5) (n:=29) (by decide+kernel) i h
 ·unfold longX;rw[List.getD_eq_getElem?_getD,List.getElem?_eq_none (by simpa using h)];exact Nat.zero_le _
theorem farX_le(i:Nat):farX i≤13:=by
 rcases Nat.lt_or_ge i 30 with h|h
 ·exact all_lt (P:=fun i=>farX i≤13) (n:=30) (by decide+kernel) i h
 ·unfold farX;rw[List.getD_eq_getElem?_getD,List.getElem?_eq_none (by simpa using h)];exact Nat.zero_le _
end Go.Proofs.YtgokdgcmkcmjeaaGreat
namespace Go.Proofs.YtgokdgcmkcmjeaaGreat
structure Tok where
 x:Nat
 d:Int
 n:Int
def copL(all:List Nat)(d n:Nat):List Nat:=(List.range n).map fun i=>all.getD (all.length-d+i%d) 0
def stpT(all:List Nat)(t:Tok):List Nat:=if t.n=0 then all++[t.x]else all++copL all t.d.toNat t.n.toNat
def lenT(t:Tok):Nat:=if t.n=0 then 1 else t.n.toNat
end Go.Proofs.YtgokdgcmkcmjeaaGreat
namespace Go.Proofs.YtgokdgcmkcmjeaaGreat
open Go.RowKit
structure After (n:Nat) (U:World) where
 w:World
 h:Below n U w
instance After.some(n:Nat)(U:World):Inhabited (After n U):=⟨⟨U,Below.refl n U⟩⟩
theorem wp_region_after{P:Program}{id:Nat}{Q:Exit→Act→World→Prop}{a:Act}{w:World}{l:List Oper}(n:Nat)(U:World)(hU:Below n U w)(hm:P.follows .mixedOrders=true)(hB:Region.lexB .any l.toArray=true)
  (h:wpQuiet P l.toArray (fun V=>∃p:After n U,V=p.w) (fun a'=>∀V,(∃p:After n U,V=p.w)→Q .normal a' V) l a):(Code.region id l.toArray true).wp P Q a w:=
 wp_region_quiet (C:=fun V=>∃p:After n U,V=p.w) hm hB ⟨⟨_,hU.drew⟩,rfl⟩ (by simpa using h)
theorem call_after{P:Program}{f:FuncId}{args:Array Value}{n:Nat}{U:World}{v:Value}(h:∀V,Below n U V→Calls P f args V fun e V'=>e=.returned v∧Below n U V')(p:After n U):
  Calls P f args p.w fun e w''=>e=.returned v∧∃q:After n U,w''=q.w:=
 (h p.w p.h).mono fun _ _ ⟨he,hb⟩=>⟨he,⟨_,hb⟩,rfl⟩
theorem quiet_load_row{P:Program}{C:World→Prop}{K:Act→Prop}{a:Act}{o:Oper}(ty:TypeId)(x:Operand)(ho:o.op=.load ty x)(b k:Nat)(hx:a.eval x=.pointer (some ⟨b,k,none⟩))(cs:List Value)(d:TypeDesc)
  (hS:∀V,C V→V.rangeAt b k cs) (hu:P.underlying ty=some d) (hd:d.isRow=true) (hi:(P.info? ty).map (·.size)=some cs.length) (hk:K (a.put o.dst (.agg cs.toArray))):o.quiet P a C K:=
 ⟨_,fun w hw=>by
  unfold Oper.quietAt execOp
  simp only[ho,hx,Instr.loadAt,Instr.sureAddr,Sem.run_bind,Sem.run_pure,Result.andThen_ok,run_loadVar_mid w b k ty cs d (hS w hw) hu hd hi]
  exact⟨rfl,rfl⟩,hk⟩
end Go.Proofs.YtgokdgcmkcmjeaaGreat
namespace Go.Proofs.YtgokdgcmkcmjeaaGreat
open Go.RowKit
def bitAt(f:Nat→Nat)(k:Nat):Nat:=f (k/8)/2^(k%8)%2
theorem bitAt_lt(f:Nat→Nat)(k:Nat):bitAt f k<2:=Nat.mod_lt _ (by omega)
def numN(f:Nat→Nat)(at_:Nat):Nat→Nat
 |0=>0
 |i+1=>numN f at_ i+bitAt f (at_+i)*2^i
theorem numN_lt(f:Nat→Nat)(at_:Nat):∀i,numN f at_ i<2^i
 |0=>by simp[numN]
 |i+1=>by
  have:=numN_lt f at_ i
  have h2:=bitAt_lt f (at_+i)
  have:bitAt f (at_+i)*2^i≤1*2^i:=Nat.mul_le_mul_right _ (by omega)
  simp only[numN,Nat.pow_succ];omega
theorem bit_any(w:World)(B:Nat)(A:Option Addr)(n c:Nat)(f:Nat→Nat)(k:Nat)(hr:RdB w B A n f)(hk:k<8*n)(hn:n≤9223372036854775807/8):
  Calls Tryz.prog 135 #[.slice A n c,.int .i64 (k:Int)] w fun e w'=>e=.returned (.int .u32 (bitAt f k:Nat))∧w=w':=by
 obtain⟨hf,hc⟩:=hr
 obtain⟨b,o,rfl,hb,hc⟩:=hc (by omega)
 have hcell:=hc (k/8) (by omega)
 have hlt:k/8<n:=by omega
 have hf8:=hf (k/8)
 clear hc
 go_enter Tryz.func135,Tryz.ntmps135
 go_wp2
 go_ret
 refine⟨ret_int ?_,rfl⟩
 have h5:f (k/8)/2^(k%8)<256:=Nat.lt_of_le_of_lt (Nat.div_le_self _ _) hf8
 rw[cast_shr,emod_u32 _ (by omega),u32_and_one _ (by omega)]
 rfl
theorem take_arg(w:World)(A:Option Addr)(l c:Nat)(a n:Int)(h:a<0∨n<0∨32<n):
  Calls Tryz.prog 94 #[.slice A l c,.int .i64 a,.int .i64 n] w fun e w'=>e=.returned (.tuple #[.int .u32 0,.int .i64 2])∧w=w':=by
 by_cases h1:a<0
 ·go_enter Tryz.func94,Tryz.ntmps94
  go_wp2
  go_ret2
  exact⟨rfl,rfl⟩
 ·by_cases h2:n<0
  ·go_enter Tryz.func94,Tryz.ntmps94
   go_wp2
   go_ret2
   exact⟨rfl,rfl⟩
  ·have h3:32<n:=by omega
   clear h
   go_enter Tryz.func94,Tryz.ntmps94
   go_wp2
   go_ret2
   exact⟨rfl,rfl⟩
theorem take_end(w:World)(A:Option Addr)(l c:Nat)(a n:Nat)(ha:a≤9223372036854775807)(hn:n≤32)(hl:l≤1000000000000)(h:8*l<a+n):
  Calls Tryz.prog 94 #[.slice A l c,.int .i64 (a:Int),.int .i64 (n:Int)] w fun e w'=>e=.returned (.tuple #[.int .u32 0,.int .i64 10])∧w=w':=by
 go_enter Tryz.func94,Tryz.ntmps94
 go_wp2
 go_ret2
 exact⟨rfl,rfl⟩
theorem take_ok(w:World)(B:Nat)(A:Option Addr)(l c:Nat)(f:Nat→Nat)(a n:Nat)(hr:RdB w B A l f)(hn:n≤32)(hl:l≤1000000000000)(h:a+n≤8*l):
  Calls Tryz.prog 94 #[.slice A l c,.int .i64 (a:Int),.int .i64 (n:Int)] w fun e w'=>e=.returned (.tuple #[.int .u32 (numN f a n:Nat),.int .i64 0])∧w=w':=by
 have HR:=Lib.hid hr
 clear hr
 go_enter Tryz.func94,Tryz.ntmps94
 go_wp2
 go_loop [8,9,31] (fun t _ i=>∃k:Nat,k≤n∧i=.int .i64 k∧t=.int .u32 (numN f a k:Nat)) (fun _ _ i=>n-(intOf i).toNat)
 case atStart=>exact⟨0,Nat.zero_le _,rfl,rfl⟩
 case round=>
  obtain⟨k,hk,rfl,rfl⟩:=hrel
  have hb:=numN_lt f a k
  have hb2:numN f a k<4294967296:=lt_32 hb (by omega)
  have h4:=bitAt_lt f (a+k)
  by_cases hlt:k<n
  ·go_wp2_with (go_at_call 135;refine(bit_any _ B _ _ _ f (a+k) HR.out (by omega) (by omega)).mono ?_;rintro e w' ⟨rfl,rfl⟩)
   refine⟨⟨k+1,hlt,by go_num,val_int ?_⟩,by simp[intOf];omega⟩
   have h6:bitAt f (a+k)*2^k≤1*2^k:=Nat.mul_le_mul_right _ (by omega)
   have h7:=pow_le_32 (k:=k+1) (by omega)
   rw[Nat.pow_succ]at h7
   have h8:bitAt f (a+k)*2^k<4294967296:=by omega
   rw[cast_shl,emod_u32 _ h8,u32_or_add' _ _ k hb2 h8 hb (Nat.dvd_mul_left _ _)]
   rfl
  ·go_wp2
   go_ret2
   exact⟨ret_two (by rw[show k=n by omega]) rfl,rfl⟩
def shrN(v j:Nat):Nat:=v/2^j
theorem shrN_zero(v:Nat):shrN v 0=v:=by simp[shrN]
theorem shrN_succ(v j:Nat):shrN v (j+1)=shrN v j/2:=by unfold shrN;rw[Nat.pow_succ,←Nat.div_div_eq_div_mul]
theorem shrN_le(v j:Nat):shrN v j≤v:=Nat.div_le_self _ _
def powN(j:Nat):Nat:=2^j
theorem powN_zero:powN 0=1:=rfl
theorem powN_succ(j:Nat):powN (j+1)=2*powN j:=by unfold powN;rw[Nat.pow_succ,Nat.mul_comm]
theorem powN_le(j:Nat)(h:j≤63):powN j≤9223372036854775808:=by
 have:=Nat.pow_le_pow_right (n:=2) (by omega) h;simpa[powN]using this
theorem rbit_any(w:World)(B:Nat)(A:Option Addr)(n c:Nat)(f:Nat→Nat)(k:Nat)(hr:RdB w B A n f)(hk:k<8*n)(hn:n≤1000000000000):
  Calls Tryz.prog 141 #[.slice A n c,.int .i64 (k:Int)] w fun e w'=>e=.returned (.int .u32 (bitAt f k:Nat))∧w=w':=by
 obtain⟨hf,hc⟩:=hr
 obtain⟨b,o,rfl,hb,hc⟩:=hc (by omega)
 have hcell:=hc (k/8) (by omega)
 have hlt:k/8<n:=by omega
 have hf8:=hf (k/8)
 clear hc hf
 go_enter Tryz.func141,Tryz.ntmps141
 go_wp2
 go_loop [5,6] (fun t i=>∃j:Nat,j≤k%8∧i=.int .i64 j∧t=.int .i64 (shrN (f (k/8)) j:Nat)) (fun _ i=>8-(intOf i).toNat)
 case atStart=>exact⟨0,Nat.zero_le _,rfl,by rw[shrN_zero]⟩
 case round=>
  obtain⟨j,hj,rfl,rfl⟩:=hrel
  have h5:=shrN_le (f (k/8)) j
  have h6:=shrN_succ (f (k/8)) j
  have H6:=Lib.hid h6;clear h6
  by_cases hlt:j<k%8
  ·go_wp2
   refine⟨⟨j+1,hlt,by go_num,val_int ?_⟩,by simp[intOf];omega⟩
   rw[H6.out];omega
  ·go_wp2
   go_ret
   obtain rfl:j=k%8:=by omega
   refine⟨ret_int ?_,rfl⟩
   show _=((shrN (f (k/8)) (k%8)%2:Nat):Int)
   omega
theorem power_any(w:World)(n:Nat)(hn:n<64):
  Calls Tryz.prog 142 #[.int .i64 (n:Int)] w fun e w'=>e=.returned (.int .u64 (powN n:Nat))∧w=w':=by
 go_enter Tryz.func142,Tryz.ntmps142
 go_wp2
 go_loop [3,4] (fun t i=>∃j:Nat,j≤n∧i=.int .i64 j∧t=.int .u64 (powN j:Nat)) (fun _ i=>n-(intOf i).toNat)
 case atStart=>exact⟨0,Nat.zero_le _,rfl,by rw[powN_zero];rfl⟩
 case round=>
  obtain⟨j,hj,rfl,rfl⟩:=hrel
  by_cases hlt:j<n
  ·have hp:=powN_le (j+1) (by omega)
   rw[powN_succ]at hp
   have H:=Lib.hid (powN_succ j)
   go_wp2
   refine⟨⟨j+1,hlt,by go_num,val_int ?_⟩,by simp[intOf];omega⟩
   rw[H.out];omega
  ·go_wp2
   go_ret
   obtain rfl:j=n:=by omega
   exact⟨rfl,rfl⟩
theorem number_any(w:World)(B:Nat)(A:Option Addr)(l c:Nat)(f:Nat→Nat)(a n:Nat)(hr:RdB w B A l f)(hn:n≤32)(hl:l≤1000000000000)(h:a+n≤8*l):
  Calls Tryz.prog 98 #[.slice A l c,.int .i64 (a:Int),.int .i64 (n:Int)] w fun e w'=>e=.returned (.int .u32 (numN f a n:Nat))∧w=w':=by
 have HR:=Lib.hid hr
 clear hr
 go_enter Tryz.func98,Tryz.ntmps98
 go_wp2
 go_loop [7,8] (fun t i=>∃k:Nat,k≤n∧i=.int .i64 k∧t=.int .u64 (numN f a k:Nat)) (fun _ i=>n-(intOf i).toNat)
 case atStart=>exact⟨0,Nat.zero_le _,rfl,rfl⟩
 case round=>
  obtain⟨k,hk,rfl,rfl⟩:=hrel
  have hb:=numN_lt f a k
  have hb2:numN f a k<4294967296:=lt_32 hb (by omega)
  clear hb
  have h4:=bitAt_lt f (a+k)
  by_cases hlt:k<n
  ·have h5:bitAt f (a+k)*powN k≤4294967296:=by
    have h6:bitAt f (a+k)*powN k≤1*powN k:=Nat.mul_le_mul_right _ (by omega)
    have h7:=pow_le_32 (k:=k) (by omega)
    unfold powN at h6⊢;omega
   have h8:=powN_le k (by omega)
   go_wp2_with (first|(go_at_call 141;refine(rbit_any _ B _ _ _ f (a+k) HR.out (by omega) (by omega)).mono ?_;rintro e w' ⟨rfl,rfl⟩)|(go_at_call 142;refine(power_any _ k (by omega)).mono ?_;rintro e w' ⟨rfl,rfl⟩))
   refine⟨⟨k+1,hlt,by go_num,val_int ?_⟩,by simp[intOf];omega⟩
   rw[←Int.natCast_mul,←Int.natCast_add]
   rfl
  ·go_wp2
   go_ret
   obtain rfl:k=n:=by omega
   exact⟨ret_int (by omega),rfl⟩
theorem rtake_arg(w:World)(A:Option Addr)(l c:Nat)(a n:Int)(h:a<0∨n<0∨32<n):
  Calls Tryz.prog 57 #[.slice A l c,.int .i64 a,.int .i64 n] w fun e w'=>e=.returned (.tuple #[.int .u32 0,.int .i64 2])∧w=w':=by
 by_cases h1:a<0
 ·go_enter Tryz.func57,Tryz.ntmps57
  go_wp2
  go_ret2
  exact⟨rfl,rfl⟩
 ·by_cases h2:n<0
  ·go_enter Tryz.func57,Tryz.ntmps57
   go_wp2
   go_ret2
   exact⟨rfl,rfl⟩
  ·have h3:32<n:=by omega
   clear h
   go_enter Tryz.func57,Tryz.ntmps57
   go_wp2
   go_ret2
   exact⟨rfl,rfl⟩
theorem rtake_end(w:World)(A:Option Addr)(l c:Nat)(a n:Nat)(ha:a≤9223372036854775807)(hn:n≤32)(hl:l≤1000000000000)(h:8*l<a+n):
  Calls Tryz.prog 57 #[.slice A l c,.int .i64 (a:Int),.int .i64 (n:Int)] w fun e w'=>e=.returned (.tuple #[.int .u32 0,.int .i64 10])∧w=w':=by
 by_cases h1:8*l<a
 ·go_enter Tryz.func57,Tryz.ntmps57
  go_wp2
  go_ret2
  exact⟨rfl,rfl⟩
 ·go_enter Tryz.func57,Tryz.ntmps57
  go_wp2
  go_ret2
  exact⟨rfl,rfl⟩
theorem rtake_ok(w:World)(B:Nat)(A:Option Addr)(l c:Nat)(f:Nat→Nat)(a n:Nat)(hr:RdB w B A l f)(hn:n≤32)(hl:l≤1000000000000)(h:a+n≤8*l):
  Calls Tryz.prog 57 #[.slice A l c,.int .i64 (a:Int),.int .i64 (n:Int)] w fun e w'=>e=.returned (.tuple #[.int .u32 (numN f a n:Nat),.int .i64 0])∧w=w':=by
 have HR:=Lib.hid hr
 clear hr
 go_enter Tryz.func57,Tryz.ntmps57
 go_wp2_with (go_at_call 98;refine(number_any _ B _ _ _ f a n HR.out hn hl h).mono ?_;rintro e w' ⟨rfl,rfl⟩)
 go_ret2
 exact⟨rfl,rfl⟩
end Go.Proofs.YtgokdgcmkcmjeaaGreat
namespace Go.Proofs.YtgokdgcmkcmjeaaGreat
open Go.RowKit Go.ChangeShapes Go.WideShapes Go.ChangeAt
open Go.ChangeMaps (open_string shut_string)
def takeV(f:Nat→Nat)(l:Nat)(a n:Int):Nat:=if a<0∨n<0∨32<n then 0 else if 8*(l:Int)<a+n then 0 else numN f a.toNat n.toNat
def takeE(l:Nat)(a n:Int):Int:=if a<0∨n<0∨32<n then 2 else if 8*(l:Int)<a+n then 10 else 0
theorem take_cases{P:Int→Int→Prop}(f:Nat→Nat)(l:Nat)(a n:Int)
  (h1:a<0∨n<0∨32<n→P 0 2) (h2:∀x y:Nat,a=x→n=y→y≤32→8*l<x+y→P 0 10)
  (h3:∀x y:Nat,a=x→n=y→y≤32→x+y≤8*l→P (numN f x y:Nat) 0):P (takeV f l a n:Nat) (takeE l a n):=by
 unfold takeV takeE
 by_cases c1:a<0∨n<0∨32<n
 ·rw[if_pos c1,if_pos c1];exact h1 c1
 ·rw[if_neg c1,if_neg c1]
  obtain⟨x,rfl⟩:=Int.eq_ofNat_of_zero_le (show 0≤a by omega)
  obtain⟨y,rfl⟩:=Int.eq_ofNat_of_zero_le (show 0≤n by omega)
  by_cases c2:8*(l:Int)<(x:Int)+(y:Int)
  ·rw[if_pos c2,if_pos c2];exact h2 x y rfl rfl (by omega) (by omega)
  ·rw[if_neg c2,if_neg c2];exact h3 x y rfl rfl (by omega) (by omega)
theorem take_any(w:World)(B:Nat)(A:Option Addr)(l c:Nat)(f:Nat→Nat)(a n:Int)(hr:RdB w B A l f)(hl:l≤1000000000000)(ha:a≤9223372036854775807):
  Calls Tryz.prog 94 #[.slice A l c,.int .i64 a,.int .i64 n] w fun e w'=>e=.returned (.tuple #[.int .u32 (takeV f l a n:Nat),.int .i64 (takeE l a n)])∧w=w':=by
 refine take_cases (P:=fun x y=>Calls Tryz.prog 94 #[.slice A l c,.int .i64 a,.int .i64 n] w fun e w'=>e=.returned (.tuple #[.int .u32 x,.int .i64 y])∧w=w') f l a n ?_ ?_ ?_
 ·intro h;exact take_arg w A l c a n h
 ·rintro x y rfl rfl h1 h2;exact take_end w A l c x y (by omega) h1 hl h2
 ·rintro x y rfl rfl h1 h2;exact take_ok w B A l c f x y hr h1 hl h2
theorem rtake_any(w:World)(B:Nat)(A:Option Addr)(l c:Nat)(f:Nat→Nat)(a n:Int)(hr:RdB w B A l f)(hl:l≤1000000000000)(ha:a≤9223372036854775807):
  Calls Tryz.prog 57 #[.slice A l c,.int .i64 a,.int .i64 n] w fun e w'=>e=.returned (.tuple #[.int .u32 (takeV f l a n:Nat),.int .i64 (takeE l a n)])∧w=w':=by
 refine take_cases (P:=fun x y=>Calls Tryz.prog 57 #[.slice A l c,.int .i64 a,.int .i64 n] w fun e w'=>e=.returned (.tuple #[.int .u32 x,.int .i64 y])∧w=w') f l a n ?_ ?_ ?_
 ·intro h;exact rtake_arg w A l c a n h
 ·rintro x y rfl rfl h1 h2;exact rtake_end w A l c x y (by omega) h1 hl h2
 ·rintro x y rfl rfl h1 h2;exact rtake_ok w B A l c f x y hr h1 hl h2
end Go.Proofs.YtgokdgcmkcmjeaaGreat
namespace Go.Proofs.YtgokdgcmkcmjeaaGreat
open Go.RowKit
theorem sz5:(Tryz.prog.info? 5).map (·.size)=some 1:=by kernel_rfl
end Go.Proofs.YtgokdgcmkcmjeaaGreat
