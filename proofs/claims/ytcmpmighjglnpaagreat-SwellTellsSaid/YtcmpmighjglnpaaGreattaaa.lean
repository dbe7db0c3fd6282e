/-
  Words and walks.
-/
import Derived.Test.YtcmpmighjglnpaaGreatRows
import Derived.WalkKit
import Derived.ProofKit
import Derived.Lib.Hide
import Derived.Handy
import Derived.OpenShut
import Derived.ShutString
import Derived.ChangeOld
import Derived.Maps.AppendAt
import Derived.Laws.BytesArg
import Derived.Laws.Rows
import Derived.Deep.AppendLies
import Derived.Deep.QuietTactic
import Derived.BigQuiet
import Derived.Lib.AppendZeros
import Derived.LoopN
import Derived.Great.BuildSlice
import Derived.Lib.SmallJoins
import Derived.Deep.MidRow
import Derived.Deep.SlicePairs
import Derived.Laws.StructEq
set_option maxRecDepth 100000
set_option maxHeartbeats 16000000
namespace Go.Proofs.YtcmpmighjglnpaaGreat
open Go.RowKit Go.ChangeShapes Go.WideShapes Go.ChangeAt
open Go.ChangeMaps (open_string shut_string)
theorem own:ownKnob Tryz.prog.godebug=none:=by kernel_rfl
theorem laidOut:laidOutB Tryz.prog=true:=by kernel_rfl
theorem ofInt_nat(W a:Nat)(ha:a<2^W):(BitVec.ofInt W (a:Int)).toNat=a:=by
 rw[BitVec.ofInt_natCast,BitVec.toNat_ofNat];exact Nat.mod_eq_of_lt ha
theorem u32_and(a b:Nat)(ha:a<4294967296)(hb:b<4294967296):bits .and .u32 (a:Int) (b:Int)=((a&&&b:Nat):Int):=by
 have hx:a&&&b<2^32:=Nat.and_lt_two_pow _ (by omega)
 show IntKind.u32.wrap ((BitVec.ofInt 32 (a:Int)&&&BitVec.ofInt 32 (b:Int)).toNat:Int)=_
 rw[BitVec.toNat_and,ofInt_nat 32 a (by omega),ofInt_nat 32 b (by omega),IntKind.wrap_u32]
 omega
theorem u32_or(a b:Nat)(ha:a<4294967296)(hb:b<4294967296):bits .or .u32 (a:Int) (b:Int)=((a|||b:Nat):Int):=by
 have hx:a|||b<2^32:=Nat.or_lt_two_pow (by omega) (by omega)
 show IntKind.u32.wrap ((BitVec.ofInt 32 (a:Int)|||BitVec.ofInt 32 (b:Int)).toNat:Int)=_
 rw[BitVec.toNat_or,ofInt_nat 32 a (by omega),ofInt_nat 32 b (by omega),IntKind.wrap_u32]
 omega
theorem u64_and(a b:Nat)(ha:a<18446744073709551616)(hb:b<18446744073709551616):bits .and .u64 (a:Int) (b:Int)=((a&&&b:Nat):Int):=by
 have hx:a&&&b<2^64:=Nat.and_lt_two_pow _ (by omega)
 show IntKind.u64.wrap ((BitVec.ofInt 64 (a:Int)&&&BitVec.ofInt 64 (b:Int)).toNat:Int)=_
 rw[BitVec.toNat_and,ofInt_nat 64 a (by omega),ofInt_nat 64 b (by omega),IntKind.wrap_u64]
 omega
theorem u32_and_one(a:Nat)(ha:a<4294967296):bits .and .u32 (a:Int) 1=((a%2:Nat):Int):=by
 have:=u32_and a 1 ha (by omega)
 rw[Nat.and_one_is_mod]at this
 exact this
theorem or_add(a b i:Nat)(hb:b<2^i)(ha:2^i∣a):a|||b=a+b:=by
 obtain⟨c,rfl⟩:=ha
 exact(Nat.two_pow_add_eq_or_of_lt hb c).symm
theorem u32_or_add'(a b i:Nat)(ha:a<4294967296)(h:b<4294967296)(hb:a<2^i)(hd:2^i∣b):bits .or .u32 (a:Int) (b:Int)=((a+b:Nat):Int):=by
 rw[u32_or a b ha h,Nat.or_comm,or_add b a i hb hd,Nat.add_comm]
theorem pow_le_32{k:Nat}(h:k≤32):2^k≤4294967296:=by
 have:=Nat.pow_le_pow_right (n:=2) (by omega) h;simpa using this
theorem lt_32{x k:Nat}(hx:x<2^k)(h:k≤32):x<4294967296:=Nat.lt_of_lt_of_le hx (pow_le_32 h)
theorem cast_shr(v k:Nat):((v:Int)/2^k)=((v/2^k:Nat):Int):=by
 rw[Int.natCast_ediv,Int.natCast_pow];rfl
theorem cast_shl(v k:Nat):((v:Int)*2^k)=((v*2^k:Nat):Int):=by
 rw[Int.natCast_mul,Int.natCast_pow];rfl
theorem emod_u32(x:Nat)(h:x<4294967296):(x:Int)%4294967296=(x:Int):=by omega
theorem ret_int{k:IntKind}{a b:Int}(h:a=b):Ending.returned (.int k a)=.returned (.int k b):=by rw[h]
theorem val_int{k:IntKind}{a b:Int}(h:a=b):Value.int k a=.int k b:=by rw[h]
theorem ret_two{k l:IntKind}{a b c d:Int}(h:a=b)(g:c=d):Ending.returned (.tuple #[.int k a,.int l c])=.returned (.tuple #[.int k b,.int l d]):=by rw[h,g]
def RdB(w:World)(B:Nat)(A:Option Addr)(n:Nat)(f:Nat→Nat):Prop:=
 (∀j,f j<256)∧(0<n→∃b o,A=some ⟨b,o,none⟩∧b<B∧∀j,j<n→w.cell? ⟨b,o+j,none⟩=some (.int .u8 (f j:Int)))
theorem RdB.below{w w':World}{B B' n:Nat}{A:Option Addr}{f:Nat→Nat}(h:RdB w B A n f)(hb:Below B' w w')(hB:B≤B'):RdB w' B A n f:=by
 refine⟨h.1,fun hn=>?_⟩
 obtain⟨b,o,rfl,hlt,hc⟩:=h.2 hn
 exact⟨b,o,rfl,hlt,fun j hj=>by rw[hb.cell (p:=⟨b,o+j,none⟩) (by show b<B';omega)];exact hc j hj⟩
theorem RdB.more{w:World}{B B' n:Nat}{A:Option Addr}{f:Nat→Nat}(h:RdB w B A n f)(hB:B≤B'):RdB w B' A n f:=by
 refine⟨h.1,fun hn=>?_⟩
 obtain⟨b,o,rfl,hlt,hc⟩:=h.2 hn
 exact⟨b,o,rfl,by omega,hc⟩
def bytesL(n:Nat)(f:Nat→Nat):List Value:=(List.range n).map fun j=>.int .u8 (f j:Int)
theorem bytesL_get(n:Nat)(f:Nat→Nat)(j:Nat):(bytesL n f)[j]?=if j<n then some (.int .u8 (f j:Int))else none:=by
 unfold bytesL
 by_cases h:j<n<;>simp[h]
theorem bytesL_one(n:Nat)(f:Nat→Nat):∀u∈bytesL n f,u.oneCell'=true:=by
 intro u hu
 simp only[bytesL,List.mem_map]at hu
 obtain⟨j,_,rfl⟩:=hu
 rfl
theorem RdB.of_own{w:World}{base n c:Nat}{A:Option Addr}{e:TypeId}{f:Nat→Nat}(h:w.ownsRow base e 1 (.slice A n c) n (bytesL n f))(hf:∀j,f j<256):RdB w w.heap.size A n f:=by
 refine⟨hf,fun hn=>?_⟩
 obtain⟨g,cap,hv,_,hlt⟩:=h.form hn
 injection hv with hA _ _
 subst hA
 refine⟨g,0,rfl,hlt,fun j hj=>?_⟩
 have:=h.cells (g:=g) rfl j (.int .u8 (f j:Int)) (by rw[bytesL_get,if_pos hj])
 have e:(⟨g,0,none⟩:Addr).add j=⟨g,0+j,none⟩:=by unfold Addr.add;split<;>simp_all
 rw[e]at this
 exact this
theorem infoU8:(Tryz.prog.info? 5).map (fun i=>(i.zero,i.size,i.bytes))=some (some (.int .u8 0),1,1):=by kernel_rfl
def cat(f:Nat→Nat)(n:Nat)(g:Nat→Nat)(j:Nat):Nat:=if j<n then f j else g (j-n)
theorem cat_lt{f g:Nat→Nat}{n:Nat}(hf:∀j,f j<256)(hg:∀j,g j<256)(j:Nat):cat f n g j<256:=by
 unfold cat;split
 ·exact hf _
 ·exact hg _
theorem bytesL_cat(f g:Nat→Nat)(n m:Nat):bytesL n f++bytesL m g=bytesL (n+m) (cat f n g):=by
 apply List.ext_getElem?
 intro j
 rw[List.getElem?_append]
 have hl:(bytesL n f).length=n:=by simp[bytesL]
 rw[hl,bytesL_get,bytesL_get,bytesL_get]
 unfold cat
 by_cases h1:j<n
 ·rw[if_pos h1,if_pos h1,if_pos (by omega),if_pos h1]
 ·rw[if_neg h1,if_neg h1]
  by_cases h2:j-n<m
  ·rw[if_pos h2,if_pos (by omega)]
  ·rw[if_neg h2,if_neg (by omega)]
theorem own_ge{w:World}{base n:Nat}{e:TypeId}{v:Value}{xs:List Value}(h:w.ownsRow base e 1 v n xs):∀k,v.ownBlock=some k→base≤k:=by
 intro k hk
 rcases h.2 with⟨rfl,_⟩|⟨g,cap,cur,rfl,hg,_⟩
 ·simp[Value.ownBlock]at hk
 ·simp[Value.ownBlock]at hk;omega
theorem run_more(w:World)(base B:Nat)(v0:Value)(n:Nat)(f:Nat→Nat)(hown:w.ownsRow base 5 1 v0 n (bytesL n f))(A:Option Addr)(m c:Nat)(g:Nat→Nat)(hr:RdB w B A m g)(hnm:n+m≤1000000000000)(ty:TypeId)
  (hA:A=none→c=0) (hbase:base≤w.heap.size):
  ∃A' c' w',(Builtin.append_ #[22,22] ty #[v0,.slice A m c]).run Tryz.prog w=.ok (.slice A' (n+m) c') w'∧
   w'.ownsRow base 5 1 (.slice A' (n+m) c') (n+m) (bytesL (n+m) (cat f n g))∧Below base w w':=by
 obtain⟨i0,hi,hz0,hz1,hz2⟩:=info_parts infoU8
 have key:∃v' w',(Builtin.append_ #[22,22] ty #[v0,.slice A m c]).run Tryz.prog w=.ok v' w'∧
   w'.ownsRow base 5 1 v' (n+m) (bytesL (n+m) (cat f n g))∧w.grownBy w' v0.ownBlock:=by
  rcases A with _|ad
  ·have h0:m=0:=by
    rcases Nat.eq_zero_or_pos m with h|h
    ·exact h
    ·obtain⟨b,o,h,_⟩:=hr.2 h;cases h
   subst h0
   obtain rfl:=hA rfl
   refine⟨v0,w,run_append_owned_none (P:=Tryz.prog) (w:=w) base 22 ty 5 i0 1 Tryz.underlying22 hi v0 n _ hown,?_,World.grownBy.refl _ _⟩
   rw[←bytesL_cat]
   simpa[bytesL]using hown
  ·have hcells:∀j u,(bytesL m g)[j]?=some u→w.cell? (ad.add j)=some u:=by
    intro j u hu
    rw[bytesL_get]at hu
    by_cases hj:j<m
    ·rw[if_pos hj]at hu
     injection hu with hu
     subst hu
     obtain⟨b,o,h,_,hc⟩:=hr.2 (by omega)
     injection h with h
     subst h
     have e:(⟨b,o,none⟩:Addr).add j=⟨b,o+j,none⟩:=by unfold Addr.add;split<;>simp_all
     rw[e];exact hc j hj
    ·rw[if_neg hj]at hu;cases hu
   obtain⟨v',w',h1,h2,h3,_,_⟩:=run_append_own_at (P:=Tryz.prog) w base 22 ty 5 i0 (.int .u8 0) 1 1 Tryz.underlying22 hi hz0 hz1 hz2 rfl (by decide)
    v0 n _ hown ad m c (bytesL m g) (by simp[bytesL]) hcells (bytesL_one m g) (by unfold maxLen;omega) (by omega) hbase
   rw[bytesL_cat]at h2
   exact⟨v',w',h1,h2,h3⟩
 obtain⟨v',w',h1,h2,h3⟩:=key
 have hv:∃A' c',v'=.slice A' (n+m) c':=by
  rcases h2.2 with⟨rfl,h⟩|⟨g,cap,cur,rfl,_⟩
  ·exact⟨none,0,by rw[h]⟩
  ·exact⟨_,_,rfl⟩
 obtain⟨A',c',rfl⟩:=hv
 exact⟨A',c',w',h1,h2,(Below.refl base w).grown h3 hbase (own_ge hown)⟩
theorem wpList_append_run{P:Program}{w:World}{ops:Array Oper}{rest:List Oper}{o:Oper}{a:Act}{Q:Exit→Act→World→Prop}(hgd:o.guard=none)(s x:Operand)(t:TypeId)
  (ho:o.op=.call {callee:=.builtin .append,args:=#[s,x],argTypes:=#[t,t]}) (v u v':Value) (w':World) (hs:a.eval s=v) (hx:a.eval x=u)
  (hrun:(Builtin.append_ #[t,t] o.type #[v,u]).run P w=.ok v' w') (h:wpList P ops Q rest (a.put o.dst v') w'):wpList P ops Q (o::rest) a w:=by
 refine wpList_plain hgd fun K hK=>?_
 unfold Oper.wp
 simp[execOp,ho,resolve,invoke,builtin,hs,hx,hrun,Result.andThen]
 exact hK _ _ h
def strB(n:Nat)(f:Nat→Nat):ByteArray:=strOfNums ((List.range n).map fun j=>(f j:Int))
theorem strB_zero(f:Nat→Nat):strB 0 f=ByteArray.empty:=rfl
theorem run_str{w:World}{B:Nat}{A:Option Addr}{n:Nat}{f:Nat→Nat}(hr:RdB w B A n f)(c:Nat):
  (convert 22 9 (.slice A n c)).run Tryz.prog w=.ok (.string (strB n f)) w:=by
 rcases Nat.eq_zero_or_pos n with h0|h0
 ·subst h0
  rcases A with _|⟨b,o,s⟩
  ·rw[strB_zero];exact run_convert_bytes_nil w 22 5 Tryz.underlying22 Tryz.underlying5 0 c 9 Tryz.underlying9
  ·rw[run_convert_bytes_string w 22 9 5 _ 0 c Tryz.underlying22 Tryz.underlying5 Tryz.underlying9,run_bytesToString w _ 0 c [] (by simpa using run_loadCells_list (P:=Tryz.prog) w ⟨b,o,s⟩ [] (by simp))]
   rfl
 ·obtain⟨b,o,rfl,_,hc⟩:=hr.2 h0
  exact run_convert_bytes_arg w 22 5 Tryz.underlying22 Tryz.underlying5 b o n c _ (by simp) (fun i hi=>by rw[hc i hi];simp[List.getD,hi]) 9 Tryz.underlying9
theorem open_bytes{H:Type}{enc:TypeId×Value→H}{W:World}{base:Nat}{sp:Nat→Bool}{hd:Bool}{a:Option Addr}{len cap:Nat}{d:DataW H}{p:List MemPlace}
  (h:∃fuel,DataW.trod enc Tryz.prog W base sp hd fuel 22 (Value.slice a len cap).cells.toList=some (d,p)):
  ∃f,RdB W W.heap.size a len f∧(a=none→cap=0)∧len≤cap∧cap≤maxLen:=by
 obtain⟨fuel,hf⟩:=h
 rcases open_ints Tryz.underlying22 Tryz.underlying5 (by kernel_rfl) hf with⟨hcs,_⟩|⟨x,l,c,zs,hcs,_,hl,hm,hz,_,hcell,hwz⟩
 ·simp[Value.cells]at hcs
  obtain⟨rfl,rfl,rfl⟩:=hcs
  exact⟨fun _=>0,⟨fun _=>by show 0<256;omega,fun h=>by omega⟩,fun _=>rfl,Nat.le_refl _,by unfold maxLen;omega⟩
 ·simp[Value.cells]at hcs
  obtain⟨rfl,rfl,rfl⟩:=hcs
  have hbd:∀j,0≤zs.getD j 0∧zs.getD j 0<256:=by
   intro j
   rcases Nat.lt_or_ge j zs.length with hj|hj
   ·have:=hwz (zs.getD j 0) (by simp[List.getD,hj])
    simp[Lit.wf,IntKind.min,IntKind.max,IntKind.signed,IntKind.bits]at this
    simp[List.getD,hj]
    simp[hj]at this
    omega
   ·simp[List.getD,List.getElem?_eq_none hj]
  refine⟨fun j=>(zs.getD j 0).toNat,⟨fun j=>by have:=hbd j;show(zs.getD j 0).toNat<256;omega,fun hn=>?_⟩,(fun h=>by cases h),hl,hm⟩
  have hzl:len≤zs.length:=by rw[hz];split<;>omega
  obtain⟨b,off,spot⟩:=x
  have h0:=hcell 0 (by omega)
  have hspot:spot=none:=by simpa[Addr.add]using World.cell?_spot h0
  subst hspot
  have hlt:b<W.heap.size:=by
   rcases Nat.lt_or_ge b W.heap.size with h|h
   ·exact h
   ·simp[Addr.add,World.cell?,Array.getElem?_eq_none h]at h0
  refine⟨b,off,rfl,hlt,fun j hj=>?_⟩
  have hb:=hbd j
  have h1:=hcell j (by omega)
  have e:(⟨b,off,none⟩:Addr).add j=⟨b,off+j,none⟩:=by unfold Addr.add;split<;>simp_all
  rw[e]at h1
  rw[h1,Int.toNat_of_nonneg hb.1]
def upd(f:Nat→Nat)(i x:Nat):Nat→Nat:=fun j=>if j=i then x else f j
theorem wf_i64_range{n:Int}(h:(Lit.int .i64 n).wf=true): -9223372036854775808≤n∧n≤9223372036854775807:=by
 simp[Lit.wf,IntKind.min,IntKind.max,IntKind.signed,IntKind.bits]at h;omega
end Go.Proofs.YtcmpmighjglnpaaGreat
namespace Go.Proofs.YtcmpmighjglnpaaGreat
def keepN(S T:Nat):Nat:=min S T
def dropN(S T:Nat):Nat:=T-S
def inSN(S n m:Nat):Nat:=keepN S (n+m)
def inF(S n:Nat)(f:Nat→Nat)(m:Nat)(g:Nat→Nat)(j:Nat):Nat:=cat f n g (j+dropN S (n+m))
theorem inN_le(S n m:Nat):inSN S n m≤S:=Nat.min_le_left _ _
theorem inF_lt{S n m:Nat}{f g:Nat→Nat}(hf:∀j,f j<256)(hg:∀j,g j<256)(j:Nat):inF S n f m g j<256:=cat_lt hf hg _
def copF(n:Nat)(f:Nat→Nat)(d i:Nat):Nat:=f (n-d+i%d)
theorem cop_ahead{n d i:Nat}{f:Nat→Nat}(_hd:1≤d)(hdn:d≤n):copF n f d i=cat f n (copF n f d) (n+i-d):=by
 unfold cat
 by_cases h:n+i-d<n
 ·rw[if_pos h]
  unfold copF
  rw[Nat.mod_eq_of_lt (by omega)]
  congr 1;omega
 ·rw[if_neg h]
  unfold copF
  have e:n+i-d-n=i-d:=by omega
  rw[e,Nat.mod_eq_sub_mod (by omega:i≥d)]
end Go.Proofs.YtcmpmighjglnpaaGreat
namespace Go.Proofs.YtcmpmighjglnpaaGreat
open Go.RowKit
def ByR(w:World)(B:Nat)(A:Option Addr)(n c:Nat)(f:Nat→Nat):Prop:=RdB w B A n f∧(A=none→c=0)∧n≤c∧c≤maxLen
theorem ByR.below{w w':World}{B B' n c:Nat}{A:Option Addr}{f:Nat→Nat}(h:ByR w B A n c f)(hb:Below B' w w')(hB:B≤B'):ByR w' B A n c f:=⟨h.1.below hb hB,h.2⟩
theorem ByR.more{w:World}{B B' n c:Nat}{A:Option Addr}{f:Nat→Nat}(h:ByR w B A n c f)(hB:B≤B'):ByR w B' A n c f:=⟨h.1.more hB,h.2⟩
theorem ByR.nil(w:World)(B:Nat)(f:Nat→Nat)(hf:∀j,f j<256):ByR w B none 0 0 f:=⟨⟨hf,fun h=>by omega⟩,fun _=>rfl,Nat.le_refl _,by unfold maxLen;omega⟩
theorem ByR.of_own{w:World}{base n c:Nat}{A:Option Addr}{f:Nat→Nat}(h:w.ownsRow base 5 1 (.slice A n c) n (bytesL n f))(hf:∀j,f j<256):ByR w w.heap.size A n c f:=by
 refine⟨RdB.of_own h hf,?_⟩
 rcases h.2 with⟨hv,h0⟩|⟨g,cap,cur,hv,_,_,h1,h2,_⟩
 ·injection hv with h3 h4 h5
  exact⟨fun _=>h5,by omega,by unfold maxLen;omega⟩
 ·injection hv with h3 h4 h5
  exact⟨(fun h=>by rw[h]at h3;cases h3),by omega,by omega⟩
theorem RdB.ext{w:World}{B n:Nat}{A:Option Addr}{f g:Nat→Nat}(h:RdB w B A n f)(hg:∀j,g j<256)(e:∀j,j<n→f j=g j):RdB w B A n g:=by
 refine⟨hg,fun hn=>?_⟩
 obtain⟨b,o,rfl,hlt,hc⟩:=h.2 hn
 exact⟨b,o,rfl,hlt,fun j hj=>by rw[←e j hj];exact hc j hj⟩
theorem ByR.ext{w:World}{B n c:Nat}{A:Option Addr}{f g:Nat→Nat}(h:ByR w B A n c f)(hg:∀j,g j<256)(e:∀j,j<n→f j=g j):ByR w B A n c g:=⟨h.1.ext hg e,h.2⟩
theorem open_byr{H:Type}{enc:TypeId×Value→H}{W:World}{base:Nat}{sp:Nat→Bool}{hd:Bool}{a:Option Addr}{len cap:Nat}{d:DataW H}{p:List MemPlace}
  (h:∃fuel,DataW.trod enc Tryz.prog W base sp hd fuel 22 (Value.slice a len cap).cells.toList=some (d,p)):∃f,ByR W W.heap.size a len cap f:=by
 obtain⟨f,h1,h2,h3,h4⟩:=open_bytes h
 exact⟨f,h1,h2,h3,h4⟩
theorem ByR.drop{w:World}{B n c p:Nat}{a:Addr}{A2:Option Addr}{f:Nat→Nat}(h:ByR w B (some a) n c f)(hp:p≤n)(hA:(if c=p then some a else some (a.add p))=A2):ByR w B A2 (n-p) (c-p) (fun j=>f (j+p)):=by
 obtain⟨h1,h2,h3,h4⟩:=h
 refine⟨⟨fun j=>h1.1 _,fun hn=>?_⟩,fun h=>?_,by omega,by omega⟩
 ·obtain⟨b,o,e,hb,hcc⟩:=h1.2 (by omega)
  cases e
  rw[if_neg (by omega)]at hA
  have e:(⟨b,o,none⟩:Addr).add p=⟨b,o+p,none⟩:=by unfold Addr.add;split<;>simp_all
  rw[e]at hA
  refine⟨b,o+p,hA.symm,hb,fun j hj=>?_⟩
  have:=hcc (j+p) (by omega)
  rw[show o+p+j=o+(j+p) by omega]
  exact this
 ·rw[h]at hA;split at hA<;>cases hA
theorem ByR.cut{w:World}{B n c:Nat}{A:Option Addr}{f:Nat→Nat}(h:ByR w B A n c f)(k:Nat)(hk:n≤k)(hkc:k≤c):ByR w B A n k f:=
 ⟨h.1,fun e=>by have:=h.2.1 e;omega,hk,by have:=h.2.2.2;omega⟩
theorem ByR.other{w:World}{B n c:Nat}{A:Option Addr}{f:Nat→Nat}(h:ByR w B A n c f)(p:Addr)(u:Value)(hne:∀b,A.map (·.block)=some b→b≠p.block):ByR (w.setCell p u) B A n c f:=by
 refine⟨⟨h.1.1,fun hn=>?_⟩,h.2⟩
 obtain⟨b,o,rfl,hlt,hc⟩:=h.1.2 hn
 exact⟨b,o,rfl,hlt,fun j hj=>(World.cell?_setCell_other _ _ _ _ (fun e=>hne b rfl (by first|exact congrArg Addr.block e|exact(congrArg Addr.block e).symm))).trans (hc j hj)⟩
theorem ByR.drew{w:World}{B n c:Nat}{A:Option Addr}{f:Nat→Nat}(h:ByR w B A n c f):ByR w.drew B A n c f:=h
theorem grow_any(w:World)(n:Nat)(hn:n≤1000000000000):
  Calls Tryz.prog 57 #[.slice none 0 0,.int .i64 (n:Int)] w fun e w'=>∃A c,e=.returned (.slice A 0 c)∧w'.ownsRow w.heap.size 5 1 (.slice A 0 c) 0 []∧Below w.heap.size w w':=by
 rcases Nat.eq_zero_or_pos n with h0|h0
 ·subst h0
  go_enter Tryz.func57,Tryz.ntmps57
  go_wp2
  go_ret
  exact⟨none,0,rfl,World.ownsRow_nil _ _ _ _,Below.refl _ _⟩
 ·obtain⟨i0,hi,hz0,hz1,hz2⟩:=info_parts infoU8
  have hrun:=Lib.run_append_nil_zeros (P:=Tryz.prog) w 22 3 22 5 i0 (.int .u8 0) .i64 .i64 Tryz.underlying22 Tryz.underlying3 hi hz0 n h0 (by omega) (by omega) (by rw[hz2];omega)
  have hge:=grownCap_ge w n 0 5
  have hle:=grownCap_le_maxLen w n 0 5 (by unfold maxLen;omega)
  obtain⟨c,hc⟩:∃c,c=grownCap w n 0 5:=⟨_,rfl⟩
  rw[←hc]at hrun hge hle
  obtain⟨Z,hZ⟩:∃Z,Z=(Builtin.zeroCells (Value.int .u8 0).cells n++Builtin.zeroCells (Value.int .u8 0).cells (c-n)):=⟨_,rfl⟩
  rw[←hZ]at hrun
  have hZs:Z.size=c*1:=by rw[hZ];simp[size_zeroCells,Value.cells];omega
  have hown:=World.ownsRow_made (base:=w.heap.size) (e:=5) (size:=1) w.drew Z c (Nat.le_refl _) hle hZs
  have hbl:Below w.heap.size w (w.drew.alloc (.cells Z 5)):=(Below.refl w.heap.size w).drew.alloc (Nat.le_refl _) _
  obtain⟨w1,hw1⟩:∃w1,w1=w.drew.alloc (.cells Z 5):=⟨_,rfl⟩
  rw[←hw1]at hrun hown hbl
  have HR:=Lib.hid hrun;have HO:=Lib.hid hown;have HB:=Lib.hid hbl
  unfold maxLen at hle
  clear hrun hown hbl hZ hZs hw1 hc hi hz0 hz1 hz2
  have hp:(0:Int)<(n:Int):=by omega
  go_enter Tryz.func57,Tryz.ntmps57
  go_wp2_with (at_builtin;refine Lib.wpList_append_run _ rfl _ _ _ _ rfl _ _ rfl rfl _ _ HR.out ?_)
  go_ret
  exact⟨_,_,rfl,HO.out,HB.out⟩
theorem bytesL_ext{n:Nat}{f g:Nat→Nat}(h:∀j,j<n→f j=g j):bytesL n f=bytesL n g:=by
 unfold bytesL
 exact List.map_congr_left fun j hj=>by rw[h j (List.mem_range.1 hj)]
theorem run_oneB(w:World)(base:Nat)(A:Option Addr)(n c:Nat)(F:Nat→Nat)(hF:∀j,F j<256)(hown:w.ownsRow base 5 1 (.slice A n c) n (bytesL n F))(x:Nat)(hx:x=F n)(hn:n≤1000000000)(hbase:base≤w.heap.size):
  ∃A' c' w',(Builtin.append_ #[22,22] 22 #[.slice A n c,.slice (some ⟨w.heap.size,0,none⟩) 1 1]).run Tryz.prog (w.alloc (.cells #[.int .u8 (x:Int)] 5))=.ok (.slice A' (n+1) c') w'∧
   w'.ownsRow base 5 1 (.slice A' (n+1) c') (n+1) (bytesL (n+1) F)∧Below base w w':=by
 subst hx
 have hb1:Below base w (w.alloc (.cells #[.int .u8 (F n:Int)] 5)):=(Below.refl base w).alloc hbase _
 have hr:RdB (w.alloc (.cells #[.int .u8 (F n:Int)] 5)) (w.alloc (.cells #[.int .u8 (F n:Int)] 5)).heap.size (some ⟨w.heap.size,0,none⟩) 1 (fun _=>F n):=
  ⟨fun _=>hF n,fun _=>⟨w.heap.size,0,rfl,by simp,fun j hj=>by
   obtain rfl:j=0:=by omega
   rw[cell_of_row _ _ _ _ _ (0,0) (heap_alloc_new w _)];rfl⟩⟩
 obtain⟨A',c',w',h1,h2,h3⟩:=run_more (w.alloc (.cells #[.int .u8 (F n:Int)] 5)) base _ (.slice A n c) n F (hown.alloc _) (some ⟨w.heap.size,0,none⟩) 1 1 (fun _=>F n) hr (by omega) 22 (fun h=>by cases h) (Nat.le_trans hbase hb1.size)
 refine⟨A',c',w',h1,?_,hb1.trans h3⟩
 rw[←bytesL_ext (f:=cat F n (fun _=>F n)) (g:=F)]
 ·exact h2
 ·intro j hj
  unfold cat
  split
  ·rfl
  ·rw[show j=n by omega]
theorem make_cap8(n:Nat)(h:n≤1000000000):∀u:World,(Instr.makeSlice 22 (.int .i64 0) (.int .i64 (n:Int))).run Tryz.prog u=
   .ok (.slice (some ⟨u.heap.size,0,none⟩) 0 n) (u.alloc (.cells (madeCells #[.int .u8 0] n) 5)):=fun u=>by
 obtain⟨i0,hi,hz0,hz1,hz2⟩:=info_parts infoU8
 have h:=run_make (P:=Tryz.prog) u 22 5 i0 _ Tryz.underlying22 hi hz0 .i64 .i64 0 (n:Int) (by omega) (by omega) (by rw[hz2];omega) (by omega)
 rw[Int.toNat_natCast,hz1,Nat.mul_one]at h
 exact h
theorem own_madeB(u:World)(n:Nat)(h:n≤1000000000)(F:Nat→Nat):(u.alloc (.cells (madeCells #[.int .u8 0] n) 5)).ownsRow u.heap.size 5 1 (.slice (some ⟨u.heap.size,0,none⟩) 0 n) 0 (bytesL 0 F):=
 World.ownsRow_made u _ n (Nat.le_refl _) (by unfold maxLen;omega) (by simp[madeCells])
def sumU(n:Nat→Nat):Nat→Nat
 |0=>0
 |k+1=>sumU n k+n k
def catU(n:Nat→Nat)(f:Nat→Nat→Nat):Nat→Nat→Nat
 |0,_=>0
 |k+1,j=>cat (catU n f k) (sumU n k) (f k) j
theorem catU_lt{n:Nat→Nat}{f:Nat→Nat→Nat}(hf:∀i j,f i j<256):∀k j,catU n f k j<256
 |0,_=>by show 0<256;omega
 |k+1,j=>by show cat _ _ _ _<256;exact cat_lt (catU_lt hf k) (hf k) j
theorem sumU_mono(n:Nat→Nat){a b:Nat}(h:a≤b):sumU n a≤sumU n b:=by
 induction h with
 |refl=>exact Nat.le_refl _
 |step _ ih=>exact Nat.le_trans ih (Nat.le_add_right _ _)
def RowsB(w:World)(B:Nat)(A:Option Addr)(k:Nat)(n:Nat→Nat)(f:Nat→Nat→Nat):Prop:=
 0<k→∃b o,A=some ⟨b,o,none⟩∧b<B∧∀i,i<k→∃Ai ci,w.cell? ⟨b,o+i,none⟩=some (.slice Ai (n i) ci)∧RdB w B Ai (n i) (f i)∧(Ai=none→ci=0)
theorem RowsB.below{w w':World}{B B' k:Nat}{A:Option Addr}{n:Nat→Nat}{f:Nat→Nat→Nat}(h:RowsB w B A k n f)(hb:Below B' w w')(hB:B≤B'):RowsB w' B A k n f:=fun hk=>by
 obtain⟨b,o,h1,h2,h3⟩:=h hk
 refine⟨b,o,h1,h2,fun i hi=>?_⟩
 obtain⟨Ai,ci,q1,q2,q3⟩:=h3 i hi
 exact⟨Ai,ci,by rw[hb.cell (p:=⟨b,o+i,none⟩) (by show b<B';omega)];exact q1,q2.below hb hB,q3⟩
theorem concat_any(w:World)(A:Option Addr)(k c:Nat)(n:Nat→Nat)(f:Nat→Nat→Nat)(hf:∀i j,f i j<256)(hr:RowsB w w.heap.size A k n f)(hk:k≤1000000)(hs:sumU n k≤1000000000):
  Calls Tryz.prog 37 #[.slice A k c] w fun e w'=>∃A' c',e=.returned (.slice A' (sumU n k) c')∧ByR w' w'.heap.size A' (sumU n k) c' (catU n f k)∧Below w.heap.size w w'∧(∀b,A'.map (·.block)=some b→w.heap.size≤b):=by
 have HR:=Lib.hid hr;have HF:=Lib.hid hf;have HS:=Lib.hid hs
 obtain⟨N,hN⟩:∃N,N=sumU n k:=⟨_,rfl⟩
 rw[←hN]at hs⊢
 have HN:=Lib.hid hN
 clear hr hf hN
 go_enter Tryz.func37,Tryz.ntmps37
 go_wp2_with fail
 go_loopw [3,11] (fun s i wr=>∃j q:Nat,j≤k∧i=.int .i64 (j:Int)∧s=.int .i64 (q:Int)∧Hid (q=sumU n j)∧w=wr) (fun _ i _=>k-(intOf i).toNat)
 case atStart=>exact⟨0,0,Nat.zero_le _,rfl,rfl,Lib.hid rfl,rfl⟩
 case round=>
  obtain⟨j,q,hj,rfl,rfl,HQ,rfl⟩:=hrel
  by_cases hlt:j<k
  ·have hlti:(j:Int)<(k:Int):=by omega
   obtain⟨b,o,rfl,hb,hcc⟩:=HR.out (by omega)
   obtain⟨Ai,ci,c1,_,_⟩:=hcc j hlt
   have hq1:sumU n (j+1)=q+n j:=by rw[HQ.out];rfl
   have hq2:=sumU_mono n (show j+1≤k by omega)
   have hq3:=HS.out
   obtain⟨m,hm⟩:∃m,m=n j:=⟨_,rfl⟩
   rw[←hm]at c1 hq1
   have hqm:q+m≤1000000000:=by omega
   have hnn:¬((q:Int)+(m:Int)<0):=by omega
   have HQ1:=Lib.hid hq1
   clear hcc hq1 hq2 hq3 hm
   go_wp2
   go_roundw
   case rel=>exact⟨j+1,q+m,by omega,by go_num,by go_num,Lib.hid HQ1.out.symm,trivial⟩
   case measure=>simp[intOf];omega
  ·obtain rfl:j=k:=by omega
   have hlti:¬(j:Int)<(j:Int):=by omega
   have hqN:q=N:=by rw[HQ.out,HN.out]
   subst hqN
   go_wp2_with fail
   refine(grow_any _ q (by omega)).mono ?_
   rintro e w1 ⟨A1,c1,rfl,ho1,hb1⟩
   have HO1:=Lib.hid ho1;have HB1:=Lib.hid hb1
   clear ho1 hb1
   go_wp2_with fail
   go_loopw [6,27] (fun s i wr=>∃(t p:Nat) (At:Option Addr) (ct:Nat),t≤j∧i=.int .i64 (t:Int)∧s=.slice At p ct∧Hid (p=sumU n t)∧Hid (wr.ownsRow w.heap.size 5 1 (.slice At p ct) p (bytesL p (catU n f t)))∧Hid (Below w.heap.size w wr)) (fun _ i _=>j-(intOf i).toNat)
   case atStart=>exact⟨0,0,A1,c1,Nat.zero_le _,rfl,rfl,Lib.hid rfl,HO1,HB1⟩
   case round=>
    obtain⟨t,p,At,ct,ht,rfl,rfl,HP,HO,HB⟩:=hrel
    by_cases hlt2:t<j
    ·have hlti2:(t:Int)<(j:Int):=by omega
     obtain⟨b,o,rfl,hb,hcc⟩:=(HR.out.below HB.out (Nat.le_refl _)) (by omega)
     obtain⟨Ai,ci,k1,k2,k3⟩:=hcc t hlt2
     have hq1:sumU n (t+1)=p+n t:=by rw[HP.out];rfl
     have hq2:=sumU_mono n (show t+1≤j by omega)
     have hq3:=HS.out
     obtain⟨A',c',w',r1,r2,r3⟩:=run_more wr w.heap.size _ (.slice At p ct) p _ HO.out Ai (n t) ci (f t) k2 (by omega) 22 k3 HB.out.size
     obtain⟨m,hm⟩:∃m,m=n t:=⟨_,rfl⟩
     rw[←hm]at k1 r1 r2 hq1
     have e1:cat (catU n f t) p (f t)=catU n f (t+1):=by funext x;rw[HP.out];rfl
     rw[e1]at r2
     have HQ1:=Lib.hid hq1;have R1:=Lib.hid r1;have R2:=Lib.hid r2;have R3:=Lib.hid (HB.out.trans r3)
     clear hcc hq1 hq2 hq3 r1 r2 r3 k2 k3 hm e1
     go_wp2_with (at_builtin;refine wpList_append_run rfl (.tmp 31) (.tmp 32) 22 rfl (.slice At p ct) (.slice Ai m ci) (.slice A' (p+m) c') w' rfl rfl R1.out ?_)
     go_roundw
     case rel=>exact⟨t+1,p+m,A',c',by omega,by go_num,rfl,Lib.hid HQ1.out.symm,R2,R3⟩
     case measure=>simp[intOf];omega
    ·obtain rfl:t=j:=by omega
     have hlti2:¬(t:Int)<(t:Int):=by omega
     have hpq:p=q:=by rw[HP.out,HN.out]
     subst hpq
     go_wp2
     go_ret
     exact⟨At,ct,rfl,ByR.of_own HO.out (catU_lt HF.out t),HB.out,fun b hb=>by subst hb;exact own_ge HO.out b.block rfl⟩
end Go.Proofs.YtcmpmighjglnpaaGreat
namespace Go.Proofs.YtcmpmighjglnpaaGreat
open Go.RowKit
theorem last_any(w:World)(A:Option Addr)(n c:Nat)(f:Nat→Nat)(hr:ByR w w.heap.size A n c f)(k:Nat)(hk:k≤1000000000):
  Calls Tryz.prog 111 #[.slice A n c,.int .i64 (k:Int)] w fun e w'=>∃A' c',e=.returned (.slice A' (n-(n-k)) c')∧w=w'∧ByR w w.heap.size A' (n-(n-k)) c' (fun j=>f (j+(n-k))):=by
 obtain⟨q,hq⟩:∃q,q=n-k:=⟨_,rfl⟩
 rw[←hq]
 have hmx:max ((n:Int)-(k:Int)) 0=(q:Int):=by omega
 have hqn:q≤n:=by omega
 have hnc:=hr.2.2.1
 have hcm:=hr.2.2.2
 unfold maxLen at hcm
 rcases A with _|a
 ·have hc0:c=0:=hr.2.1 rfl
  obtain rfl:n=0:=by omega
  obtain rfl:q=0:=by omega
  subst hc0
  have HR:=Lib.hid hr
  clear hr hq hqn hnc hcm hmx
  by_cases h0:0<k
  ·have h1: -(k:Int)<0:=by omega
   go_enter Tryz.func111,Tryz.ntmps111
   go_wp2
   go_ret
   exact⟨none,0,rfl,rfl,HR.out⟩
  ·obtain rfl:k=0:=by omega
   go_enter Tryz.func111,Tryz.ntmps111
   go_wp2
   go_ret
   exact⟨none,0,rfl,rfl,HR.out⟩
 ·by_cases hnk:n<k
  ·obtain rfl:q=0:=by omega
   have HR:=Lib.hid hr
   have h1:(n:Int)-(k:Int)<0:=by omega
   have h2:¬(0:Int)≤(n:Int)-(k:Int):=by omega
   clear hr hq hmx
   go_enter Tryz.func111,Tryz.ntmps111
   go_wp2
   go_ret
   exact⟨some a,c,rfl,rfl,HR.out⟩
  ·obtain⟨A2,hA2⟩:∃A2,(if c=q then(some a:Option Addr)else some (a.add q))=A2:=⟨_,rfl⟩
   have HD:=Lib.hid (hr.drop hqn hA2)
   have hqc:q≤c:=by omega
   have hk2:(n:Int)-(k:Int)=(q:Int):=by omega
   have h1:¬(q:Int)<0:=by omega
   clear hr hq hmx
   go_enter Tryz.func111,Tryz.ntmps111
   go_wp2
   go_ret
   exact⟨A2,c-q,rfl,rfl,HD.out⟩
def two{α:Type}(x y:α):Nat→α
 |0=>x
 |_+1=>y
theorem in_sum{S n m:Nat}(_hn:n≤S):sumU (two (n-(n-(S-(m-(m-S))))) (m-(m-S))) 2=inSN S n m:=by
 simp only[sumU,two]
 unfold inSN keepN
 omega
theorem in_cat{S n m:Nat}{f g:Nat→Nat}(_hn:n≤S){j:Nat}(_hj:j<inSN S n m):
  catU (two (n-(n-(S-(m-(m-S))))) (m-(m-S))) (two (fun j=>f (j+(n-(S-(m-(m-S)))))) (fun j=>g (j+(m-S)))) 2 j=inF S n f m g j:=by
 unfold inSN keepN at _hj
 simp only[catU,sumU,two]
 unfold inF dropN cat
 dsimp only
 repeat' split
 all_goals first|(exfalso;omega)|(congr 1;omega)
theorem into_any(w:World)(S:Nat)(hS1:1≤S)(hS:S≤32768)(A:Option Addr)(n c:Nat)(f:Nat→Nat)(hr:ByR w w.heap.size A n c f)(hn:n≤S)(A2:Option Addr)(m c2:Nat)(g:Nat→Nat)(hg:ByR w w.heap.size A2 m c2 g)(_hm:m≤1000000)(l:Nat)(hl:l=inSN S n m):
  Calls Tryz.prog 85 #[.agg #[.int .i64 (S:Int),.slice A n c],.slice A2 m c2] w fun e w'=>∃A',e=.returned (.agg #[.int .i64 (S:Int),.slice A' l l])∧ByR w' w'.heap.size A' l l (inF S n f m g)∧Below w.heap.size w w'∧(∀b,A'.map (·.block)=some b→w.heap.size≤b):=by
 have hb0:=((Below.refl w.heap.size w).alloc (Nat.le_refl _) (.cells #[.int .i64 (S:Int),.slice A n c] 30)).alloc (by simp) (.cells #[.int .i64 0,.slice none 0 0] 30)
 obtain⟨W1,hW1⟩:∃W1,W1=(w.alloc (.cells #[.int .i64 (S:Int),.slice A n c] 30)).alloc (.cells #[.int .i64 0,.slice none 0 0] 30):=⟨_,rfl⟩
 have hsz:W1.heap.size=w.heap.size+2:=by rw[hW1];simp
 rw[←hW1]at hb0
 have p1:W1.heap[w.heap.size]?=some (.cells #[.int .i64 (S:Int),.slice A n c] 30 (0,0)):=by
  rw[hW1,heap_alloc_old _ _ (by simp)];exact heap_alloc_new w _
 have p2:W1.heap[w.heap.size+1]?=some (.cells #[.int .i64 0,.slice none 0 0] 30 (0,0)):=by
  rw[hW1];have:=heap_alloc_new (w.alloc (.cells #[.int .i64 (S:Int),.slice A n c] 30)) (.cells #[.int .i64 0,.slice none 0 0] 30);simpa using this
 have HR:=Lib.hid ((hr.below hb0 (Nat.le_refl _)).more hb0.size);have HG:=Lib.hid ((hg.below hb0 (Nat.le_refl _)).more hb0.size);have HB0:=Lib.hid hb0;have HW1:=Lib.hid hW1;have HP1:=Lib.hid p1;have HP2:=Lib.hid p2;have HL:=Lib.hid hl
 have a1:W1.cell? ⟨w.heap.size,0,none⟩=some (.int .i64 (S:Int)):=(cell_of_row W1 _ 0 _ _ (0,0) p1).trans rfl
 have a2:W1.cell? ⟨w.heap.size,1,none⟩=some (.slice A n c):=(cell_of_row W1 _ 1 _ _ (0,0) p1).trans rfl
 have hwz:w.heap.size<W1.heap.size:=by omega
 have HSZ:=Lib.hid hsz
 clear hr hg hb0 hW1 p1 p2 hl hsz
 go_enter Tryz.func85,Tryz.ntmps85
 go_wp2_with fail
 rw[←HW1.out]
 go_wp2_with fail
 refine(last_any W1 A2 m c2 g HG.out S (by omega)).mono ?_
 rintro e w' ⟨A3,c3,rfl,rfl,h3⟩
 have H3:=Lib.hid h3
 clear h3
 obtain⟨m',hm'⟩:∃m',m'=m-(m-S):=⟨_,rfl⟩
 rw[←hm']at H3⊢
 have HM:=Lib.hid hm'
 obtain⟨t,ht⟩:∃t,t=S-m':=⟨_,rfl⟩
 have et:(S:Int)-(m':Int)=(t:Int):=by omega
 have HT:=Lib.hid ht
 have hm2:m'≤S:=by omega
 clear hm' ht
 go_wp2_with fail
 refine(last_any W1 A n c f HR.out t (by omega)).mono ?_
 rintro e w' ⟨A4,c4,rfl,rfl,h4⟩
 have H4:=Lib.hid h4
 clear h4
 obtain⟨n',hn'⟩:∃n',n'=n-(n-t):=⟨_,rfl⟩
 rw[←hn']at H4⊢
 have HN:=Lib.hid hn'
 clear hn'
 obtain⟨W2,hW2⟩:∃W2,W2=W1.alloc (.cells #[.slice A4 n' c4,.slice A3 m' c3] 22):=⟨_,rfl⟩
 have hb2:Below W1.heap.size W1 W2:=by rw[hW2];exact(Below.refl _ _).alloc (Nat.le_refl _) _
 have q2:W2.heap[W1.heap.size]?=some (.cells #[.slice A4 n' c4,.slice A3 m' c3] 22 (0,0)):=by rw[hW2];exact heap_alloc_new W1 _
 have hsz2:W2.heap.size=w.heap.size+3:=by rw[hW2];simp[HSZ.out]
 have hff:∀i j,two (fun j=>f (j+(n-t))) (fun j=>g (j+(m-S))) i j<256:=by
  intro i j
  cases i with
  |zero=>exact H4.out.1.1 j
  |succ i=>exact H3.out.1.1 j
 have hrows:RowsB W2 W2.heap.size (some ⟨W1.heap.size,0,none⟩) 2 (two n' m') (two (fun j=>f (j+(n-t))) (fun j=>g (j+(m-S)))):=by
  refine fun _=>⟨W1.heap.size,0,rfl,by have:=HSZ.out;omega,fun i hi=>?_⟩
  have e:i=0∨i=1:=by omega
  rcases e with rfl|rfl
  ·exact⟨A4,c4,(cell_of_row W2 _ 0 _ _ (0,0) q2).trans rfl,(H4.out.1.below hb2 (Nat.le_refl _)).more hb2.size,H4.out.2.1⟩
  ·exact⟨A3,c3,(cell_of_row W2 _ 1 _ _ (0,0) q2).trans rfl,(H3.out.1.below hb2 (Nat.le_refl _)).more hb2.size,H3.out.2.1⟩
 have hsum:sumU (two n' m') 2=l:=by rw[HL.out,HN.out,HT.out,HM.out];exact in_sum hn
 have hl3:l≤32768:=by rw[HL.out];exact Nat.le_trans (inN_le S n m) hS
 have hcn:=concat_any W2 (some ⟨W1.heap.size,0,none⟩) 2 2 (two n' m') _ hff hrows (by omega) (by rw[hsum];omega)
 rw[hsum]at hcn
 have hwz2:w.heap.size<W2.heap.size:=by omega
 have hwz3:w.heap.size+1<W2.heap.size:=by omega
 have HSZ2:=Lib.hid hsz2
 have HCN:=Lib.hid hcn;have HW2:=Lib.hid hW2;have HB2:=Lib.hid (HB0.out.trans (hb2.mono (by have:=HSZ.out;omega)))
 have hP1:W2.heap[w.heap.size]?=_:=(hb2.block w.heap.size (by omega)).trans HP1.out
 have hP2:W2.heap[w.heap.size+1]?=_:=(hb2.block (w.heap.size+1) (by have:=HSZ.out;omega)).trans HP2.out
 have HQ1:=Lib.hid hP1;have HQ2:=Lib.hid hP2
 clear hff hrows hsum hcn hW2 q2 hP1 hP2 hb2 hsz2
 go_wp2_with fail
 rw[←HW2.out]
 refine HCN.out.mono ?_
 rintro e w3 ⟨A5,c5,rfl,h5,hb5,hge⟩
 have hp1:=(hb5.block w.heap.size hwz2).trans HQ1.out
 have hp2:=(hb5.block (w.heap.size+1) hwz3).trans HQ2.out
 have b1:w3.cell? ⟨w.heap.size,0,none⟩=some (.int .i64 (S:Int)):=(cell_of_row w3 _ 0 _ _ (0,0) hp1).trans rfl
 have d1:w3.cell? ⟨w.heap.size+1,0,none⟩=some (.int .i64 0):=(cell_of_row w3 _ 0 _ _ (0,0) hp2).trans rfl
 have d2:w3.cell? ⟨w.heap.size+1,1,none⟩=some (.slice none 0 0):=(cell_of_row w3 _ 1 _ _ (0,0) hp2).trans rfl
 have f1:w3.frozen? ⟨w.heap.size+1,0,none⟩=false:=frozen_of_row w3 _ 0 _ _ hp2
 have f2:w3.frozen? ⟨w.heap.size+1,1,none⟩=false:=frozen_of_row w3 _ 1 _ _ hp2
 have hlc:=h5.2.2.1
 have hcm:=h5.2.2.2
 unfold maxLen at hcm
 have hfin:ByR w3 w3.heap.size A5 l l (inF S n f m g):=by
  refine(h5.cut l (Nat.le_refl _) hlc).ext (inF_lt HR.out.1.1 HG.out.1.1) fun j hj=>?_
  rw[HL.out]at hj
  rw[←in_cat hn hj,HN.out,HT.out,HM.out]
 have HF:=Lib.hid hfin;have HB5:=Lib.hid (HB2.out.trans (hb5.mono (by have:=HSZ2.out;omega)));have HGE:=Lib.hid hge
 clear h5 hb5 hge hp1 hp2 hfin a1 a2
 have e1:((w3.setCell ⟨w.heap.size+1,0,none⟩ (.int .i64 (S:Int))).setCell ⟨w.heap.size+1,1,none⟩ (.slice A5 l l)).cell? ⟨w.heap.size+1,0,none⟩=some (.int .i64 (S:Int)):=(World.cell?_setCell_other _ _ _ _ (by simp)).trans (World.cell?_setCell_same _ _ _ d1)
 have e2:((w3.setCell ⟨w.heap.size+1,0,none⟩ (.int .i64 (S:Int))).setCell ⟨w.heap.size+1,1,none⟩ (.slice A5 l l)).cell? ⟨w.heap.size+1,1,none⟩=some (.slice A5 l l):=World.cell?_setCell_same _ _ _ ((World.cell?_setCell_other _ _ _ _ (by simp)).trans d2)
 go_wp2
 go_region
 go_wp2
 refine bodyPost_ret (v:=.agg #[.int .i64 (S:Int),.slice A5 l l]) (by simp[results,Tryz.results85,go_sem,e1,e2]) rfl ⟨A5,rfl,?_,?_,fun b hb=>by have:=HGE.out b hb;have:=HSZ2.out;omega⟩
 ·have hlt:=HSZ2.out
  exact(((HF.out.other ⟨w.heap.size+1,0,none⟩ (.int .i64 (S:Int)) (fun b hb=>by have:=HGE.out b hb;show b≠w.heap.size+1;omega)).other ⟨w.heap.size+1,1,none⟩ (.slice A5 l l) (fun b hb=>by have:=HGE.out b hb;show b≠w.heap.size+1;omega)).drew).more (by simp)
 ·exact((HB5.out.setCell (p:=⟨w.heap.size+1,0,none⟩) (Nat.le_succ _) _).setCell (p:=⟨w.heap.size+1,1,none⟩) (Nat.le_succ _) _).drew
theorem copied_any(w:World)(A:Option Addr)(d c:Nat)(f:Nat→Nat)(hr:ByR w w.heap.size A d c f)(hd:0<d)(hd6:d≤1000000)(n:Nat)(hn:n≤1000000):
  Calls Tryz.prog 110 #[.slice A d c,.int .i64 (n:Int)] w fun e w'=>∃A' c',e=.returned (.slice A' n c')∧ByR w' w'.heap.size A' n c' (fun i=>f (i%d))∧Below w.heap.size w w'∧(∀b,A'.map (·.block)=some b→w.heap.size≤b):=by
 obtain⟨F,hF⟩:∃F:Nat→Nat,F=fun i=>f (i%d):=⟨_,rfl⟩
 rw[←hF]
 have hF6:∀j,F j<256:=by rw[hF];exact fun j=>hr.1.1 _
 have hmk:=make_cap8 n (by omega)
 have hown:=own_madeB w n (by omega) F
 have hbl:Below w.heap.size w (w.alloc (.cells (madeCells #[.int .u8 0] n) 5)):=(Below.refl _ w).alloc (Nat.le_refl _) _
 obtain⟨u,hu⟩:∃u,u=w.alloc (.cells (madeCells #[.int .u8 0] n) 5):=⟨_,rfl⟩
 rw[←hu]at hown hbl
 have HR:=Lib.hid hr;have HF:=Lib.hid hF;have HF6:=Lib.hid hF6;have HU:=Lib.hid hu;have HO:=Lib.hid hown;have HB:=Lib.hid hbl
 clear hr hF hF6 hu hown hbl
 go_enter Tryz.func110,Tryz.ntmps110
 go_wp2
 rw[←HU.out]
 clear hmk
 go_loopw [5,10] (fun s i wr=>∃(t:Nat) (At:Option Addr) (ct:Nat),t≤n∧i=.int .i64 (t:Int)∧s=.slice At t ct∧Hid (wr.ownsRow w.heap.size 5 1 (.slice At t ct) t (bytesL t F))∧Hid (Below w.heap.size w wr)) (fun _ i _=>n-(intOf i).toNat)
 case atStart=>exact⟨0,_,_,Nat.zero_le _,rfl,rfl,HO,HB⟩
 case round=>
  obtain⟨t,At,ct,ht,rfl,rfl,HO2,HB2⟩:=hrel
  by_cases hlt:t<n
  ·have hlti:(t:Int)<(n:Int):=by omega
   obtain⟨b,o,rfl,hb,hcc⟩:=(HR.out.1.below HB2.out (Nat.le_refl _)).2 hd
   obtain⟨p,hp⟩:∃p,p=t%d:=⟨_,rfl⟩
   have hpd:p<d:=by rw[hp];exact Nat.mod_lt _ hd
   have e0:(t:Int)%(d:Int)=(p:Int):=by omega
   have e1:Int.tmod (t:Int) (d:Int)=(p:Int):=by rw[Int.tmod_eq_emod_of_nonneg (by omega)];exact e0
   have k1:=hcc p hpd
   obtain⟨x,hx⟩:∃x,x=f p:=⟨_,rfl⟩
   rw[←hx]at k1
   have hxF:x=F t:=by rw[HF.out,hx,hp]
   obtain⟨A',c',w',r1,r2,r3⟩:=run_oneB wr w.heap.size At t ct F HF6.out HO2.out x hxF (by omega) HB2.out.size
   have R1:=Lib.hid r1;have R2:=Lib.hid r2;have R3:=Lib.hid (HB2.out.trans r3)
   clear hcc r1 r2 r3 hp hx hxF
   go_wp2_with (at_builtin;refine wpList_append_run rfl (.tmp 13) (.tmp 21) 22 rfl (.slice At t ct) (.slice (some ⟨wr.heap.size,0,none⟩) 1 1) (.slice A' (t+1) c') w' rfl rfl R1.out ?_)
   go_roundw
   case rel=>exact⟨t+1,A',c',by omega,by go_num,rfl,R2,R3⟩
   case measure=>simp[intOf];omega
  ·obtain rfl:t=n:=by omega
   have hlti:¬(t:Int)<(t:Int):=by omega
   go_wp2
   go_ret
   exact⟨At,ct,rfl,ByR.of_own HO2.out HF6.out,HB2.out,fun b hb=>by subst hb;exact own_ge HO2.out b.block rfl⟩
end Go.Proofs.YtcmpmighjglnpaaGreat
namespace Go.Proofs.YtcmpmighjglnpaaGreat
open Go.RowKit
def winE(S:Int)(n:Nat):Int:=if 1≤S∧S≤32768∧(n:Int)≤S then 0 else 8
def newE(S:Int):Int:=if 1≤S∧S≤32768 then 0 else 2
def newS(S:Int):Int:=if 1≤S∧S≤32768 then S else 0
def pushE(S:Int)(n m:Nat):Int:=if winE S n=0 then(if 131072<m then 4 else 0)else 8
def copyE(S:Int)(n:Nat)(d k:Int):Int:=if winE S n=0 then(if k<0∨258<k∨d<1 then 2 else if(n:Int)<d then 60 else 0)else 8
theorem winE_cases(S:Int)(n:Nat):winE S n=0∧1≤S∧S≤32768∧(n:Int)≤S∨winE S n=8:=by
 unfold winE;split
 ·exact .inl ⟨rfl,by assumption⟩
 ·exact .inr rfl
def NewBs(B:Nat)(A:Option Addr):Prop:=∀b,A.map (·.block)=some b→B≤b
theorem NewBs.none_(B:Nat):NewBs B none:=fun _ h=>by cases h
theorem NewBs.mono{B B':Nat}{A:Option Addr}(h:NewBs B A)(hB:B'≤B):NewBs B' A:=fun b hb=>Nat.le_trans hB (h b hb)
def CopyOut(S:Int)(n:Nat)(f:Nat→Nat)(d k:Int)(B:Nat)(e:Ending)(w':World):Prop:=
 ∃S' A' l' c' F' B' k' b' G',e=.returned (.tuple #[.agg #[.int .i64 S',.slice A' l' c'],.slice B' k' b',.int .i64 (copyE S n d k)])∧ByR w' w'.heap.size A' l' c' F'∧ByR w' w'.heap.size B' k' b' G'∧NewBs B A'∧NewBs B B'∧
  if copyE S n d k=0 then S'=S∧l'=inSN S.toNat n k.toNat∧F'=inF S.toNat n f k.toNat (copF n f d.toNat)∧k'=k.toNat∧G'=copF n f d.toNat else S'=0∧l'=0∧k'=0
theorem zero_lt256:∀j:Nat,(fun _=>0:Nat→Nat) j<256:=fun _=>by show 0<256;omega
theorem below_set2{B X:Nat}{w v:World}(h:Below B w v)(hX:B≤X)(p q:Value):Below B w ((v.setCell ⟨X,0,none⟩ p).setCell ⟨X,1,none⟩ q):=(h.setCell (p:=⟨X,0,none⟩) hX p).setCell (p:=⟨X,1,none⟩) hX q
theorem ByR.set2{w:World}{B n c X:Nat}{A:Option Addr}{f:Nat→Nat}(h:ByR w B A n c f)(p q:Value)(hne:∀b,A.map (·.block)=some b→b≠X):ByR ((w.setCell ⟨X,0,none⟩ p).setCell ⟨X,1,none⟩ q) B A n c f:=(h.other ⟨X,0,none⟩ p hne).other ⟨X,1,none⟩ q hne
theorem win_blocks{w W1 w2:World}{x y:Value}{t:TypeId}(hW:W1=(w.alloc (.cells #[x,y] t)).alloc (.cells #[.int .i64 0,.slice none 0 0] t))(hb:Below W1.heap.size W1 w2):
  w2.cell? ⟨w.heap.size,0,none⟩=some x∧w2.cell? ⟨w.heap.size,1,none⟩=some y∧w2.cell? ⟨w.heap.size+1,0,none⟩=some (.int .i64 0)∧w2.cell? ⟨w.heap.size+1,1,none⟩=some (.slice none 0 0)∧
  w2.frozen? ⟨w.heap.size+1,0,none⟩=false∧w2.frozen? ⟨w.heap.size+1,1,none⟩=false∧Below w.heap.size w w2∧w.heap.size+1<w2.heap.size∧W1.heap.size=w.heap.size+2:=by
 have hsz:W1.heap.size=w.heap.size+2:=by rw[hW];simp
 have p1:W1.heap[w.heap.size]?=some (.cells #[x,y] t (0,0)):=by
  rw[hW,heap_alloc_old _ _ (by simp)];exact heap_alloc_new w _
 have p2:W1.heap[w.heap.size+1]?=some (.cells #[.int .i64 0,.slice none 0 0] t (0,0)):=by
  rw[hW];have:=heap_alloc_new (w.alloc (.cells #[x,y] t)) (.cells #[.int .i64 0,.slice none 0 0] t);simpa using this
 have hb0:Below w.heap.size w W1:=by rw[hW];exact((Below.refl w.heap.size w).alloc (Nat.le_refl _) _).alloc (by simp) _
 have q1:=(hb.block w.heap.size (by omega)).trans p1
 have q2:=(hb.block (w.heap.size+1) (by omega)).trans p2
 exact⟨(cell_of_row w2 _ 0 _ _ (0,0) q1).trans rfl,(cell_of_row w2 _ 1 _ _ (0,0) q1).trans rfl,(cell_of_row w2 _ 0 _ _ (0,0) q2).trans rfl,(cell_of_row w2 _ 1 _ _ (0,0) q2).trans rfl,
  frozen_of_row w2 _ 0 _ _ q2,frozen_of_row w2 _ 1 _ _ q2,hb0.trans (hb.mono (by omega)),by have:=hb.size;omega,hsz⟩
theorem set2_cells{w:World}{X:Nat}{x y p q:Value}(h0:w.cell? ⟨X,0,none⟩=some x)(h1:w.cell? ⟨X,1,none⟩=some y):
  ((w.setCell ⟨X,0,none⟩ p).setCell ⟨X,1,none⟩ q).cell? ⟨X,0,none⟩=some p∧((w.setCell ⟨X,0,none⟩ p).setCell ⟨X,1,none⟩ q).cell? ⟨X,1,none⟩=some q:=
 ⟨(World.cell?_setCell_other _ _ _ _ (by simp)).trans (World.cell?_setCell_same _ _ _ h0),World.cell?_setCell_same _ _ _ ((World.cell?_setCell_other _ _ _ _ (by simp)).trans h1)⟩
theorem snew_any(w:World)(S:Int)(h1: -9223372036854775808≤S)(h2:S≤9223372036854775807):
  Calls Tryz.prog 20 #[.int .i64 S] w fun e w'=>e=.returned (.tuple #[.agg #[.int .i64 (newS S),.slice none 0 0],.int .i64 (newE S)])∧Below w.heap.size w w':=by
 by_cases h3:S<1
 ·have e1:newS S=0:=by unfold newS;rw[if_neg (by omega)]
  have e2:newE S=2:=by unfold newE;rw[if_neg (by omega)]
  rw[e1,e2]
  clear e1 e2
  go_enter Tryz.func20,Tryz.ntmps20
  go_wp2
  refine bodyPost_ret (v:=.tuple #[.agg #[.int .i64 0,.slice none 0 0],.int .i64 2]) (by simp[results,Tryz.results20,go_sem]) rfl ⟨rfl,?_⟩
  exact(Below.refl w.heap.size w).alloc (Nat.le_refl _) _
 ·by_cases h4:32768<S
  ·have e1:newS S=0:=by unfold newS;rw[if_neg (by omega)]
   have e2:newE S=2:=by unfold newE;rw[if_neg (by omega)]
   rw[e1,e2]
   clear e1 e2
   go_enter Tryz.func20,Tryz.ntmps20
   go_wp2
   refine bodyPost_ret (v:=.tuple #[.agg #[.int .i64 0,.slice none 0 0],.int .i64 2]) (by simp[results,Tryz.results20,go_sem]) rfl ⟨rfl,?_⟩
   exact(Below.refl w.heap.size w).alloc (Nat.le_refl _) _
  ·have e1:newS S=S:=by unfold newS;rw[if_pos (by omega)]
   have e2:newE S=0:=by unfold newE;rw[if_pos (by omega)]
   rw[e1,e2]
   clear e1 e2
   go_enter Tryz.func20,Tryz.ntmps20
   go_wp2
   refine bodyPost_ret (v:=.tuple #[.agg #[.int .i64 S,.slice none 0 0],.int .i64 0]) (by simp[results,Tryz.results20,go_sem]) rfl ⟨rfl,?_⟩
   exact(Below.refl w.heap.size w).alloc (Nat.le_refl _) _
theorem schk_any(w:World)(S:Int)(A:Option Addr)(n c:Nat)(h1: -9223372036854775808≤S)(h2:S≤9223372036854775807):
  Calls Tryz.prog 50 #[.agg #[.int .i64 S,.slice A n c]] w fun e w'=>e=.returned (.int .i64 (winE S n))∧Below w.heap.size w w':=by
 have HB:=Lib.hid ((Below.refl w.heap.size w).alloc (Nat.le_refl _) (.cells #[.int .i64 S,.slice A n c] 30))
 by_cases h3:S<1
 ·have e1:winE S n=8:=by unfold winE;rw[if_neg (by omega)]
  rw[e1];clear e1
  go_enter Tryz.func50,Tryz.ntmps50
  go_wp2
  go_ret
  exact⟨rfl,HB.out⟩
 ·by_cases h4:32768<S
  ·have e1:winE S n=8:=by unfold winE;rw[if_neg (by omega)]
   rw[e1];clear e1
   go_enter Tryz.func50,Tryz.ntmps50
   go_wp2
   go_ret
   exact⟨rfl,HB.out⟩
  ·by_cases h5:S<(n:Int)
   ·have e1:winE S n=8:=by unfold winE;rw[if_neg (by omega)]
    rw[e1];clear e1
    go_enter Tryz.func50,Tryz.ntmps50
    go_wp2
    go_ret
    exact⟨rfl,HB.out⟩
   ·have e1:winE S n=0:=by unfold winE;rw[if_pos (by omega)]
    rw[e1];clear e1
    go_enter Tryz.func50,Tryz.ntmps50
    go_wp2
    go_ret
    exact⟨rfl,HB.out⟩
theorem pushE_eq{S:Int}{n m:Nat}{x:Int}(h:winE S n=x):pushE S n m=if x=0 then(if 131072<m then 4 else 0)else 8:=by unfold pushE;rw[h]
theorem copyE_bad{S:Int}{n:Nat}{d k:Int}(h:winE S n=8):copyE S n d k=8:=by unfold copyE;rw[h];rfl
theorem copyE_arg{S:Int}{n:Nat}{d k:Int}(h:winE S n=0)(h2:k<0∨258<k∨d<1):copyE S n d k=2:=by unfold copyE;rw[h,if_pos rfl,if_pos h2]
theorem copyE_dist{S:Int}{n:Nat}{d k:Int}(h:winE S n=0)(h2:¬(k<0∨258<k∨d<1))(h3:(n:Int)<d):copyE S n d k=60:=by unfold copyE;rw[h,if_pos rfl,if_neg h2,if_pos h3]
theorem copyE_ok{S:Int}{n:Nat}{d k:Int}(h:winE S n=0)(h2:¬(k<0∨258<k∨d<1))(h3:¬(n:Int)<d):copyE S n d k=0:=by unfold copyE;rw[h,if_pos rfl,if_neg h2,if_neg h3]
theorem copyOut_no{S:Int}{n:Nat}{f:Nat→Nat}{d k x:Int}(h:copyE S n d k=x)(hx:x≠0)(w':World)(B:Nat):CopyOut S n f d k B (.returned (.tuple #[.agg #[.int .i64 0,.slice none 0 0],.slice none 0 0,.int .i64 x])) w':=
 ⟨0,none,0,0,fun _=>0,none,0,0,fun _=>0,by rw[h],ByR.nil _ _ _ zero_lt256,ByR.nil _ _ _ zero_lt256,NewBs.none_ _,NewBs.none_ _,by rw[h,if_neg hx];exact⟨rfl,rfl,rfl⟩⟩
theorem scopy_any(w:World)(S:Int)(A:Option Addr)(n c:Nat)(f:Nat→Nat)(hr:ByR w w.heap.size A n c f)(h1: -9223372036854775808≤S)(h2:S≤9223372036854775807)(d k:Int)(hd1: -9223372036854775808≤d)(hd2:d≤9223372036854775807)(hk1: -9223372036854775808≤k)(hk2:k≤9223372036854775807):
  Calls Tryz.prog 84 #[.agg #[.int .i64 S,.slice A n c],.int .i64 d,.int .i64 k] w fun e w'=>CopyOut S n f d k w.heap.size e w'∧Below w.heap.size w w':=by
 obtain⟨W1,hW1⟩:∃W1,W1=(w.alloc (.cells #[.int .i64 S,.slice A n c] 30)).alloc (.cells #[.int .i64 0,.slice none 0 0] 30):=⟨_,rfl⟩
 obtain⟨a1,a2,a3,a4,a5,a6,hb1,hsz,hs2⟩:=win_blocks hW1 (Below.refl W1.heap.size W1)
 have hck:=schk_any W1 S A n c h1 h2
 have HR:=Lib.hid ((hr.below hb1 (Nat.le_refl _)).more hb1.size)
 have HW1:=Lib.hid hW1;have HCK:=Lib.hid hck
 clear hr hW1 hb1 hs2 hck a3 a4 a5 a6
 go_enter Tryz.func84,Tryz.ntmps84
 go_wp2_with fail
 rw[←HW1.out]
 go_wp2_with fail
 refine HCK.out.mono ?_
 rintro e w2 ⟨rfl,hb2⟩
 have HR2:=Lib.hid ((HR.out.below hb2 (Nat.le_refl _)).more hb2.size)
 obtain⟨a1,a2,a3,a4,a5,a6,hb1,hsz2,hs2⟩:=win_blocks HW1.out hb2
 have HB1:=Lib.hid hb1
 clear hb2 hb1 hs2 HR HCK
 obtain⟨e1,e2⟩:=set2_cells (p:=.int .i64 0) (q:=.slice none 0 0) a3 a4
 rcases winE_cases S n with⟨he,hS1,hS2,hnS⟩|he
 ·rw[he]
  by_cases hb:k<0∨258<k∨d<1
  ·have HPE:=Lib.hid (copyE_arg he hb)
   clear he
   have key:k<0∨((¬k<0∧258<k)∨(¬k<0∧¬258<k∧d<1)):=by omega
   rcases key with hx|⟨hx,hy⟩|⟨hx,hy,hz⟩
   all_goals(
    clear hb
    go_wp2
    refine bodyPost_ret (v:=.tuple #[.agg #[.int .i64 0,.slice none 0 0],.slice none 0 0,.int .i64 2]) (by simp[results,Tryz.results84,go_sem,e1,e2]) rfl ⟨copyOut_no HPE.out (by decide) _ _,below_set2 HB1.out (Nat.le_succ _) _ _⟩)
  ·by_cases hn:(n:Int)<d
   ·have HPE:=Lib.hid (copyE_dist he hb hn)
    have hx:¬k<0:=by omega
    have hy:¬258<k:=by omega
    have hz:¬d<1:=by omega
    clear he hb
    go_wp2
    refine bodyPost_ret (v:=.tuple #[.agg #[.int .i64 0,.slice none 0 0],.slice none 0 0,.int .i64 60]) (by simp[results,Tryz.results84,go_sem,e1,e2]) rfl ⟨copyOut_no HPE.out (by decide) _ _,below_set2 HB1.out (Nat.le_succ _) _ _⟩
   ·have HPE:=Lib.hid (copyE_ok he hb hn)
    have hx:¬k<0:=by omega
    have hy:¬258<k:=by omega
    have hz:¬d<1:=by omega
    obtain⟨s,rfl⟩:=Int.eq_ofNat_of_zero_le (show 0≤S by omega)
    obtain⟨q,rfl⟩:=Int.eq_ofNat_of_zero_le (show 0≤k by omega)
    obtain⟨D,rfl⟩:=Int.eq_ofNat_of_zero_le (show 0≤d by omega)
    have hla:=last_any w2 A n c f HR2.out D (by omega)
    have hD1:1≤D:=by omega
    have hDn:D≤n:=by omega
    rw[show n-(n-D)=D by omega]at hla
    have HLA:=Lib.hid hla
    clear he hb hla e1 e2
    go_wp2_with fail
    refine HLA.out.mono ?_
    rintro e w' ⟨A3,c3,rfl,rfl,h3⟩
    have hcp:=copied_any w2 A3 D c3 _ h3 (by omega) (by omega) q (by omega)
    have hfe:(fun i=>(fun j=>f (j+(n-D))) (i%D))=copF n f D:=by
     funext i;show f (i%D+(n-D))=f (n-D+i%D);rw[Nat.add_comm]
    rw[hfe]at hcp
    have HCP:=Lib.hid hcp
    clear h3 hcp hfe HLA
    go_wp2_with fail
    refine HCP.out.mono ?_
    rintro e w3 ⟨A4,c4,rfl,h4,hb4,hge4⟩
    have hr3:=(HR2.out.below hb4 (Nat.le_refl _)).more hb4.size
    have hin:=into_any w3 s (by omega) (by omega) A n c f hr3 (by omega) A4 q c4 (copF n f D) h4 (by omega) (inSN s n q) rfl
    obtain⟨l,hl⟩:∃l,l=inSN s n q:=⟨_,rfl⟩
    rw[←hl]at hin
    have b1:=(hb4.cell (p:=⟨w.heap.size,0,none⟩) (show w.heap.size<w2.heap.size by omega)).trans a1
    have b2:=(hb4.cell (p:=⟨w.heap.size,1,none⟩) (show w.heap.size<w2.heap.size by omega)).trans a2
    have b3:=(hb4.cell (p:=⟨w.heap.size+1,0,none⟩) hsz2).trans a3
    have b4:=(hb4.cell (p:=⟨w.heap.size+1,1,none⟩) hsz2).trans a4
    have b5:=(hb4.frozen (p:=⟨w.heap.size+1,0,none⟩) hsz2).trans a5
    have b6:=(hb4.frozen (p:=⟨w.heap.size+1,1,none⟩) hsz2).trans a6
    have hsz3:w.heap.size+1<w3.heap.size:=by have:=hb4.size;omega
    have HIN:=Lib.hid hin;have HL:=Lib.hid hl;have H4:=Lib.hid h4;have HB4:=Lib.hid (HB1.out.trans (hb4.mono (by omega)))
    have HGE4:=Lib.hid (fun b hb=>by have:=hge4 b hb;show w.heap.size+1<b;omega:∀b,A4.map (·.block)=some b→w.heap.size+1<b)
    clear h4 hb4 hge4 hr3 hin hl a1 a2 a3 a4 a5 a6 HR2 HCP
    go_wp2_with fail
    refine HIN.out.mono ?_
    rintro e w4 ⟨A5,rfl,h5,hb5,hge⟩
    have d3:=(hb5.cell (p:=⟨w.heap.size+1,0,none⟩) hsz3).trans b3
    have d4:=(hb5.cell (p:=⟨w.heap.size+1,1,none⟩) hsz3).trans b4
    have d5:=(hb5.frozen (p:=⟨w.heap.size+1,0,none⟩) hsz3).trans b5
    have d6:=(hb5.frozen (p:=⟨w.heap.size+1,1,none⟩) hsz3).trans b6
    have HGE:=Lib.hid hge;have H5:=Lib.hid h5;have HB5:=Lib.hid (HB4.out.trans (hb5.mono (by omega)))
    have HX4:=Lib.hid ((H4.out.below hb5 (Nat.le_refl _)).more hb5.size)
    clear hge h5 hb5 b1 b2 b3 b4 b5 b6
    obtain⟨e1,e2⟩:=set2_cells (p:=.int .i64 (s:Int)) (q:=.slice A5 l l) d3 d4
    go_wp2
    refine bodyPost_ret (v:=.tuple #[.agg #[.int .i64 (s:Int),.slice A5 l l],.slice A4 q c4,.int .i64 0]) (by simp[results,Tryz.results84,go_sem,e1,e2]) rfl ⟨?_,below_set2 HB5.out (Nat.le_succ _) _ _⟩
    refine⟨(s:Int),A5,l,l,inF s n f q (copF n f D),A4,q,c4,copF n f D,by rw[HPE.out],(H5.out.set2 _ _ fun b hb=>by have:=HGE.out b hb;omega).more (by simp),(HX4.out.set2 _ _ fun b hb=>by have:=HGE4.out b hb;omega).more (by simp),(fun b hb=>by have:=HGE.out b hb;omega),(fun b hb=>by have:=HGE4.out b hb;omega),?_⟩
    rw[HPE.out,if_pos rfl]
    exact⟨rfl,HL.out,rfl,rfl,rfl⟩
 ·have HPE:=Lib.hid (copyE_bad (d:=d) (k:=k) he)
  rw[he]
  clear he
  go_wp2
  refine bodyPost_ret (v:=.tuple #[.agg #[.int .i64 0,.slice none 0 0],.slice none 0 0,.int .i64 8]) (by simp[results,Tryz.results84,go_sem,e1,e2]) rfl ⟨copyOut_no HPE.out (by decide) _ _,below_set2 HB1.out (Nat.le_succ _) _ _⟩
end Go.Proofs.YtcmpmighjglnpaaGreat
namespace Go.Proofs.YtcmpmighjglnpaaGreat
open Go.RowKit
theorem growu_any(w:World)(n:Nat)(hn:n≤1000000000000):
  Calls Tryz.prog 57 #[.slice none 0 0,.int .i64 (n:Int)] w fun e w'=>∃A c,e=.returned (.slice A 0 c)∧w'.ownsRow w.heap.size 5 1 (.slice A 0 c) 0 []∧Below w.heap.size w w':=by
 rcases Nat.eq_zero_or_pos n with h0|h0
 ·subst h0
  go_enter Tryz.func57,Tryz.ntmps57
  go_wp2
  go_ret
  exact⟨none,0,rfl,World.ownsRow_nil _ _ _ _,Below.refl _ _⟩
 ·obtain⟨i0,hi,hz0,hz1,hz2⟩:=info_parts infoU8
  have hrun:=Lib.run_append_nil_zeros (P:=Tryz.prog) w 22 3 22 5 i0 (.int .u8 0) .i64 .i64 Tryz.underlying22 Tryz.underlying3 hi hz0 n h0 (by omega) (by omega) (by rw[hz2];omega)
  have hge:=grownCap_ge w n 0 5
  have hle:=grownCap_le_maxLen w n 0 5 (by unfold maxLen;omega)
  obtain⟨c,hc⟩:∃c,c=grownCap w n 0 5:=⟨_,rfl⟩
  rw[←hc]at hrun hge hle
  obtain⟨Z,hZ⟩:∃Z,Z=(Builtin.zeroCells (Value.int .u8 0).cells n++Builtin.zeroCells (Value.int .u8 0).cells (c-n)):=⟨_,rfl⟩
  rw[←hZ]at hrun
  have hZs:Z.size=c*1:=by rw[hZ];simp[size_zeroCells,Value.cells];omega
  have hown:=World.ownsRow_made (base:=w.heap.size) (e:=5) (size:=1) w.drew Z c (Nat.le_refl _) hle hZs
  have hbl:Below w.heap.size w (w.drew.alloc (.cells Z 5)):=(Below.refl w.heap.size w).drew.alloc (Nat.le_refl _) _
  obtain⟨w1,hw1⟩:∃w1,w1=w.drew.alloc (.cells Z 5):=⟨_,rfl⟩
  rw[←hw1]at hrun hown hbl
  have HR:=Lib.hid hrun;have HO:=Lib.hid hown;have HB:=Lib.hid hbl
  unfold maxLen at hle
  clear hrun hown hbl hZ hZs hw1 hc hi hz0 hz1 hz2
  have hp:(0:Int)<(n:Int):=by omega
  go_enter Tryz.func57,Tryz.ntmps57
  go_wp2_with (at_builtin;refine Lib.wpList_append_run _ rfl _ _ _ _ rfl _ _ rfl rfl _ _ HR.out ?_)
  go_ret
  exact⟨_,_,rfl,HO.out,HB.out⟩
theorem concatu_any(w:World)(A:Option Addr)(k c:Nat)(n:Nat→Nat)(f:Nat→Nat→Nat)(hf:∀i j,f i j<256)(hr:RowsB w w.heap.size A k n f)(hk:k≤1000000)(hs:sumU n k≤1000000000):
  Calls Tryz.prog 37 #[.slice A k c] w fun e w'=>∃A' c',e=.returned (.slice A' (sumU n k) c')∧w'.ownsRow w.heap.size 5 1 (.slice A' (sumU n k) c') (sumU n k) (bytesL (sumU n k) (catU n f k))∧Below w.heap.size w w':=by
 have HR:=Lib.hid hr;have HF:=Lib.hid hf;have HS:=Lib.hid hs
 obtain⟨N,hN⟩:∃N,N=sumU n k:=⟨_,rfl⟩
 rw[←hN]at hs⊢
 have HN:=Lib.hid hN
 clear hr hf hN
 go_enter Tryz.func37,Tryz.ntmps37
 go_wp2_with fail
 go_loopw [3,11] (fun s i wr=>∃j q:Nat,j≤k∧i=.int .i64 (j:Int)∧s=.int .i64 (q:Int)∧Hid (q=sumU n j)∧w=wr) (fun _ i _=>k-(intOf i).toNat)
 case atStart=>exact⟨0,0,Nat.zero_le _,rfl,rfl,Lib.hid rfl,rfl⟩
 case round=>
  obtain⟨j,q,hj,rfl,rfl,HQ,rfl⟩:=hrel
  by_cases hlt:j<k
  ·have hlti:(j:Int)<(k:Int):=by omega
   obtain⟨b,o,rfl,hb,hcc⟩:=HR.out (by omega)
   obtain⟨Ai,ci,c1,_,_⟩:=hcc j hlt
   have hq1:sumU n (j+1)=q+n j:=by rw[HQ.out];rfl
   have hq2:=sumU_mono n (show j+1≤k by omega)
   have hq3:=HS.out
   obtain⟨m,hm⟩:∃m,m=n j:=⟨_,rfl⟩
   rw[←hm]at c1 hq1
   have hqm:q+m≤1000000000:=by omega
   have hnn:¬((q:Int)+(m:Int)<0):=by omega
   have HQ1:=Lib.hid hq1
   clear hcc hq1 hq2 hq3 hm
   go_wp2
   go_roundw
   case rel=>exact⟨j+1,q+m,by omega,by go_num,by go_num,Lib.hid HQ1.out.symm,trivial⟩
   case measure=>simp[intOf];omega
  ·obtain rfl:j=k:=by omega
   have hlti:¬(j:Int)<(j:Int):=by omega
   have hqN:q=N:=by rw[HQ.out,HN.out]
   subst hqN
   go_wp2_with fail
   refine(growu_any _ q (by omega)).mono ?_
   rintro e w1 ⟨A1,c1,rfl,ho1,hb1⟩
   have HO1:=Lib.hid ho1;have HB1:=Lib.hid hb1
   clear ho1 hb1
   go_wp2_with fail
   go_loopw [6,27] (fun s i wr=>∃(t p:Nat) (At:Option Addr) (ct:Nat),t≤j∧i=.int .i64 (t:Int)∧s=.slice At p ct∧Hid (p=sumU n t)∧Hid (wr.ownsRow w.heap.size 5 1 (.slice At p ct) p (bytesL p (catU n f t)))∧Hid (Below w.heap.size w wr)) (fun _ i _=>j-(intOf i).toNat)
   case atStart=>exact⟨0,0,A1,c1,Nat.zero_le _,rfl,rfl,Lib.hid rfl,HO1,HB1⟩
   case round=>
    obtain⟨t,p,At,ct,ht,rfl,rfl,HP,HO,HB⟩:=hrel
    by_cases hlt2:t<j
    ·have hlti2:(t:Int)<(j:Int):=by omega
     obtain⟨b,o,rfl,hb,hcc⟩:=(HR.out.below HB.out (Nat.le_refl _)) (by omega)
     obtain⟨Ai,ci,k1,k2,k3⟩:=hcc t hlt2
     have hq1:sumU n (t+1)=p+n t:=by rw[HP.out];rfl
     have hq2:=sumU_mono n (show t+1≤j by omega)
     have hq3:=HS.out
     obtain⟨A',c',w',r1,r2,r3⟩:=run_more wr w.heap.size _ (.slice At p ct) p _ HO.out Ai (n t) ci (f t) k2 (by omega) 22 k3 HB.out.size
     obtain⟨m,hm⟩:∃m,m=n t:=⟨_,rfl⟩
     rw[←hm]at k1 r1 r2 hq1
     have e1:cat (catU n f t) p (f t)=catU n f (t+1):=by funext x;rw[HP.out];rfl
     rw[e1]at r2
     have HQ1:=Lib.hid hq1;have R1:=Lib.hid r1;have R2:=Lib.hid r2;have R3:=Lib.hid (HB.out.trans r3)
     clear hcc hq1 hq2 hq3 r1 r2 r3 k2 k3 hm e1
     go_wp2_with (at_builtin;refine wpList_append_run rfl (.tmp 31) (.tmp 32) 22 rfl (.slice At p ct) (.slice Ai m ci) (.slice A' (p+m) c') w' rfl rfl R1.out ?_)
     go_roundw
     case rel=>exact⟨t+1,p+m,A',c',by omega,by go_num,rfl,Lib.hid HQ1.out.symm,R2,R3⟩
     case measure=>simp[intOf];omega
    ·obtain rfl:t=j:=by omega
     have hlti2:¬(t:Int)<(t:Int):=by omega
     have hpq:p=q:=by rw[HP.out,HN.out]
     subst hpq
     go_wp2
     go_ret
     exact⟨At,ct,rfl,HO.out,HB.out⟩
end Go.Proofs.YtcmpmighjglnpaaGreat
namespace Go.Proofs.YtcmpmighjglnpaaGreat
open Go.RowKit Go.ChangeShapes Go.WideShapes Go.ChangeAt Go.Joins
theorem own_keep{w w':World}{base sz n:Nat}{e:TypeId}{v:Value}{xs:List Value}(h:w.ownsRow base e sz v n xs)(hb:Below w.heap.size w w'):w'.ownsRow base e sz v n xs:=by
 obtain⟨h1,h2⟩:=h
 refine⟨h1,?_⟩
 rcases h2 with h2|⟨g,cap,cur,hv,hg,hh,r⟩
 ·exact .inl h2
 ·exact .inr ⟨g,cap,cur,hv,hg,(hb.block g (Array.getElem?_eq_some_iff.1 hh).1).trans hh,r⟩
def lst(L:List Nat)(j:Nat):Nat:=L.getD j 0
theorem lst_lt{L:List Nat}(h:∀x∈L,x<256)(j:Nat):lst L j<256:=by
 unfold lst
 rcases Nat.lt_or_ge j L.length with g|g
 ·rw[List.getD_eq_getElem?_getD,List.getElem?_eq_getElem g];exact h _ (List.getElem_mem g)
 ·rw[List.getD_eq_getElem?_getD,List.getElem?_eq_none g];show 0<256;omega
theorem lst_one(L:List Nat)(x:Nat):bytesL L.length (lst L)=bytesL L.length (lst (L++[x]))∧lst (L++[x]) L.length=x:=by
 refine⟨bytesL_ext fun j hj=>?_,?_⟩
 ·unfold lst;rw[List.getD_eq_getElem?_getD,List.getD_eq_getElem?_getD,List.getElem?_append_left hj]
 ·unfold lst;simp
def NewB(w:World)(base:Nat)(A:Option Addr)(n:Nat):Prop:=0<n→∃(g o:Nat) (cur:Array Value),A=some ⟨g,o,none⟩∧base≤g∧w.heap[g]?=some (.cells cur 5 (0,0))
theorem NewB.nil(w:World)(base:Nat)(A:Option Addr):NewB w base A 0:=fun h=>absurd h (by omega)
theorem NewB.of_own{w:World}{base q c n:Nat}{ad:Addr}{A3:Option Addr}{xs:List Value}(h:w.ownsRow base 5 1 (.slice (some ad) q c) q xs)(hqc:q≤c)(hnq:n≤q)(hA:(if c=n then(some ad:Option Addr)else some (ad.add n))=A3):NewB w base A3 (q-n):=fun h0=>by
 rcases h.2 with⟨hv,_⟩|⟨g,cap,cur,hv,hg,hh,_⟩
 ·injection hv with h1;cases h1
 ·injection hv with h1 h2 h3
  injection h1 with h1
  subst h1
  rw[if_neg (by omega)]at hA
  have e:(⟨g,0,none⟩:Addr).add n=⟨g,0+n,none⟩:=by unfold Addr.add;split<;>simp_all
  rw[e]at hA
  exact⟨g,0+n,cur,hA.symm,hg,hh⟩
theorem NewB.below{w w':World}{base B n:Nat}{A:Option Addr}(h:NewB w base A n)(hb:Below B w w')(hB:w.heap.size≤B):NewB w' base A n:=fun h0=>by
 obtain⟨g,o,cur,h1,h2,h3⟩:=h h0
 exact⟨g,o,cur,h1,h2,(hb.block g (by have:=(Array.getElem?_eq_some_iff.1 h3).1;omega)).trans h3⟩
end Go.Proofs.YtcmpmighjglnpaaGreat
namespace Go.Proofs.YtcmpmighjglnpaaGreat
structure Tok where
 x:Nat
 d:Int
 n:Int
def mayT(t:Tok):Bool:=decide ((t.n=0∧t.d=0)∨(t.n≠0∧t.x=0∧3≤t.n∧t.n≤258∧1≤t.d∧t.d≤32768))
def copL(all:List Nat)(d n:Nat):List Nat:=(List.range n).map fun i=>all.getD (all.length-d+i%d) 0
def stpT(all:List Nat)(t:Tok):List Nat:=if t.n=0 then all++[t.x]else all++copL all t.d.toNat t.n.toNat
def lenT(t:Tok):Nat:=if t.n=0 then 1 else t.n.toNat
def plyR(A:Nat):List Tok→List Nat→Int×List Nat
 |[],all=>(0,all.drop A)
 |t::l,all=>if mayT t=false then(8,[])else if(all.length:Int)<t.d then(60,[])else if 131072<all.length-A+lenT t then(4,[])else plyR A l (stpT all t)
theorem len_stp(all:List Nat)(t:Tok):(stpT all t).length=all.length+lenT t:=by
 unfold stpT lenT copL
 split<;>simp
def preL(f:Nat→Nat)(a:Nat):List Nat:=(List.range a).map f
theorem preL_length(f:Nat→Nat)(a:Nat):(preL f a).length=a:=by simp[preL]
theorem preL_get(f:Nat→Nat){a i:Nat}(h:i<a):(preL f a).getD i 0=f i:=by simp[preL,h]
theorem lenT_le{t:Tok}(h:mayT t=true):lenT t≤258:=by
 have:=of_decide_eq_true h
 unfold lenT
 split<;>omega
end Go.Proofs.YtcmpmighjglnpaaGreat
namespace Go.Proofs.YtcmpmighjglnpaaGreat
open Go.RowKit Go.ChangeShapes Go.WideShapes Go.ChangeAt
def SrcL(w:World)(B sz:Nat)(A:Option Addr)(m:Nat)(ys:List Value):Prop:=
 ys.length=m*sz∧(0<m→∃b o,A=some ⟨b,o,none⟩∧b<B∧∀j u,ys[j]?=some u→w.cell? ⟨b,o+j,none⟩=some u)
theorem SrcL.none_(w:World)(B sz:Nat)(A:Option Addr):SrcL w B sz A 0 []:=⟨by simp,fun h=>absurd h (by omega)⟩
theorem SrcL.below{w w':World}{B B' sz m:Nat}{A:Option Addr}{ys:List Value}(h:SrcL w B sz A m ys)(hb:Below B' w w')(hB:B≤B'):SrcL w' B sz A m ys:=by
 refine⟨h.1,fun hn=>?_⟩
 obtain⟨b,o,rfl,hlt,hc⟩:=h.2 hn
 exact⟨b,o,rfl,hlt,fun j u hu=>by rw[hb.cell (p:=⟨b,o+j,none⟩) (by show b<B';omega)];exact hc j u hu⟩
theorem SrcL.more{w:World}{B B' sz m:Nat}{A:Option Addr}{ys:List Value}(h:SrcL w B sz A m ys)(hB:B≤B'):SrcL w B' sz A m ys:=by
 refine⟨h.1,fun hn=>?_⟩
 obtain⟨b,o,rfl,hlt,hc⟩:=h.2 hn
 exact⟨b,o,rfl,by omega,hc⟩
theorem SrcL.new(w:World)(sz m:Nat)(cs:Array Value)(t:TypeId)(h:cs.size=m*sz):SrcL (w.alloc (.cells cs t)) (w.alloc (.cells cs t)).heap.size sz (some ⟨w.heap.size,0,none⟩) m cs.toList:=
 ⟨by simpa using h,fun _=>⟨w.heap.size,0,rfl,by simp,fun j u hu=>by rw[Nat.zero_add,cell_of_row _ _ j cs t (0,0) (heap_alloc_new w _)];simpa using hu⟩⟩
theorem SrcL.of_own{w:World}{base sz n c:Nat}{e:TypeId}{A:Option Addr}{xs:List Value}(h:w.ownsRow base e sz (.slice A n c) n xs):SrcL w w.heap.size sz A n xs:=by
 refine⟨h.1,fun hn=>?_⟩
 obtain⟨g,cap,hv,_,hlt⟩:=h.form hn
 injection hv with hA _ _
 subst hA
 refine⟨g,0,rfl,hlt,fun j u hu=>?_⟩
 have:=h.cells (g:=g) rfl j u hu
 have e:(⟨g,0,none⟩:Addr).add j=⟨g,0+j,none⟩:=by unfold Addr.add;split<;>simp_all
 rw[e]at this
 exact this
theorem own_geS{w:World}{base sz n:Nat}{e:TypeId}{v:Value}{xs:List Value}(h:w.ownsRow base e sz v n xs):∀k,v.ownBlock=some k→base≤k:=by
 intro k hk
 rcases h.2 with⟨rfl,_⟩|⟨g,cap,cur,rfl,hg,_⟩
 ·simp[Value.ownBlock]at hk
 ·simp[Value.ownBlock]at hk;omega
theorem run_app{T E:TypeId}{z:Value}{sz by_:Nat}(hT:Tryz.prog.underlying T=some (.slice E))(hI:(Tryz.prog.info? E).map (fun i=>(i.zero,i.size,i.bytes))=some (some z,sz,by_))(hz:z.cells.size=sz)(hsz:0<sz)
  (w:World) (base B:Nat) (v0:Value) (n:Nat) (xs:List Value) (hown:w.ownsRow base E sz v0 n xs) (A:Option Addr) (m c:Nat) (ys:List Value) (hr:SrcL w B sz A m ys) (h1:∀u∈ys,u.oneCell'=true)
  (hnm:n+m≤maxLen) (hby:(n+m)*by_≤140737488355328) (ty:TypeId) (hA:A=none→c=0) (hbase:base≤w.heap.size):
  ∃A' c' w',(Builtin.append_ #[T,T] ty #[v0,.slice A m c]).run Tryz.prog w=.ok (.slice A' (n+m) c') w'∧w'.ownsRow base E sz (.slice A' (n+m) c') (n+m) (xs++ys)∧Below base w w':=by
 obtain⟨i0,hi,hz0,hz1,hz2⟩:=info_parts hI
 have key:∃v' w',(Builtin.append_ #[T,T] ty #[v0,.slice A m c]).run Tryz.prog w=.ok v' w'∧w'.ownsRow base E sz v' (n+m) (xs++ys)∧w.grownBy w' v0.ownBlock:=by
  rcases A with _|ad
  ·have h0:m=0:=by
    rcases Nat.eq_zero_or_pos m with h|h
    ·exact h
    ·obtain⟨b,o,h,_⟩:=hr.2 h;cases h
   subst h0
   obtain rfl:=hA rfl
   have hy:ys=[]:=List.length_eq_zero_iff.1 (by have:=hr.1;omega)
   subst hy
   refine⟨v0,w,run_append_owned_none (P:=Tryz.prog) (w:=w) base T ty E i0 sz hT hi v0 n _ hown,?_,World.grownBy.refl _ _⟩
   simpa using hown
  ·have hcells:∀j u,ys[j]?=some u→w.cell? (ad.add j)=some u:=by
    intro j u hu
    have hm:0<m:=by
     rcases Nat.eq_zero_or_pos m with h|h
     ·have hy:ys=[]:=List.length_eq_zero_iff.1 (by have:=hr.1;rw[h]at this;omega)
      rw[hy]at hu;cases hu
     ·exact h
    obtain⟨b,o,h,_,hc⟩:=hr.2 hm
    injection h with h
    subst h
    have e:(⟨b,o,none⟩:Addr).add j=⟨b,o+j,none⟩:=by unfold Addr.add;split<;>simp_all
    rw[e];exact hc j u hu
   obtain⟨v',w',h1,h2,h3,_,_⟩:=run_append_own_at (P:=Tryz.prog) w base T ty E i0 z sz by_ hT hi hz0 hz1 hz2 hz hsz v0 n xs hown ad m c ys hr.1 hcells h1 hnm hby hbase
   exact⟨v',w',h1,h2,h3⟩
 obtain⟨v',w',h1,h2,h3⟩:=key
 have hv:∃A' c',v'=.slice A' (n+m) c':=by
  rcases h2.2 with⟨rfl,h⟩|⟨g,cap,cur,rfl,_⟩
  ·exact⟨none,0,by rw[h]⟩
  ·exact⟨_,_,rfl⟩
 obtain⟨A',c',rfl⟩:=hv
 exact⟨A',c',w',h1,h2,(Below.refl base w).grown h3 hbase (own_geS hown)⟩
def intsL(l:List Int):List Value:=l.map (Value.int .i64)
theorem intsL_get(l:List Int)(j:Nat):(intsL l)[j]?=(l[j]?).map (Value.int .i64):=by unfold intsL;simp
theorem intsL_one(l:List Int):∀u∈intsL l,u.oneCell'=true:=by
 intro u hu
 simp only[intsL,List.mem_map]at hu
 obtain⟨j,_,rfl⟩:=hu
 rfl
theorem infoInt:(Tryz.prog.info? 3).map (fun i=>(i.zero,i.size,i.bytes))=some (some (.int .i64 0),1,8):=by kernel_rfl
def RdI(w:World)(B:Nat)(A:Option Addr)(l:List Int):Prop:=SrcL w B 1 A l.length (intsL l)
theorem RdI.below{w w':World}{B B':Nat}{A:Option Addr}{l:List Int}(h:RdI w B A l)(hb:Below B' w w')(hB:B≤B'):RdI w' B A l:=SrcL.below h hb hB
theorem RdI.more{w:World}{B B':Nat}{A:Option Addr}{l:List Int}(h:RdI w B A l)(hB:B≤B'):RdI w B' A l:=SrcL.more h hB
theorem RdI.at{w:World}{B:Nat}{A:Option Addr}{l:List Int}(h:RdI w B A l){k:Nat}(hk:k<l.length):∃b o,A=some ⟨b,o,none⟩∧b<B∧∀j,j<l.length→w.cell? ⟨b,o+j,none⟩=some (.int .i64 (l.getD j 0)):=by
 obtain⟨b,o,rfl,hb,hc⟩:=h.2 (by omega)
 refine⟨b,o,rfl,hb,fun j hj=>hc j _ ?_⟩
 rw[intsL_get,List.getElem?_eq_getElem hj,List.getD_eq_getElem?_getD,List.getElem?_eq_getElem hj]
 rfl
theorem RdI.of_own{w:World}{base c n:Nat}{A:Option Addr}{l:List Int}(h:w.ownsRow base 3 1 (.slice A n c) n (intsL l)):n=l.length∧RdI w w.heap.size A l:=by
 have hl:(intsL l).length=n*1:=h.1
 have e:n=l.length:=by simp[intsL]at hl;omega
 subst e
 exact⟨rfl,SrcL.of_own h⟩
def natsI(l:List Nat):List Int:=l.map fun(x:Nat)=>(x:Int)
theorem natsI_length(l:List Nat):(natsI l).length=l.length:=by simp[natsI]
theorem natsI_get(l:List Nat)(j:Nat):(natsI l).getD j 0=((l.getD j 0:Nat):Int):=by
 unfold natsI
 rw[List.getD_eq_getElem?_getD,List.getD_eq_getElem?_getD,List.getElem?_map]
 cases l[j]?<;>rfl
theorem own_cap{w:World}{base n c:Nat}{e:TypeId}{A:Option Addr}{xs:List Value}(h:w.ownsRow base e 1 (.slice A n c) n xs):n≤c∧c≤maxLen∧(A=none→n=0∧c=0):=by
 rcases h.2 with⟨hv,h0⟩|⟨g,cap,cur,hv,_,_,h1,h2,_⟩
 ·injection hv with h3 h4 h5
  exact⟨by omega,by unfold maxLen;omega,fun _=>⟨by omega,h5⟩⟩
 ·injection hv with h3 h4 h5
  exact⟨by omega,by omega,fun h=>by rw[h]at h3;cases h3⟩
theorem rdI_new(w:World)(l:List Int)(cs:Array Value)(h:cs.toList=intsL l):RdI (w.alloc (.cells cs 3)) (w.alloc (.cells cs 3)).heap.size (some ⟨w.heap.size,0,none⟩) l:=by
 have h1:=SrcL.new w 1 l.length cs 3 (by rw[←Array.length_toList,h];simp[intsL])
 rw[h]at h1
 exact h1
theorem ownsRow_same{w w':World}{base:Nat}{e:TypeId}{size:Nat}{v:Value}{n:Nat}{xs:List Value}(h:w.ownsRow base e size v n xs)(hh:∀g,base≤g→w'.heap[g]?=w.heap[g]?):w'.ownsRow base e size v n xs:=by
 obtain⟨h1,h2⟩:=h
 refine⟨h1,?_⟩
 rcases h2 with h2|⟨g,cap,cur,hv,hg,hb,r⟩
 ·exact .inl h2
 ·exact .inr ⟨g,cap,cur,hv,hg,(hh g hg).trans hb,r⟩
theorem ownsRow_lower{w:World}{base base':Nat}{e:TypeId}{size:Nat}{v:Value}{n:Nat}{xs:List Value}(h:w.ownsRow base e size v n xs)(hb:base'≤base):w.ownsRow base' e size v n xs:=by
 obtain⟨h1,h2⟩:=h
 refine⟨h1,?_⟩
 rcases h2 with h2|⟨g,cap,cur,hv,hg,r⟩
 ·exact .inl h2
 ·exact .inr ⟨g,cap,cur,hv,by omega,r⟩
end Go.Proofs.YtcmpmighjglnpaaGreat
namespace Go.Proofs.YtcmpmighjglnpaaGreat
open Go.RowKit Go.ChangeShapes Go.WideShapes Go.ChangeAt Go.Joins
def tok0:Tok:=⟨0,0,0⟩
def tokC(t:Tok):List Value:=[.int .u8 (t.x:Int),.int .i64 t.d,.int .i64 t.n]
def toksL:List Tok→List Value
 |[]=>[]
 |t::l=>tokC t++toksL l
theorem toksL_length:∀l,(toksL l).length=l.length*3
 |[]=>rfl
 |t::l=>by simp only[toksL,List.length_append,List.length_cons,toksL_length l];simp[tokC];omega
theorem toksL_app:∀l m,toksL (l++m)=toksL l++toksL m
 |[],_=>rfl
 |t::l,m=>by simp[toksL,toksL_app l m]
theorem toksL_get:∀(l:List Tok) (j i:Nat),j<l.length→i<3→(toksL l)[j*3+i]?=(tokC (l.getD j tok0))[i]?
 |[],j,i,h,_=>absurd h (by simp)
 |t::l,0,i,_,hi=>by
  simp only[toksL,Nat.zero_mul,Nat.zero_add]
  rw[List.getElem?_append_left (by simpa[tokC]using hi)]
  rfl
 |t::l,j+1,i,h,hi=>by
  simp only[toksL]
  rw[List.getElem?_append_right (by simp[tokC];omega)]
  have e:(j+1)*3+i-(tokC t).length=j*3+i:=by simp[tokC];omega
  rw[e,toksL_get l j i (by simpa using h) hi]
  rfl
theorem infoTok:(Tryz.prog.info? 82).map (fun i=>(i.zero,i.size,i.bytes))=some (some (.agg #[.int .u8 0,.int .i64 0,.int .i64 0]),3,24):=by kernel_rfl
theorem szTok:(Tryz.prog.info? 82).map (·.size)=some 3:=by kernel_rfl
def RdT(w:World)(B:Nat)(A:Option Addr)(l:List Tok):Prop:=SrcL w B 3 A l.length (toksL l)
theorem RdT.below{w w':World}{B B':Nat}{A:Option Addr}{l:List Tok}(h:RdT w B A l)(hb:Below B' w w')(hB:B≤B'):RdT w' B A l:=SrcL.below h hb hB
theorem RdT.nil(w:World)(B:Nat)(A:Option Addr):RdT w B A []:=SrcL.none_ w B 3 A
theorem RdT.of_own{w:World}{base c n:Nat}{A:Option Addr}{l:List Tok}(h:w.ownsRow base 82 3 (.slice A n c) n (toksL l)):n=l.length∧RdT w w.heap.size A l:=by
 have h1:=SrcL.of_own h
 have h2:=h1.1
 rw[toksL_length]at h2
 obtain rfl:n=l.length:=by omega
 exact⟨rfl,h1⟩
theorem RdT.at{w:World}{B:Nat}{A:Option Addr}{l:List Tok}(h:RdT w B A l){k:Nat}(hk:k<l.length):∃b o,A=some ⟨b,o,none⟩∧b<B∧∀j,j<l.length→
  w.cell? ⟨b,o+j*3,none⟩=some (.int .u8 ((l.getD j tok0).x:Int))∧w.cell? ⟨b,o+j*3+1,none⟩=some (.int .i64 (l.getD j tok0).d)∧w.cell? ⟨b,o+j*3+2,none⟩=some (.int .i64 (l.getD j tok0).n):=by
 obtain⟨b,o,h1,h2,h3⟩:=h.2 (by omega)
 refine⟨b,o,h1,h2,fun j hj=>⟨?_,?_,?_⟩⟩
 ·have:=h3 (j*3+0) _ ((toksL_get l j 0 hj (by omega)).trans rfl)
  simpa using this
 ·have:=h3 (j*3+1) _ ((toksL_get l j 1 hj (by omega)).trans rfl)
  rw[show o+j*3+1=o+(j*3+1) by omega];exact this
 ·have:=h3 (j*3+2) _ ((toksL_get l j 2 hj (by omega)).trans rfl)
  rw[show o+j*3+2=o+(j*3+2) by omega];exact this
theorem RdT.range{w:World}{B:Nat}{A:Option Addr}{l:List Tok}(h:RdT w B A l){b o:Nat}(hA:A=some ⟨b,o,none⟩){j:Nat}(hj:j<l.length):w.rangeAt b (o+j*3) (tokC (l.getD j tok0)):=by
 obtain⟨b',o',h1,_,h3⟩:=h.at hj
 rw[hA]at h1
 injection h1 with h1
 injection h1 with hb ho _
 subst hb;subst ho
 obtain⟨c0,c1,c2⟩:=h3 j hj
 intro i v hv
 rcases i with _|_|_|i
 ·simp[tokC]at hv;subst hv;exact c0
 ·simp[tokC]at hv;subst hv;exact c1
 ·simp[tokC]at hv;subst hv;exact c2
 ·simp[tokC]at hv
end Go.Proofs.YtcmpmighjglnpaaGreat
namespace Go.Proofs.YtcmpmighjglnpaaGreat
open Go.RowKit
structure After (n:Nat) (U:World) where
 w:World
 h:Below n U w
instance After.some(n:Nat)(U:World):Inhabited (After n U):=⟨⟨U,Below.refl n U⟩⟩
theorem wp_region_after{P:Program}{id:Nat}{Q:Exit→Act→World→Prop}{a:Act}{w:World}{l:List Oper}(n:Nat)(U:World)(hU:Below n U w)(hm:P.follows .mixedOrders=true)(hB:Region.lexB .any l.toArray=true)
  (h:wpQuiet P l.toArray (fun V=>∃p:After n U,V=p.w) (fun a'=>∀V,(∃p:After n U,V=p.w)→Q .normal a' V) l a):(Code.region id l.toArray true).wp P Q a w:=
 wp_region_quiet (C:=fun V=>∃p:After n U,V=p.w) hm hB ⟨⟨_,hU.drew⟩,rfl⟩ (by simpa using h)
theorem call_after{P:Program}{f:FuncId}{args:Array Value}{n:Nat}{U:World}{v:Value}(h:∀V,Below n U V→Calls P f args V fun e V'=>e=.returned v∧Below n U V')(p:After n U):
  Calls P f args p.w fun e w''=>e=.returned v∧∃q:After n U,w''=q.w:=
 (h p.w p.h).mono fun _ _ ⟨he,hb⟩=>⟨he,⟨_,hb⟩,rfl⟩
theorem quiet_load_row{P:Program}{C:World→Prop}{K:Act→Prop}{a:Act}{o:Oper}(ty:TypeId)(x:Operand)(ho:o.op=.load ty x)(b k:Nat)(hx:a.eval x=.pointer (some ⟨b,k,none⟩))(cs:List Value)(d:TypeDesc)
  (hS:∀V,C V→V.rangeAt b k cs) (hu:P.underlying ty=some d) (hd:d.isRow=true) (hi:(P.info? ty).map (·.size)=some cs.length) (hk:K (a.put o.dst (.agg cs.toArray))):o.quiet P a C K:=
 ⟨_,fun w hw=>by
  unfold Oper.quietAt execOp
  simp only[ho,hx,Instr.loadAt,Instr.sureAddr,Sem.run_bind,Sem.run_pure,Result.andThen_ok,run_loadVar_mid w b k ty cs d (hS w hw) hu hd hi]
  exact⟨rfl,rfl⟩,hk⟩
end Go.Proofs.YtcmpmighjglnpaaGreat
namespace Go.Proofs.YtcmpmighjglnpaaGreat
open Go.RowKit
def mayS(s h m:Int):Bool:=decide (1≤s∧s≤32768∧0≤h∧h≤256∧1≤m∧m≤65535)
end Go.Proofs.YtcmpmighjglnpaaGreat
