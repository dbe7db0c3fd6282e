/-
  Words and walks.
-/
import Derived.Test.YtgokdgcmkcmjeaaGreatRows
import Derived.WalkKit
import Derived.ProofKit
import Derived.Lib.Hide
import Derived.Handy
import Derived.OpenShut
import Derived.ShutString
import Derived.ChangeOld
import Derived.Maps.AppendAt
import Derived.Laws.BytesArg
import Derived.Laws.Rows
import Derived.Deep.AppendLies
import Derived.Deep.QuietTactic
import Derived.BigQuiet
import Derived.Deep.RegionLaw
import Derived.Lib.AppendZeros
import Derived.BigRegion
import Derived.OneCell
set_option maxRecDepth 100000
set_option maxHeartbeats 16000000
namespace Go.Proofs.YtgokdgcmkcmjeaaGreat
open Go.RowKit Go.ChangeShapes Go.WideShapes Go.ChangeAt
open Go.ChangeMaps (open_string shut_string)
theorem own:ownKnob Tryz.prog.godebug=none:=by kernel_rfl
theorem laidOut:laidOutB Tryz.prog=true:=by kernel_rfl
theorem ofInt_nat(W a:Nat)(ha:a<2^W):(BitVec.ofInt W (a:Int)).toNat=a:=by
 rw[BitVec.ofInt_natCast,BitVec.toNat_ofNat];exact Nat.mod_eq_of_lt ha
theorem u32_and(a b:Nat)(ha:a<4294967296)(hb:b<4294967296):bits .and .u32 (a:Int) (b:Int)=((a&&&b:Nat):Int):=by
 have hx:a&&&b<2^32:=Nat.and_lt_two_pow _ (by omega)
 show IntKind.u32.wrap ((BitVec.ofInt 32 (a:Int)&&&BitVec.ofInt 32 (b:Int)).toNat:Int)=_
 rw[BitVec.toNat_and,ofInt_nat 32 a (by omega),ofInt_nat 32 b (by omega),IntKind.wrap_u32]
 omega
theorem u32_or(a b:Nat)(ha:a<4294967296)(hb:b<4294967296):bits .or .u32 (a:Int) (b:Int)=((a|||b:Nat):Int):=by
 have hx:a|||b<2^32:=Nat.or_lt_two_pow (by omega) (by omega)
 show IntKind.u32.wrap ((BitVec.ofInt 32 (a:Int)|||BitVec.ofInt 32 (b:Int)).toNat:Int)=_
 rw[BitVec.toNat_or,ofInt_nat 32 a (by omega),ofInt_nat 32 b (by omega),IntKind.wrap_u32]
 omega
theorem u64_and(a b:Nat)(ha:a<18446744073709551616)(hb:b<18446744073709551616):bits .and .u64 (a:Int) (b:Int)=((a&&&b:Nat):Int):=by
 have hx:a&&&b<2^64:=Nat.and_lt_two_pow _ (by omega)
 show IntKind.u64.wrap ((BitVec.ofInt 64 (a:Int)&&&BitVec.ofInt 64 (b:Int)).toNat:Int)=_
 rw[BitVec.toNat_and,ofInt_nat 64 a (by omega),ofInt_nat 64 b (by omega),IntKind.wrap_u64]
 omega
theorem u32_and_one(a:Nat)(ha:a<4294967296):bits .and .u32 (a:Int) 1=((a%2:Nat):Int):=by
 have:=u32_and a 1 ha (by omega)
 rw[Nat.and_one_is_mod]at this
 exact this
theorem or_add(a b i:Nat)(hb:b<2^i)(ha:2^i∣a):a|||b=a+b:=by
 obtain⟨c,rfl⟩:=ha
 exact(Nat.two_pow_add_eq_or_of_lt hb c).symm
theorem u32_or_add(a b i:Nat)(ha:a<4294967296)(h:b<4294967296)(hb:b<2^i)(hd:2^i∣a):bits .or .u32 (a:Int) (b:Int)=((a+b:Nat):Int):=by
 rw[u32_or a b ha h,or_add a b i hb hd]
theorem u32_or_add'(a b i:Nat)(ha:a<4294967296)(h:b<4294967296)(hb:a<2^i)(hd:2^i∣b):bits .or .u32 (a:Int) (b:Int)=((a+b:Nat):Int):=by
 rw[u32_or a b ha h,Nat.or_comm,or_add b a i hb hd,Nat.add_comm]
theorem pow_le_32{k:Nat}(h:k≤32):2^k≤4294967296:=by
 have:=Nat.pow_le_pow_right (n:=2) (by omega) h;simpa using this
theorem lt_32{x k:Nat}(hx:x<2^k)(h:k≤32):x<4294967296:=Nat.lt_of_lt_of_le hx (pow_le_32 h)
theorem cast_shr(v k:Nat):((v:Int)/2^k)=((v/2^k:Nat):Int):=by
 rw[Int.natCast_ediv,Int.natCast_pow];rfl
theorem cast_shl(v k:Nat):((v:Int)*2^k)=((v*2^k:Nat):Int):=by
 rw[Int.natCast_mul,Int.natCast_pow];rfl
theorem bit_cast(v k:Nat)(hv:v<4294967296):bits .and .u32 ((v:Int)/2^k) 1=((v/2^k%2:Nat):Int):=by
 rw[cast_shr,u32_and_one]
 exact Nat.lt_of_le_of_lt (Nat.div_le_self _ _) hv
theorem emod_u32(x:Nat)(h:x<4294967296):(x:Int)%4294967296=(x:Int):=by omega
theorem ret_bool{a b:Bool}(h:a=b):Ending.returned (.bool a)=.returned (.bool b):=by rw[h]
theorem ret_int{k:IntKind}{a b:Int}(h:a=b):Ending.returned (.int k a)=.returned (.int k b):=by rw[h]
theorem val_int{k:IntKind}{a b:Int}(h:a=b):Value.int k a=.int k b:=by rw[h]
theorem ret_two{k l:IntKind}{a b c d:Int}(h:a=b)(g:c=d):Ending.returned (.tuple #[.int k a,.int l c])=.returned (.tuple #[.int k b,.int l d]):=by rw[h,g]
def RdB(w:World)(B:Nat)(A:Option Addr)(n:Nat)(f:Nat→Nat):Prop:=
 (∀j,f j<256)∧(0<n→∃b o,A=some ⟨b,o,none⟩∧b<B∧∀j,j<n→w.cell? ⟨b,o+j,none⟩=some (.int .u8 (f j:Int)))
theorem RdB.below{w w':World}{B B' n:Nat}{A:Option Addr}{f:Nat→Nat}(h:RdB w B A n f)(hb:Below B' w w')(hB:B≤B'):RdB w' B A n f:=by
 refine⟨h.1,fun hn=>?_⟩
 obtain⟨b,o,rfl,hlt,hc⟩:=h.2 hn
 exact⟨b,o,rfl,hlt,fun j hj=>by rw[hb.cell (p:=⟨b,o+j,none⟩) (by show b<B';omega)];exact hc j hj⟩
theorem RdB.more{w:World}{B B' n:Nat}{A:Option Addr}{f:Nat→Nat}(h:RdB w B A n f)(hB:B≤B'):RdB w B' A n f:=by
 refine⟨h.1,fun hn=>?_⟩
 obtain⟨b,o,rfl,hlt,hc⟩:=h.2 hn
 exact⟨b,o,rfl,by omega,hc⟩
def bytesL(n:Nat)(f:Nat→Nat):List Value:=(List.range n).map fun j=>.int .u8 (f j:Int)
theorem bytesL_get(n:Nat)(f:Nat→Nat)(j:Nat):(bytesL n f)[j]?=if j<n then some (.int .u8 (f j:Int))else none:=by
 unfold bytesL
 by_cases h:j<n<;>simp[h]
theorem bytesL_one(n:Nat)(f:Nat→Nat):∀u∈bytesL n f,u.oneCell'=true:=by
 intro u hu
 simp only[bytesL,List.mem_map]at hu
 obtain⟨j,_,rfl⟩:=hu
 rfl
theorem RdB.of_own{w:World}{base n c:Nat}{A:Option Addr}{e:TypeId}{f:Nat→Nat}(h:w.ownsRow base e 1 (.slice A n c) n (bytesL n f))(hf:∀j,f j<256):RdB w w.heap.size A n f:=by
 refine⟨hf,fun hn=>?_⟩
 obtain⟨g,cap,hv,_,hlt⟩:=h.form hn
 injection hv with hA _ _
 subst hA
 refine⟨g,0,rfl,hlt,fun j hj=>?_⟩
 have:=h.cells (g:=g) rfl j (.int .u8 (f j:Int)) (by rw[bytesL_get,if_pos hj])
 have e:(⟨g,0,none⟩:Addr).add j=⟨g,0+j,none⟩:=by unfold Addr.add;split<;>simp_all
 rw[e]at this
 exact this
theorem infoU8:(Tryz.prog.info? 5).map (fun i=>(i.zero,i.size,i.bytes))=some (some (.int .u8 0),1,1):=by kernel_rfl
def cat(f:Nat→Nat)(n:Nat)(g:Nat→Nat)(j:Nat):Nat:=if j<n then f j else g (j-n)
theorem cat_lt{f g:Nat→Nat}{n:Nat}(hf:∀j,f j<256)(hg:∀j,g j<256)(j:Nat):cat f n g j<256:=by
 unfold cat;split
 ·exact hf _
 ·exact hg _
theorem bytesL_cat(f g:Nat→Nat)(n m:Nat):bytesL n f++bytesL m g=bytesL (n+m) (cat f n g):=by
 apply List.ext_getElem?
 intro j
 rw[List.getElem?_append]
 have hl:(bytesL n f).length=n:=by simp[bytesL]
 rw[hl,bytesL_get,bytesL_get,bytesL_get]
 unfold cat
 by_cases h1:j<n
 ·rw[if_pos h1,if_pos h1,if_pos (by omega),if_pos h1]
 ·rw[if_neg h1,if_neg h1]
  by_cases h2:j-n<m
  ·rw[if_pos h2,if_pos (by omega)]
  ·rw[if_neg h2,if_neg (by omega)]
theorem own_ge{w:World}{base n:Nat}{e:TypeId}{v:Value}{xs:List Value}(h:w.ownsRow base e 1 v n xs):∀k,v.ownBlock=some k→base≤k:=by
 intro k hk
 rcases h.2 with⟨rfl,_⟩|⟨g,cap,cur,rfl,hg,_⟩
 ·simp[Value.ownBlock]at hk
 ·simp[Value.ownBlock]at hk;omega
theorem run_more(w:World)(base B:Nat)(v0:Value)(n:Nat)(f:Nat→Nat)(hown:w.ownsRow base 5 1 v0 n (bytesL n f))(A:Option Addr)(m c:Nat)(g:Nat→Nat)(hr:RdB w B A m g)(hnm:n+m≤1000000000000)(ty:TypeId)
  (hA:A=none→c=0) (hbase:base≤w.heap.size):
  ∃A' c' w',(Builtin.append_ #[22,22] ty #[v0,.slice A m c]).run Tryz.prog w=.ok (.slice A' (n+m) c') w'∧
   w'.ownsRow base 5 1 (.slice A' (n+m) c') (n+m) (bytesL (n+m) (cat f n g))∧Below base w w':=by
 obtain⟨i0,hi,hz0,hz1,hz2⟩:=info_parts infoU8
 have key:∃v' w',(Builtin.append_ #[22,22] ty #[v0,.slice A m c]).run Tryz.prog w=.ok v' w'∧
   w'.ownsRow base 5 1 v' (n+m) (bytesL (n+m) (cat f n g))∧w.grownBy w' v0.ownBlock:=by
  rcases A with _|ad
  ·have h0:m=0:=by
    rcases Nat.eq_zero_or_pos m with h|h
    ·exact h
    ·obtain⟨b,o,h,_⟩:=hr.2 h;cases h
   subst h0
   obtain rfl:=hA rfl
   refine⟨v0,w,run_append_owned_none (P:=Tryz.prog) (w:=w) base 22 ty 5 i0 1 Tryz.underlying22 hi v0 n _ hown,?_,World.grownBy.refl _ _⟩
   rw[←bytesL_cat]
   simpa[bytesL]using hown
  ·have hcells:∀j u,(bytesL m g)[j]?=some u→w.cell? (ad.add j)=some u:=by
    intro j u hu
    rw[bytesL_get]at hu
    by_cases hj:j<m
    ·rw[if_pos hj]at hu
     injection hu with hu
     subst hu
     obtain⟨b,o,h,_,hc⟩:=hr.2 (by omega)
     injection h with h
     subst h
     have e:(⟨b,o,none⟩:Addr).add j=⟨b,o+j,none⟩:=by unfold Addr.add;split<;>simp_all
     rw[e];exact hc j hj
    ·rw[if_neg hj]at hu;cases hu
   obtain⟨v',w',h1,h2,h3,_,_⟩:=run_append_own_at (P:=Tryz.prog) w base 22 ty 5 i0 (.int .u8 0) 1 1 Tryz.underlying22 hi hz0 hz1 hz2 rfl (by decide)
    v0 n _ hown ad m c (bytesL m g) (by simp[bytesL]) hcells (bytesL_one m g) (by unfold maxLen;omega) (by omega) hbase
   rw[bytesL_cat]at h2
   exact⟨v',w',h1,h2,h3⟩
 obtain⟨v',w',h1,h2,h3⟩:=key
 have hv:∃A' c',v'=.slice A' (n+m) c':=by
  rcases h2.2 with⟨rfl,h⟩|⟨g,cap,cur,rfl,_⟩
  ·exact⟨none,0,by rw[h]⟩
  ·exact⟨_,_,rfl⟩
 obtain⟨A',c',rfl⟩:=hv
 exact⟨A',c',w',h1,h2,(Below.refl base w).grown h3 hbase (own_ge hown)⟩
theorem wpList_append_run{P:Program}{w:World}{ops:Array Oper}{rest:List Oper}{o:Oper}{a:Act}{Q:Exit→Act→World→Prop}(hgd:o.guard=none)(s x:Operand)(t:TypeId)
  (ho:o.op=.call {callee:=.builtin .append,args:=#[s,x],argTypes:=#[t,t]}) (v u v':Value) (w':World) (hs:a.eval s=v) (hx:a.eval x=u)
  (hrun:(Builtin.append_ #[t,t] o.type #[v,u]).run P w=.ok v' w') (h:wpList P ops Q rest (a.put o.dst v') w'):wpList P ops Q (o::rest) a w:=by
 refine wpList_plain hgd fun K hK=>?_
 unfold Oper.wp
 simp[execOp,ho,resolve,invoke,builtin,hs,hx,hrun,Result.andThen]
 exact hK _ _ h
def strB(n:Nat)(f:Nat→Nat):ByteArray:=strOfNums ((List.range n).map fun j=>(f j:Int))
theorem strB_zero(f:Nat→Nat):strB 0 f=ByteArray.empty:=rfl
theorem run_str{w:World}{B:Nat}{A:Option Addr}{n:Nat}{f:Nat→Nat}(hr:RdB w B A n f)(c:Nat):
  (convert 22 9 (.slice A n c)).run Tryz.prog w=.ok (.string (strB n f)) w:=by
 rcases Nat.eq_zero_or_pos n with h0|h0
 ·subst h0
  rcases A with _|⟨b,o,s⟩
  ·rw[strB_zero];exact run_convert_bytes_nil w 22 5 Tryz.underlying22 Tryz.underlying5 0 c 9 Tryz.underlying9
  ·rw[run_convert_bytes_string w 22 9 5 _ 0 c Tryz.underlying22 Tryz.underlying5 Tryz.underlying9,run_bytesToString w _ 0 c [] (by simpa using run_loadCells_list (P:=Tryz.prog) w ⟨b,o,s⟩ [] (by simp))]
   rfl
 ·obtain⟨b,o,rfl,_,hc⟩:=hr.2 h0
  exact run_convert_bytes_arg w 22 5 Tryz.underlying22 Tryz.underlying5 b o n c _ (by simp) (fun i hi=>by rw[hc i hi];simp[List.getD,hi]) 9 Tryz.underlying9
theorem open_bytes{H:Type}{enc:TypeId×Value→H}{W:World}{base:Nat}{sp:Nat→Bool}{hd:Bool}{a:Option Addr}{len cap:Nat}{d:DataW H}{p:List MemPlace}
  (h:∃fuel,DataW.trod enc Tryz.prog W base sp hd fuel 22 (Value.slice a len cap).cells.toList=some (d,p)):
  ∃f,RdB W W.heap.size a len f∧(a=none→cap=0)∧len≤cap∧cap≤maxLen:=by
 obtain⟨fuel,hf⟩:=h
 rcases open_ints Tryz.underlying22 Tryz.underlying5 (by kernel_rfl) hf with⟨hcs,_⟩|⟨x,l,c,zs,hcs,_,hl,hm,hz,_,hcell,hwz⟩
 ·simp[Value.cells]at hcs
  obtain⟨rfl,rfl,rfl⟩:=hcs
  exact⟨fun _=>0,⟨fun _=>by show 0<256;omega,fun h=>by omega⟩,fun _=>rfl,Nat.le_refl _,by unfold maxLen;omega⟩
 ·simp[Value.cells]at hcs
  obtain⟨rfl,rfl,rfl⟩:=hcs
  have hbd:∀j,0≤zs.getD j 0∧zs.getD j 0<256:=by
   intro j
   rcases Nat.lt_or_ge j zs.length with hj|hj
   ·have:=hwz (zs.getD j 0) (by simp[List.getD,hj])
    simp[Lit.wf,IntKind.min,IntKind.max,IntKind.signed,IntKind.bits]at this
    simp[List.getD,hj]
    simp[hj]at this
    omega
   ·simp[List.getD,List.getElem?_eq_none hj]
  refine⟨fun j=>(zs.getD j 0).toNat,⟨fun j=>by have:=hbd j;show(zs.getD j 0).toNat<256;omega,fun hn=>?_⟩,(fun h=>by cases h),hl,hm⟩
  have hzl:len≤zs.length:=by rw[hz];split<;>omega
  obtain⟨b,off,spot⟩:=x
  have h0:=hcell 0 (by omega)
  have hspot:spot=none:=by simpa[Addr.add]using World.cell?_spot h0
  subst hspot
  have hlt:b<W.heap.size:=by
   rcases Nat.lt_or_ge b W.heap.size with h|h
   ·exact h
   ·simp[Addr.add,World.cell?,Array.getElem?_eq_none h]at h0
  refine⟨b,off,rfl,hlt,fun j hj=>?_⟩
  have hb:=hbd j
  have h1:=hcell j (by omega)
  have e:(⟨b,off,none⟩:Addr).add j=⟨b,off+j,none⟩:=by unfold Addr.add;split<;>simp_all
  rw[e]at h1
  rw[h1,Int.toNat_of_nonneg hb.1]
def Row(w:World)(g L:Nat)(f:Nat→Nat):Prop:=w.heap[g]?=some (.cells (bytesL L f).toArray 5 (0,0))
def upd(f:Nat→Nat)(i x:Nat):Nat→Nat:=fun j=>if j=i then x else f j
def RowW(w:World)(g n:Nat)(f:Nat→Nat):Prop:=∃cur:Array Value,w.heap[g]?=some (.cells cur 5 (0,0))∧∀j,j<n→cur[j]?=some (.int .u8 (f j:Int))
theorem RowW.lt{w:World}{g n:Nat}{f:Nat→Nat}(h:RowW w g n f):g<w.heap.size:=by
 obtain⟨cur,h1,_⟩:=h;exact(Array.getElem?_eq_some_iff.1 h1).1
theorem RowW.cell{w:World}{g n:Nat}{f:Nat→Nat}(h:RowW w g n f){j:Nat}(hj:j<n):w.cell? ⟨g,j,none⟩=some (.int .u8 (f j:Int)):=by
 obtain⟨cur,h1,h2⟩:=h
 rw[cell_of_row w g j _ _ (0,0) h1];exact h2 j hj
theorem RowW.frozen{w:World}{g n:Nat}{f:Nat→Nat}(h:RowW w g n f)(j:Nat):w.frozen? ⟨g,j,none⟩=false:=by
 obtain⟨cur,h1,_⟩:=h;exact frozen_of_row w g j _ _ h1
theorem RowW.set{w:World}{g n:Nat}{f:Nat→Nat}(h:RowW w g n f)(i x:Nat):RowW (w.setCell ⟨g,i,none⟩ (.int .u8 (x:Int))) g n (upd f i x):=by
 obtain⟨cur,h1,h2⟩:=h
 refine⟨cur.setIfInBounds i (.int .u8 (x:Int)),heap_setCell_same w g i cur _ _ h1,fun j hj=>?_⟩
 rw[Array.getElem?_setIfInBounds,upd]
 have hs:j<cur.size:=by
  rcases Nat.lt_or_ge j cur.size with h|h
  ·exact h
  ·have:=h2 j hj;rw[Array.getElem?_eq_none h]at this;cases this
 by_cases e:i=j
 ·subst e;simp[hs]
 ·have e':¬j=i:=fun h=>e h.symm
  simp[e,e',h2 j hj]
theorem RowW.other{w:World}{g n:Nat}{f:Nat→Nat}(h:RowW w g n f){p:Addr}(hp:g≠p.block)(u:Value):RowW (w.setCell p u) g n f:=by
 obtain⟨cur,h1,h2⟩:=h;exact⟨cur,(Below.heap_setCell w p u g hp).trans h1,h2⟩
theorem RowW.below{w w':World}{g n B:Nat}{f:Nat→Nat}(h:RowW w g n f)(hb:Below B w w')(hg:g<B):RowW w' g n f:=by
 obtain⟨cur,h1,h2⟩:=h;exact⟨cur,(hb.block g hg).trans h1,h2⟩
theorem RowW.rd{w:World}{g n:Nat}{f:Nat→Nat}(h:RowW w g n f)(hf:∀j,f j<256):RdB w w.heap.size (some ⟨g,0,none⟩) n f:=
 ⟨hf,fun _=>⟨g,0,rfl,h.lt,fun j hj=>by rw[Nat.zero_add];exact h.cell hj⟩⟩
theorem RowW.ext{w:World}{g n:Nat}{f f':Nat→Nat}(h:RowW w g n f)(e:∀j,j<n→f j=f' j):RowW w g n f':=by
 obtain⟨cur,h1,h2⟩:=h;exact⟨cur,h1,fun j hj=>by rw[h2 j hj,e j hj]⟩
theorem wf_u8_range{n:Int}(h:(Lit.int .u8 n).wf=true):0≤n∧n<256:=by
 simp[Lit.wf,IntKind.min,IntKind.max,IntKind.signed,IntKind.bits]at h;omega
theorem wf_i64_range{n:Int}(h:(Lit.int .i64 n).wf=true): -9223372036854775808≤n∧n≤9223372036854775807:=by
 simp[Lit.wf,IntKind.min,IntKind.max,IntKind.signed,IntKind.bits]at h;omega
end Go.Proofs.YtgokdgcmkcmjeaaGreat
namespace Go.Proofs.YtgokdgcmkcmjeaaGreat
def pickB(n m:Nat)(w p:Nat→Nat)(i k:Nat):Bool:=decide (m≤k∨(i<n∧w i≤p k))
def stepI(n m:Nat)(w p:Nat→Nat):Nat→Nat
 |0=>0
 |t+1=>if pickB n m w p (stepI n m w p t) (t-stepI n m w p t)=true then stepI n m w p t+1 else stepI n m w p t
def mrg(n m:Nat)(w p:Nat→Nat)(t:Nat):Nat:=
 if pickB n m w p (stepI n m w p t) (t-stepI n m w p t)=true then w (stepI n m w p t)else p (t-stepI n m w p t)
def Sorted(n:Nat)(w:Nat→Nat):Prop:=∀i j,i≤j→j<n→w i≤w j
section
variable {n m:Nat} {w p:Nat→Nat}
theorem stepI_bd:∀t,t≤n+m→stepI n m w p t≤n∧t-stepI n m w p t≤m∧stepI n m w p t≤t
 |0,_=>⟨Nat.zero_le _,Nat.zero_le _,Nat.le_refl _⟩
 |t+1,h=>by
  have ih:=stepI_bd t (by omega)
  simp only[stepI]
  by_cases hc:pickB n m w p (stepI n m w p t) (t-stepI n m w p t)=true
  ·rw[if_pos hc]
   have:=of_decide_eq_true hc
   omega
  ·rw[if_neg hc]
   have:=of_decide_eq_false (Bool.not_eq_true _▸hc)
   omega
theorem pair_lt(hw:Sorted n w):∀t,t≤n+m→∀j,j<t-stepI n m w p t→∀i,stepI n m w p t≤i→i<n→p j<w i
 |0,_,j,hj,_,_,_=>absurd hj (by omega)
 |t+1,h,j,hj,i,hi,hin=>by
  have ih:=pair_lt hw t (by omega)
  have hbd:=stepI_bd (n:=n) (m:=m) (w:=w) (p:=p) t (by omega)
  simp only[stepI]at hj hi
  by_cases hc:pickB n m w p (stepI n m w p t) (t-stepI n m w p t)=true
  ·rw[if_pos hc]at hj hi
   exact ih j (by omega) i (by omega) hin
  ·rw[if_neg hc]at hj hi
   by_cases e:j=t-stepI n m w p t
   ·have h2:=of_decide_eq_false (Bool.not_eq_true _▸hc)
    have h3:=hw (stepI n m w p t) i hi hin
    have h4:¬(w (stepI n m w p t)≤p (t-stepI n m w p t)):=fun g=>h2 (.inr ⟨by omega,g⟩)
    rw[e];omega
   ·exact ih j (by omega) i hi hin
end
def prs(r:Nat→Nat)(j:Nat):Nat:=r (2*j)+r (2*j+1)
def rowLen(n:Nat):Nat→Nat
 |0=>n
 |k+1=>n+rowLen n k/2
def rowW(n:Nat)(w:Nat→Nat):Nat→Nat→Nat
 |0=>w
 |k+1=>mrg n (rowLen n k/2) w (prs (rowW n w k))
def takeI(n:Nat)(w:Nat→Nat):Nat→Nat→Nat
 |0,t=>t
 |k+1,t=>stepI n (rowLen n k/2) w (prs (rowW n w k)) t
def cntN(n:Nat)(w:Nat→Nat):Nat→Nat→Nat→Nat
 |0,t,i=>if i<t then 1 else 0
 |k+1,t,i=>(if i<takeI n w (k+1) t then 1 else 0)+cntN n w k (2*(t-takeI n w (k+1) t)) i
end Go.Proofs.YtgokdgcmkcmjeaaGreat
namespace Go.Proofs.YtgokdgcmkcmjeaaGreat
def selN(c:Nat→Bool):Nat→Nat
 |0=>0
 |n+1=>selN c n+if c n=true then 1 else 0
def kraft(L:Nat)(m:Nat→Nat):Nat→Nat
 |0=>0
 |n+1=>kraft L m n+2^(L-m n)
end Go.Proofs.YtgokdgcmkcmjeaaGreat
namespace Go.Proofs.YtgokdgcmkcmjeaaGreat
theorem takeI_le{n:Nat}{w:Nat→Nat}:∀k t,t≤rowLen n k→takeI n w k t≤n∧takeI n w k t≤t
 |0,t,h=>⟨h,Nat.le_refl _⟩
 |k+1,t,h=>by
  have:=stepI_bd (n:=n) (m:=rowLen n k/2) (w:=w) (p:=prs (rowW n w k)) t h
  exact⟨this.1,this.2.2⟩
theorem rest_le{n:Nat}{w:Nat→Nat}{k t:Nat}(h:t≤rowLen n (k+1)):2*(t-takeI n w (k+1) t)≤rowLen n k:=by
 have h2:t-takeI n w (k+1) t≤rowLen n k/2:=(stepI_bd (n:=n) (m:=rowLen n k/2) (w:=w) (p:=prs (rowW n w k)) t h).2.1
 omega
theorem cnt_le(n:Nat)(w:Nat→Nat):∀k t i,cntN n w k t i≤k+1
 |0,t,i=>by simp only[cntN];split<;>omega
 |k+1,t,i=>by
  have:=cnt_le n w k (2*(t-takeI n w (k+1) t)) i
  simp only[cntN];split<;>omega
theorem step_at{n m:Nat}{w p:Nat→Nat}:∀t i,i<stepI n m w p t→∃q,q<t∧mrg n m w p q=w i
 |0,i,h=>by simp[stepI]at h
 |t+1,i,h=>by
  simp only[stepI]at h
  by_cases hc:pickB n m w p (stepI n m w p t) (t-stepI n m w p t)=true
  ·rw[if_pos hc]at h
   rcases Nat.eq_or_lt_of_le (Nat.le_of_lt_succ h)with e|e
   ·exact⟨t,by omega,by unfold mrg;rw[if_pos hc,e]⟩
   ·obtain⟨q,hq,h2⟩:=step_at t i e
    exact⟨q,by omega,h2⟩
  ·rw[if_neg hc]at h
   obtain⟨q,hq,h2⟩:=step_at t i h
   exact⟨q,by omega,h2⟩
theorem take_at{n:Nat}{w:Nat→Nat}:∀k t i,i<takeI n w k t→∃q,q<t∧rowW n w k q=w i
 |0,_,i,h=>⟨i,h,rfl⟩
 |_+1,t,i,h=>step_at t i h
theorem take_nest{n:Nat}{w:Nat→Nat}(hw:Sorted n w){k t:Nat}(h:t≤rowLen n (k+1)):takeI n w k (2*(t-takeI n w (k+1) t))≤takeI n w (k+1) t:=by
 have h1:=takeI_le (w:=w) k _ (rest_le (w:=w) h)
 by_cases g:takeI n w k (2*(t-takeI n w (k+1) t))≤takeI n w (k+1) t
 ·exact g
 ·exfalso
  obtain⟨q,hq,he⟩:=take_at (n:=n) (w:=w) k (2*(t-takeI n w (k+1) t)) (takeI n w (k+1) t) (by omega)
  have h2:=pair_lt (m:=rowLen n k/2) (p:=prs (rowW n w k)) hw t h (q/2) (by show q/2<t-takeI n w (k+1) t;omega) (takeI n w (k+1) t) (Nat.le_refl _) (by omega)
  have h3:rowW n w k q≤prs (rowW n w k) (q/2):=by
   unfold prs
   rcases Nat.mod_two_eq_zero_or_one q with e|e
   ·rw[show 2*(q/2)=q by omega];omega
   ·rw[show 2*(q/2)+1=q by omega];omega
  omega
theorem cnt_none{n:Nat}{w:Nat→Nat}(hw:Sorted n w):∀k t i,t≤rowLen n k→takeI n w k t≤i→cntN n w k t i=0
 |0,t,i,_,h=>by simp only[cntN];rw[if_neg (by simp only[takeI]at h;omega)]
 |k+1,t,i,ht,h=>by
  have h1:=take_nest hw ht
  have:=cnt_none hw k _ i (rest_le (w:=w) ht) (Nat.le_trans h1 h)
  simp only[cntN];rw[this,if_neg (by omega)]
def oneF(n:Nat)(w:Nat→Nat):Nat→Nat→Nat→Nat
 |0,t,i=>if i<t then 1 else 0
 |k+1,t,i=>2^(k+1)*(if i<takeI n w (k+1) t then 1 else 0)+oneF n w k (2*(t-takeI n w (k+1) t)) i
theorem oneF_cnt{n:Nat}{w:Nat→Nat}(hw:Sorted n w):∀k t i,t≤rowLen n k→oneF n w k t i+2^(k+1-cntN n w k t i)=2^(k+1)
 |0,t,i,h=>by
  simp only[oneF,cntN]
  by_cases g:i<t
  ·rw[if_pos g]
  ·rw[if_neg g]
 |k+1,t,i,h=>by
  have ih:=oneF_cnt hw k _ i (rest_le (w:=w) h)
  have hl:=cnt_le n w k (2*(t-takeI n w (k+1) t)) i
  simp only[oneF,cntN]
  by_cases g:i<takeI n w (k+1) t
  ·rw[if_pos g,Nat.mul_one,show k+1+1-(1+cntN n w k (2*(t-takeI n w (k+1) t)) i)=k+1-cntN n w k (2*(t-takeI n w (k+1) t)) i by omega]
   have e:(2:Nat)^(k+1+1)=2^(k+1)*2:=Nat.pow_succ _ _
   omega
  ·have h0:=cnt_none hw k _ i (rest_le (w:=w) h) (Nat.le_trans (take_nest hw h) (by omega))
   rw[if_neg g]
   rw[h0]at ih⊢
   have e2:(2:Nat)^(k+1-0)=2^(k+1):=rfl
   have e3:(2:Nat)^(k+1+1-(0+0))=2^(k+1+1):=rfl
   rw[e3];omega
def sums(c:Nat→Nat):Nat→Nat
 |0=>0
 |n+1=>sums c n+c n
theorem sums_add(a b:Nat→Nat):∀n,sums (fun i=>a i+b i) n=sums a n+sums b n
 |0=>rfl
 |n+1=>by simp only[sums];rw[sums_add a b n];omega
theorem sums_first(x t:Nat):∀n,sums (fun i=>x*(if i<t then 1 else 0)) n=x*min t n
 |0=>by simp[sums]
 |n+1=>by
  simp only[sums]
  rw[sums_first x t n]
  by_cases h:n<t
  ·rw[if_pos h,Nat.mul_one,show min t n=n by omega,show min t (n+1)=n+1 by omega,Nat.mul_add,Nat.mul_one]
  ·rw[if_neg h,show min t n=t by omega,show min t (n+1)=t by omega];omega
theorem sums_oneF{n:Nat}{w:Nat→Nat}:∀k t,t≤rowLen n k→sums (oneF n w k t) n=t*2^k
 |0,t,h=>by
  have e:oneF n w 0 t=fun i=>1*(if i<t then 1 else 0):=by funext i;simp only[oneF];omega
  rw[e,sums_first,Nat.one_mul,show min t n=t from Nat.min_eq_left h,Nat.pow_zero,Nat.mul_one]
 |k+1,t,h=>by
  have e:oneF n w (k+1) t=fun i=>2^(k+1)*(if i<takeI n w (k+1) t then 1 else 0)+oneF n w k (2*(t-takeI n w (k+1) t)) i:=rfl
  have hb:=takeI_le (w:=w) (k+1) t h
  rw[e,sums_add,sums_first,sums_oneF k _ (rest_le (w:=w) h),Nat.min_eq_left hb.1]
  have e2:(2:Nat)^(k+1)=2^k*2:=Nat.pow_succ _ _
  obtain⟨r,hr⟩:∃r,t=takeI n w (k+1) t+r:=⟨t-takeI n w (k+1) t,by omega⟩
  have e3:t-takeI n w (k+1) t=r:=by omega
  rw[e3]
  conv=>rhs;rw[hr]
  rw[e2,Nat.add_mul,Nat.mul_comm (2^k*2),Nat.mul_comm 2 r,Nat.mul_assoc r 2,Nat.mul_comm 2 (2^k)]
theorem kraft_sums(L:Nat)(c d:Nat→Nat):∀n,(∀i,i<n→d i+2^(L-c i)=2^L)→sums d n+kraft L c n=n*2^L
 |0,_=>by simp[sums,kraft]
 |n+1,h=>by
  have ih:=kraft_sums L c d n (fun i hi=>h i (by omega))
  have h1:=h n (by omega)
  simp only[sums,kraft]
  rw[Nat.add_mul,Nat.one_mul];omega
theorem rowLen_le{n:Nat}(hn:1≤n):∀k,rowLen n k≤2*n-1
 |0=>by simp only[rowLen];omega
 |k+1=>by have:=rowLen_le hn k;simp only[rowLen];omega
theorem rowLen_ge{n:Nat}:∀k,2*n*2^k+1≤rowLen n k*2^k+n+2^k
 |0=>by simp only[rowLen,Nat.pow_zero,Nat.mul_one];omega
 |k+1=>by
  have ih:=rowLen_ge (n:=n) k
  simp only[rowLen]
  have e2:(2:Nat)^(k+1)=2^k*2:=Nat.pow_succ _ _
  have h3:rowLen n k≤2*(rowLen n k/2)+1:=by omega
  have h4:=Nat.mul_le_mul_right (2^k) h3
  rw[Nat.add_mul,Nat.one_mul,Nat.mul_assoc,Nat.mul_comm 2]at h4
  rw[e2,Nat.add_mul,←Nat.mul_assoc,←Nat.mul_assoc,←Nat.mul_assoc]
  have e5:2*n*2^k=n*2^k*2:=by rw[Nat.mul_assoc,Nat.mul_comm 2]
  rw[e5]at ih⊢
  omega
theorem rowLen_enough{n L:Nat}(hL:0<L)(hn:n≤2^L):2*n-2≤rowLen n (L-1):=by
 have h:=rowLen_ge (n:=n) (L-1)
 obtain⟨K,rfl⟩:∃K,L=K+1:=⟨L-1,by omega⟩
 rw[Nat.add_sub_cancel]at h⊢
 have e2:(2:Nat)^(K+1)=2^K*2:=Nat.pow_succ _ _
 by_cases g:2*n-2≤rowLen n K
 ·exact g
 ·exfalso
  have h1:rowLen n K+3≤2*n:=by omega
  have h2:=Nat.mul_le_mul_right (2^K) h1
  rw[Nat.add_mul]at h2
  omega
theorem take_all{n:Nat}{w:Nat→Nat}(hw:Sorted n w)(hn:2≤n):∀k,2*n-2≤rowLen n k→takeI n w k (2*n-2)=n
 |0,h=>by simp only[rowLen]at h;simp only[takeI];omega
 |k+1,h=>by
  have h1:=takeI_le (w:=w) (k+1) _ h
  by_cases g:takeI n w (k+1) (2*n-2)=n
  ·exact g
  ·exfalso
   have h2:=rest_le (w:=w) h
   have h3:=rowLen_le (n:=n) (by omega) k
   have h4:=take_nest hw h
   have e:2*(2*n-2-takeI n w (k+1) (2*n-2))=2*n-2:=by omega
   rw[e]at h2 h4
   rw[take_all hw hn k h2]at h4
   omega
theorem least_whole{n L:Nat}{w:Nat→Nat}(hw:Sorted n w)(hL:0<L)(hn:2≤n)(hn2:n≤2^L):kraft L (cntN n w (L-1) (2*n-2)) n=2^L:=by
 have hen:=rowLen_enough hL hn2
 obtain⟨K,rfl⟩:∃K,L=K+1:=⟨L-1,by omega⟩
 rw[Nat.add_sub_cancel]at hen⊢
 have h1:=kraft_sums (K+1) (cntN n w K (2*n-2)) (oneF n w K (2*n-2)) n (fun i _=>oneF_cnt hw K _ i hen)
 rw[sums_oneF K _ hen]at h1
 have e2:(2:Nat)^(K+1)=2^K*2:=Nat.pow_succ _ _
 have e3:(2*n-2)*2^K=(n-1)*2^(K+1):=by rw[e2,show 2*n-2=(n-1)*2 by omega,Nat.mul_assoc,Nat.mul_comm 2]
 have e4:n*2^(K+1)=(n-1)*2^(K+1)+2^(K+1):=by
  conv=>lhs;rw[show n=(n-1)+1 by omega,Nat.add_mul,Nat.one_mul]
 omega
theorem least_pos{n L:Nat}{w:Nat→Nat}(hw:Sorted n w)(hL:0<L)(hn:2≤n)(hn2:n≤2^L){i:Nat}(hi:i<n):1≤cntN n w (L-1) (2*n-2) i∧cntN n w (L-1) (2*n-2) i≤L:=by
 have hen:=rowLen_enough hL hn2
 have hall:=take_all hw hn (L-1) hen
 have hle:=cnt_le n w (L-1) (2*n-2) i
 refine⟨?_,by omega⟩
 cases hk:L-1 with
 |zero=>rw[hk]at hall;simp only[takeI]at hall;simp only[cntN];rw[if_pos (by omega)];exact Nat.le_refl _
 |succ k=>rw[hk]at hall;simp only[cntN];rw[hall,if_pos hi];omega
end Go.Proofs.YtgokdgcmkcmjeaaGreat
namespace Go.Proofs.YtgokdgcmkcmjeaaGreat
def aheadB(F:Nat→Nat)(i j:Nat):Bool:=decide (F i<F j∨(F i=F j∧i<j))
def insI(F:Nat→Nat)(i:Nat):List Nat→List Nat
 |[]=>[i]
 |j::l=>if F j≤F i then j::insI F i l else i::j::l
def itemsL(F:Nat→Nat):Nat→List Nat
 |0=>[]
 |n+1=>if 0<F n then insI F n (itemsL F n)else itemsL F n
def nI(F:Nat→Nat):Nat→Nat
 |0=>0
 |n+1=>nI F n+if 0<F n then 1 else 0
theorem ins_length(F:Nat→Nat)(i:Nat):∀l,(insI F i l).length=l.length+1
 |[]=>rfl
 |j::l=>by
  simp only[insI];split
  ·simp only[List.length_cons];rw[ins_length F i l]
  ·rfl
theorem items_length(F:Nat→Nat):∀n,(itemsL F n).length=nI F n
 |0=>rfl
 |n+1=>by
  simp only[itemsL,nI]
  split
  ·rw[ins_length,items_length F n]
  ·rw[items_length F n];rfl
theorem ins_mem(F:Nat→Nat)(i x:Nat):∀l,x∈insI F i l↔x=i∨x∈l
 |[]=>by simp[insI]
 |j::l=>by
  simp only[insI];split
  ·simp only[List.mem_cons];rw[ins_mem F i x l]
   constructor
   ·rintro(h|h|h)
    ·exact .inr (.inl h)
    ·exact .inl h
    ·exact .inr (.inr h)
   ·rintro(h|h|h)
    ·exact .inr (.inl h)
    ·exact .inl h
    ·exact .inr (.inr h)
  ·simp only[List.mem_cons]
theorem items_mem(F:Nat→Nat)(x:Nat):∀n,x∈itemsL F n↔x<n∧0<F x
 |0=>by simp[itemsL]
 |n+1=>by
  simp only[itemsL]
  split
  ·rename_i h
   rw[ins_mem,items_mem F x n]
   constructor
   ·rintro(rfl|h2)
    ·exact⟨by omega,h⟩
    ·exact⟨by omega,h2.2⟩
   ·rintro⟨h1,h2⟩
    by_cases e:x=n
    ·exact .inl e
    ·exact .inr ⟨by omega,h2⟩
  ·rename_i h
   rw[items_mem F x n]
   constructor
   ·rintro⟨h1,h2⟩;exact⟨by omega,h2⟩
   ·rintro⟨h1,h2⟩
    refine⟨?_,h2⟩
    by_cases e:x=n
    ·subst e;exact absurd h2 h
    ·omega
def InOrder(F:Nat→Nat):List Nat→Prop
 |[]=>True
 |j::l=>(∀x∈l,aheadB F j x=true)∧InOrder F l
theorem ahead_iff{F:Nat→Nat}{i j:Nat}:aheadB F i j=true↔(F i<F j∨(F i=F j∧i<j)):=by unfold aheadB;exact decide_eq_true_iff
theorem ins_order(F:Nat→Nat)(i:Nat):∀l,InOrder F l→(∀x∈l,x<i)→InOrder F (insI F i l)
 |[],_,_=>⟨fun x hx=>by simp at hx,trivial⟩
 |j::l,h,hx=>by
  simp only[insI]
  have hj:=hx j (by simp)
  split
  ·rename_i hle
   refine⟨fun x h2=>?_,ins_order F i l h.2 (fun x h2=>hx x (by simp[h2]))⟩
   rcases(ins_mem F i x l).1 h2 with rfl|h2
   ·exact ahead_iff.2 (by omega)
   ·exact h.1 x h2
  ·rename_i hle
   refine⟨fun x h2=>?_,h⟩
   rcases List.mem_cons.1 h2 with rfl|h2
   ·exact ahead_iff.2 (by omega)
   ·have:=ahead_iff.1 (h.1 x h2)
    exact ahead_iff.2 (by omega)
theorem items_order(F:Nat→Nat):∀n,InOrder F (itemsL F n)
 |0=>trivial
 |n+1=>by
  simp only[itemsL]
  split
  ·exact ins_order F n _ (items_order F n) (fun x hx=>((items_mem F x n).1 hx).1)
  ·exact items_order F n
theorem order_at{F:Nat→Nat}:∀(l:List Nat),InOrder F l→∀r s,r<s→s<l.length→aheadB F (l.getD r 0) (l.getD s 0)=true
 |[],_,r,s,_,hs=>absurd hs (by simp)
 |j::l,h,0,s+1,_,hs=>by
  have hs':s<l.length:=by simpa using hs
  have:(j::l).getD (s+1) 0=l[s]:=by simp[List.getD,hs']
  rw[this]
  exact h.1 _ (List.getElem_mem hs')
 |j::l,h,r+1,s+1,hrs,hs=>by
  have h2:=order_at l h.2 r s (by omega) (by simpa using hs)
  have e1:∀t,(j::l).getD (t+1) 0=l.getD t 0:=fun t=>by simp[List.getD]
  rw[e1,e1];exact h2
def itemW(F:Nat→Nat)(n r:Nat):Nat:=F ((itemsL F n).getD r 0)
theorem itemW_sorted(F:Nat→Nat)(n:Nat):Sorted (nI F n) (itemW F n):=by
 intro i j hij hj
 rcases Nat.eq_or_lt_of_le hij with e|e
 ·subst e;exact Nat.le_refl _
 ·have:=ahead_iff.1 (order_at (itemsL F n) (items_order F n) i j e (by rw[items_length];exact hj))
  unfold itemW;omega
theorem sums_same{c d:Nat→Nat}:∀n,(∀i,i<n→c i=d i)→sums c n=sums d n
 |0,_=>rfl
 |n+1,h=>by simp only[sums];rw[sums_same n (fun i hi=>h i (by omega)),h n (by omega)]
theorem sums_front(c:Nat→Nat):∀n,sums c (n+1)=c 0+sums (fun i=>c (i+1)) n
 |0=>by simp[sums]
 |n+1=>by
  have:=sums_front c n
  have e:sums c (n+1+1)=sums c (n+1)+c (n+1):=rfl
  rw[e,this];simp only[sums];omega
def sumL(g:Nat→Nat):List Nat→Nat
 |[]=>0
 |j::l=>g j+sumL g l
theorem sumL_sums(g:Nat→Nat):∀l:List Nat,sums (fun r=>g (l.getD r 0)) l.length=sumL g l
 |[]=>rfl
 |j::l=>by
  rw[List.length_cons,sums_front]
  have e1:∀t,(j::l).getD (t+1) 0=l.getD t 0:=fun t=>by simp[List.getD]
  have e0:(j::l).getD 0 0=j:=rfl
  simp only[e1,e0,sumL]
  rw[sumL_sums g l]
theorem sumL_ins(g F:Nat→Nat)(i:Nat):∀l,sumL g (insI F i l)=sumL g l+g i
 |[]=>by simp[insI,sumL]
 |j::l=>by
  simp only[insI];split
  ·simp only[sumL];rw[sumL_ins g F i l];omega
  ·simp only[sumL];omega
theorem sumL_items(g F:Nat→Nat):∀n,sumL g (itemsL F n)=sums (fun i=>if 0<F i then g i else 0) n
 |0=>rfl
 |n+1=>by
  simp only[itemsL,sums]
  split
  ·rw[sumL_ins,sumL_items g F n]
  ·rw[sumL_items g F n];rfl
theorem items_sum(g F:Nat→Nat)(n:Nat):sums (fun r=>g ((itemsL F n).getD r 0)) (nI F n)=sums (fun i=>if 0<F i then g i else 0) n:=by
 rw[←items_length,sumL_sums,sumL_items]
theorem kraft_sum(L:Nat)(m:Nat→Nat):∀n,kraft L m n=sums (fun i=>2^(L-m i)) n
 |0=>rfl
 |n+1=>by simp only[kraft,sums];rw[kraft_sum L m n]
def rankN(F:Nat→Nat)(n i:Nat):Nat:=(itemsL F n).idxOf i
def lenB(F:Nat→Nat)(n L i:Nat):Nat:=
 if F i=0 then 0 else if nI F n=1 then 1 else cntN (nI F n) (itemW F n) (L-1) (2*nI F n-2) (rankN F n i)
theorem rank_at{F:Nat→Nat}{n i:Nat}(hi:i<n)(h:0<F i):rankN F n i<nI F n∧(itemsL F n).getD (rankN F n i) 0=i:=by
 have hm:i∈itemsL F n:=(items_mem F i n).2 ⟨hi,h⟩
 have hl:rankN F n i<(itemsL F n).length:=List.idxOf_lt_length_of_mem hm
 refine⟨by rw[←items_length];exact hl,?_⟩
 rw[List.getD_eq_getElem?_getD,List.getElem?_eq_getElem hl]
 exact List.getElem_idxOf hl
theorem rank_of{F:Nat→Nat}{n r:Nat}(hr:r<nI F n):rankN F n ((itemsL F n).getD r 0)=r∧(itemsL F n).getD r 0<n∧0<F ((itemsL F n).getD r 0):=by
 have hl:r<(itemsL F n).length:=by rw[items_length];exact hr
 have hm:(itemsL F n).getD r 0∈itemsL F n:=by
  rw[List.getD_eq_getElem?_getD,List.getElem?_eq_getElem hl];exact List.getElem_mem hl
 have h1:=(items_mem F _ n).1 hm
 have h2:=rank_at h1.1 h1.2
 refine⟨?_,h1⟩
 rcases Nat.lt_trichotomy (rankN F n ((itemsL F n).getD r 0)) r with h|h|h
 ·have:=ahead_iff.1 (order_at (itemsL F n) (items_order F n) _ _ h hl)
  rw[h2.2]at this;omega
 ·exact h
 ·have:=ahead_iff.1 (order_at (itemsL F n) (items_order F n) _ _ h (by rw[items_length];exact h2.1))
  rw[h2.2]at this;omega
theorem nI_le(F:Nat→Nat):∀n,nI F n≤n
 |0=>Nat.le_refl _
 |n+1=>by have:=nI_le F n;simp only[nI];split<;>omega
theorem nI_pos{F:Nat→Nat}{n i:Nat}(hi:i<n)(h:0<F i):0<nI F n:=by
 have:=rank_at hi h;omega
theorem lenB_rank{F:Nat→Nat}{n L r:Nat}(hr:r<nI F n)(h2:2≤nI F n):lenB F n L ((itemsL F n).getD r 0)=cntN (nI F n) (itemW F n) (L-1) (2*nI F n-2) r:=by
 have h:=rank_of hr
 unfold lenB
 rw[if_neg (by omega),if_neg (by omega),h.1]
theorem lenB_bd{F:Nat→Nat}{n L i:Nat}(hL:0<L)(hn:nI F n≤2^L)(hi:i<n)(h:0<F i):1≤lenB F n L i∧lenB F n L i≤L:=by
 unfold lenB
 rw[if_neg (by omega)]
 have hp:=nI_pos hi h
 by_cases h1:nI F n=1
 ·rw[if_pos h1];omega
 ·rw[if_neg h1]
  exact least_pos (itemW_sorted F n) hL (by omega) hn (rank_at hi h).1
theorem lenB_le(F:Nat→Nat){n L:Nat}(hL:0<L)(i:Nat):lenB F n L i≤L:=by
 unfold lenB
 split
 ·omega
 ·split
  ·omega
  ·have:=cnt_le (nI F n) (itemW F n) (L-1) (2*nI F n-2) (rankN F n i)
   omega
def countN(L:Nat)(m:Nat→Nat)(n:Nat):Nat:=sums (fun i=>if 0<m i then 2^(L-m i)else 0) n
theorem build_count{F:Nat→Nat}{n L:Nat}(hL:0<L)(hn:nI F n≤2^L):countN L (lenB F n L) n=if 2≤nI F n then 2^L else if nI F n=1 then 2^(L-1)else 0:=by
 have e:countN L (lenB F n L) n=sums (fun i=>if 0<F i then 2^(L-lenB F n L i)else 0) n:=by
  apply sums_same
  intro i hi
  by_cases h0:0<F i
  ·rw[if_pos h0,if_pos (by have:=lenB_bd hL hn hi h0;omega)]
  ·rw[if_neg h0,if_neg (by unfold lenB;rw[if_pos (by omega)];omega)]
 rw[e,←items_sum (fun i=>2^(L-lenB F n L i)) F n]
 by_cases h2:2≤nI F n
 ·rw[if_pos h2,←least_whole (itemW_sorted F n) hL h2 hn,kraft_sum]
  apply sums_same
  intro r hr
  rw[lenB_rank hr h2]
 ·rw[if_neg h2]
  by_cases h1:nI F n=1
  ·have h:=rank_of (show 0<nI F n by omega)
   have hl:lenB F n L ((itemsL F n).getD 0 0)=1:=by unfold lenB;rw[if_neg (by omega),if_pos h1]
   rw[if_pos h1,h1]
   simp only[sums]
   rw[hl];omega
  ·rw[if_neg h1,show nI F n=0 by omega];rfl
end Go.Proofs.YtgokdgcmkcmjeaaGreat
namespace Go.Proofs.YtgokdgcmkcmjeaaGreat
open Go.RowKit Go.ChangeShapes Go.WideShapes Go.ChangeAt
def SrcL(w:World)(B sz:Nat)(A:Option Addr)(m:Nat)(ys:List Value):Prop:=
 ys.length=m*sz∧(0<m→∃b o,A=some ⟨b,o,none⟩∧b<B∧∀j u,ys[j]?=some u→w.cell? ⟨b,o+j,none⟩=some u)
theorem SrcL.none_(w:World)(B sz:Nat)(A:Option Addr):SrcL w B sz A 0 []:=⟨by simp,fun h=>absurd h (by omega)⟩
theorem SrcL.below{w w':World}{B B' sz m:Nat}{A:Option Addr}{ys:List Value}(h:SrcL w B sz A m ys)(hb:Below B' w w')(hB:B≤B'):SrcL w' B sz A m ys:=by
 refine⟨h.1,fun hn=>?_⟩
 obtain⟨b,o,rfl,hlt,hc⟩:=h.2 hn
 exact⟨b,o,rfl,hlt,fun j u hu=>by rw[hb.cell (p:=⟨b,o+j,none⟩) (by show b<B';omega)];exact hc j u hu⟩
theorem SrcL.more{w:World}{B B' sz m:Nat}{A:Option Addr}{ys:List Value}(h:SrcL w B sz A m ys)(hB:B≤B'):SrcL w B' sz A m ys:=by
 refine⟨h.1,fun hn=>?_⟩
 obtain⟨b,o,rfl,hlt,hc⟩:=h.2 hn
 exact⟨b,o,rfl,by omega,hc⟩
theorem SrcL.new(w:World)(sz m:Nat)(cs:Array Value)(t:TypeId)(h:cs.size=m*sz):SrcL (w.alloc (.cells cs t)) (w.alloc (.cells cs t)).heap.size sz (some ⟨w.heap.size,0,none⟩) m cs.toList:=
 ⟨by simpa using h,fun _=>⟨w.heap.size,0,rfl,by simp,fun j u hu=>by rw[Nat.zero_add,cell_of_row _ _ j cs t (0,0) (heap_alloc_new w _)];simpa using hu⟩⟩
theorem SrcL.of_own{w:World}{base sz n c:Nat}{e:TypeId}{A:Option Addr}{xs:List Value}(h:w.ownsRow base e sz (.slice A n c) n xs):SrcL w w.heap.size sz A n xs:=by
 refine⟨h.1,fun hn=>?_⟩
 obtain⟨g,cap,hv,_,hlt⟩:=h.form hn
 injection hv with hA _ _
 subst hA
 refine⟨g,0,rfl,hlt,fun j u hu=>?_⟩
 have:=h.cells (g:=g) rfl j u hu
 have e:(⟨g,0,none⟩:Addr).add j=⟨g,0+j,none⟩:=by unfold Addr.add;split<;>simp_all
 rw[e]at this
 exact this
theorem own_geS{w:World}{base sz n:Nat}{e:TypeId}{v:Value}{xs:List Value}(h:w.ownsRow base e sz v n xs):∀k,v.ownBlock=some k→base≤k:=by
 intro k hk
 rcases h.2 with⟨rfl,_⟩|⟨g,cap,cur,rfl,hg,_⟩
 ·simp[Value.ownBlock]at hk
 ·simp[Value.ownBlock]at hk;omega
theorem run_app{T E:TypeId}{z:Value}{sz by_:Nat}(hT:Tryz.prog.underlying T=some (.slice E))(hI:(Tryz.prog.info? E).map (fun i=>(i.zero,i.size,i.bytes))=some (some z,sz,by_))(hz:z.cells.size=sz)(hsz:0<sz)
  (w:World) (base B:Nat) (v0:Value) (n:Nat) (xs:List Value) (hown:w.ownsRow base E sz v0 n xs) (A:Option Addr) (m c:Nat) (ys:List Value) (hr:SrcL w B sz A m ys) (h1:∀u∈ys,u.oneCell'=true)
  (hnm:n+m≤maxLen) (hby:(n+m)*by_≤140737488355328) (ty:TypeId) (hA:A=none→c=0) (hbase:base≤w.heap.size):
  ∃A' c' w',(Builtin.append_ #[T,T] ty #[v0,.slice A m c]).run Tryz.prog w=.ok (.slice A' (n+m) c') w'∧w'.ownsRow base E sz (.slice A' (n+m) c') (n+m) (xs++ys)∧Below base w w':=by
 obtain⟨i0,hi,hz0,hz1,hz2⟩:=info_parts hI
 have key:∃v' w',(Builtin.append_ #[T,T] ty #[v0,.slice A m c]).run Tryz.prog w=.ok v' w'∧w'.ownsRow base E sz v' (n+m) (xs++ys)∧w.grownBy w' v0.ownBlock:=by
  rcases A with _|ad
  ·have h0:m=0:=by
    rcases Nat.eq_zero_or_pos m with h|h
    ·exact h
    ·obtain⟨b,o,h,_⟩:=hr.2 h;cases h
   subst h0
   obtain rfl:=hA rfl
   have hy:ys=[]:=List.length_eq_zero_iff.1 (by have:=hr.1;omega)
   subst hy
   refine⟨v0,w,run_append_owned_none (P:=Tryz.prog) (w:=w) base T ty E i0 sz hT hi v0 n _ hown,?_,World.grownBy.refl _ _⟩
   simpa using hown
  ·have hcells:∀j u,ys[j]?=some u→w.cell? (ad.add j)=some u:=by
    intro j u hu
    have hm:0<m:=by
     rcases Nat.eq_zero_or_pos m with h|h
     ·have hy:ys=[]:=List.length_eq_zero_iff.1 (by have:=hr.1;rw[h]at this;omega)
      rw[hy]at hu;cases hu
     ·exact h
    obtain⟨b,o,h,_,hc⟩:=hr.2 hm
    injection h with h
    subst h
    have e:(⟨b,o,none⟩:Addr).add j=⟨b,o+j,none⟩:=by unfold Addr.add;split<;>simp_all
    rw[e];exact hc j u hu
   obtain⟨v',w',h1,h2,h3,_,_⟩:=run_append_own_at (P:=Tryz.prog) w base T ty E i0 z sz by_ hT hi hz0 hz1 hz2 hz hsz v0 n xs hown ad m c ys hr.1 hcells h1 hnm hby hbase
   exact⟨v',w',h1,h2,h3⟩
 obtain⟨v',w',h1,h2,h3⟩:=key
 have hv:∃A' c',v'=.slice A' (n+m) c':=by
  rcases h2.2 with⟨rfl,h⟩|⟨g,cap,cur,rfl,_⟩
  ·exact⟨none,0,by rw[h]⟩
  ·exact⟨_,_,rfl⟩
 obtain⟨A',c',rfl⟩:=hv
 exact⟨A',c',w',h1,h2,(Below.refl base w).grown h3 hbase (own_geS hown)⟩
def intsL(l:List Int):List Value:=l.map (Value.int .i64)
theorem intsL_get(l:List Int)(j:Nat):(intsL l)[j]?=(l[j]?).map (Value.int .i64):=by unfold intsL;simp
theorem infoInt:(Tryz.prog.info? 3).map (fun i=>(i.zero,i.size,i.bytes))=some (some (.int .i64 0),1,8):=by kernel_rfl
def RdI(w:World)(B:Nat)(A:Option Addr)(l:List Int):Prop:=SrcL w B 1 A l.length (intsL l)
theorem RdI.below{w w':World}{B B':Nat}{A:Option Addr}{l:List Int}(h:RdI w B A l)(hb:Below B' w w')(hB:B≤B'):RdI w' B A l:=SrcL.below h hb hB
theorem RdI.more{w:World}{B B':Nat}{A:Option Addr}{l:List Int}(h:RdI w B A l)(hB:B≤B'):RdI w B' A l:=SrcL.more h hB
theorem RdI.at{w:World}{B:Nat}{A:Option Addr}{l:List Int}(h:RdI w B A l){k:Nat}(hk:k<l.length):∃b o,A=some ⟨b,o,none⟩∧b<B∧∀j,j<l.length→w.cell? ⟨b,o+j,none⟩=some (.int .i64 (l.getD j 0)):=by
 obtain⟨b,o,rfl,hb,hc⟩:=h.2 (by omega)
 refine⟨b,o,rfl,hb,fun j hj=>hc j _ ?_⟩
 rw[intsL_get,List.getElem?_eq_getElem hj,List.getD_eq_getElem?_getD,List.getElem?_eq_getElem hj]
 rfl
theorem RdI.of_own{w:World}{base c n:Nat}{A:Option Addr}{l:List Int}(h:w.ownsRow base 3 1 (.slice A n c) n (intsL l)):n=l.length∧RdI w w.heap.size A l:=by
 have hl:(intsL l).length=n*1:=h.1
 have e:n=l.length:=by simp[intsL]at hl;omega
 subst e
 exact⟨rfl,SrcL.of_own h⟩
def natsI(l:List Nat):List Int:=l.map fun(x:Nat)=>(x:Int)
theorem natsI_length(l:List Nat):(natsI l).length=l.length:=by simp[natsI]
theorem natsI_get(l:List Nat)(j:Nat):(natsI l).getD j 0=((l.getD j 0:Nat):Int):=by
 unfold natsI
 rw[List.getD_eq_getElem?_getD,List.getD_eq_getElem?_getD,List.getElem?_map]
 cases l[j]?<;>rfl
theorem own_cap{w:World}{base n c:Nat}{e:TypeId}{A:Option Addr}{xs:List Value}(h:w.ownsRow base e 1 (.slice A n c) n xs):n≤c∧c≤maxLen∧(A=none→n=0∧c=0):=by
 rcases h.2 with⟨hv,h0⟩|⟨g,cap,cur,hv,_,_,h1,h2,_⟩
 ·injection hv with h3 h4 h5
  exact⟨by omega,by unfold maxLen;omega,fun _=>⟨by omega,h5⟩⟩
 ·injection hv with h3 h4 h5
  exact⟨by omega,by omega,fun h=>by rw[h]at h3;cases h3⟩
theorem run_one(w:World)(base:Nat)(A:Option Addr)(n c:Nat)(xs:List Int)(hown:w.ownsRow base 3 1 (.slice A n c) n (intsL xs))(x:Int)(hn:n≤1000000)(hbase:base≤w.heap.size):
  ∃A' c' w',(Builtin.append_ #[24,24] 24 #[.slice A n c,.slice (some ⟨w.heap.size,0,none⟩) 1 1]).run Tryz.prog (w.alloc (.cells #[.int .i64 x] 3))=.ok (.slice A' (n+1) c') w'∧
   w'.ownsRow base 3 1 (.slice A' (n+1) c') (n+1) (intsL (xs++[x]))∧Below base w w':=by
 have hb1:Below base w (w.alloc (.cells #[.int .i64 x] 3)):=(Below.refl base w).alloc hbase _
 obtain⟨A',c',w',h2,o2,b2⟩:=run_app (z:=.int .i64 0) (by_:=8) Tryz.underlying24 infoInt rfl (by decide) (w.alloc (.cells #[.int .i64 x] 3)) base _ (.slice A n c) n _ (hown.alloc _) _ 1 1 _
  (SrcL.new w 1 1 #[.int .i64 x] 3 rfl) (fun u hu=>by simp at hu;subst hu;rfl) (by unfold maxLen;omega) (by omega) 24 (fun h=>by cases h) (Nat.le_trans hbase hb1.size)
 refine⟨A',c',w',h2,?_,hb1.trans b2⟩
 have e:intsL xs++(#[Value.int .i64 x]:Array Value).toList=intsL (xs++[x]):=by simp[intsL]
 rw[e]at o2
 exact o2
theorem rdI_new(w:World)(l:List Int)(cs:Array Value)(h:cs.toList=intsL l):RdI (w.alloc (.cells cs 3)) (w.alloc (.cells cs 3)).heap.size (some ⟨w.heap.size,0,none⟩) l:=by
 have h1:=SrcL.new w 1 l.length cs 3 (by rw[←Array.length_toList,h];simp[intsL])
 rw[h]at h1
 exact h1
theorem ownsRow_same{w w':World}{base:Nat}{e:TypeId}{size:Nat}{v:Value}{n:Nat}{xs:List Value}(h:w.ownsRow base e size v n xs)(hh:∀g,base≤g→w'.heap[g]?=w.heap[g]?):w'.ownsRow base e size v n xs:=by
 obtain⟨h1,h2⟩:=h
 refine⟨h1,?_⟩
 rcases h2 with h2|⟨g,cap,cur,hv,hg,hb,r⟩
 ·exact .inl h2
 ·exact .inr ⟨g,cap,cur,hv,hg,(hh g hg).trans hb,r⟩
theorem ownsRow_lower{w:World}{base base':Nat}{e:TypeId}{size:Nat}{v:Value}{n:Nat}{xs:List Value}(h:w.ownsRow base e size v n xs)(hb:base'≤base):w.ownsRow base' e size v n xs:=by
 obtain⟨h1,h2⟩:=h
 refine⟨h1,?_⟩
 rcases h2 with h2|⟨g,cap,cur,hv,hg,r⟩
 ·exact .inl h2
 ·exact .inr ⟨g,cap,cur,hv,by omega,r⟩
end Go.Proofs.YtgokdgcmkcmjeaaGreat
namespace Go.Proofs.YtgokdgcmkcmjeaaGreat
open Go.RowKit
def freqN(l:List Int)(j:Nat):Nat:=(l.getD j 0).toNat
def badI(x:Int):Bool:=decide (x<0∨1073741824<x)
def badL(l:List Int)(k:Nat):Bool:=decide (∃j,j<k∧badI (l.getD j 0)=true)
def askE(l:List Int)(most:Int):Int:=
 if most<1∨15<most then 2 else if 320<l.length then 4 else if badL l l.length=true then 2 else if 2^most.toNat<nI (freqN l) l.length then 4 else 0
theorem badL_yes{l:List Int}{k n:Nat}(hk:k<n)(h:badI (l.getD k 0)=true):badL l n=true:=decide_eq_true ⟨k,hk,h⟩
theorem badL_no{l:List Int}{n:Nat}(h:∀j,j<n→badI (l.getD j 0)=false):badL l n=false:=by
 apply decide_eq_false
 rintro⟨j,hj,h2⟩
 rw[h j hj]at h2;cases h2
theorem badI_no{x:Int}(h1:0≤x)(h2:x≤1073741824):badI x=false:=decide_eq_false (by omega)
end Go.Proofs.YtgokdgcmkcmjeaaGreat
namespace Go.Proofs.YtgokdgcmkcmjeaaGreat
open Go.RowKit Go.ChangeShapes Go.WideShapes Go.ChangeAt
theorem row_le{n M:Nat}{w:Nat→Nat}(hM:∀i,i<n→w i≤M):∀k t,t<rowLen n k→rowW n w k t≤2^k*M
 |0,t,h=>by have:=hM t h;simpa[rowW]using this
 |k+1,t,h=>by
  have hbd:=stepI_bd (n:=n) (m:=rowLen n k/2) (w:=w) (p:=prs (rowW n w k)) t (by have:rowLen n (k+1)=n+rowLen n k/2:=rfl;omega)
  have hlen:rowLen n (k+1)=n+rowLen n k/2:=rfl
  have hbd2:=stepI_bd (n:=n) (m:=rowLen n k/2) (w:=w) (p:=prs (rowW n w k)) (t+1) (by omega)
  have hM1:M≤2^(k+1)*M:=Nat.le_mul_of_pos_left _ (Nat.two_pow_pos _)
  have hs:stepI n (rowLen n k/2) w (prs (rowW n w k)) (t+1)=if pickB n (rowLen n k/2) w (prs (rowW n w k)) (stepI n (rowLen n k/2) w (prs (rowW n w k)) t) (t-stepI n (rowLen n k/2) w (prs (rowW n w k)) t)=true then stepI n (rowLen n k/2) w (prs (rowW n w k)) t+1 else stepI n (rowLen n k/2) w (prs (rowW n w k)) t:=rfl
  have er:rowW n w (k+1) t=mrg n (rowLen n k/2) w (prs (rowW n w k)) t:=rfl
  rw[er]
  unfold mrg
  by_cases hc:pickB n (rowLen n k/2) w (prs (rowW n w k)) (stepI n (rowLen n k/2) w (prs (rowW n w k)) t) (t-stepI n (rowLen n k/2) w (prs (rowW n w k)) t)=true
  ·rw[if_pos hc]at hs⊢
   exact Nat.le_trans (hM _ (by omega)) hM1
  ·rw[if_neg hc]at hs⊢
   have h1:=row_le hM k (2*(t-stepI n (rowLen n k/2) w (prs (rowW n w k)) t)) (by omega)
   have h2:=row_le hM k (2*(t-stepI n (rowLen n k/2) w (prs (rowW n w k)) t)+1) (by omega)
   have h3:prs (rowW n w k) (t-stepI n (rowLen n k/2) w (prs (rowW n w k)) t)=rowW n w k (2*(t-stepI n (rowLen n k/2) w (prs (rowW n w k)) t))+rowW n w k (2*(t-stepI n (rowLen n k/2) w (prs (rowW n w k)) t)+1):=rfl
   rw[h3,Nat.pow_succ,Nat.mul_comm (2^k) 2,Nat.mul_assoc]
   omega
end Go.Proofs.YtgokdgcmkcmjeaaGreat
namespace Go.Proofs.YtgokdgcmkcmjeaaGreat
open Go.RowKit
theorem step_app{ops:Array Oper}{o:Oper}{a:Act}{w:World}{K:Act→World→Prop}{Q:Exit→Act→World→Prop}{E:Prop}(hgd:o.guard=none)(s x:Operand)(t tn:TypeId)
  (ho:o.op=.call {callee:=.builtin .append,args:=#[s,x],argTypes:=#[t,tn]}) (vs vx:Value) (hs:a.eval s=vs) (hx:a.eval x=vx)
  (v':Value) (w':World) (hr:(Builtin.append_ #[t,tn] o.type #[vs,vx]).run Tryz.prog w=.ok v' w') (h:K (a.put o.dst v') w'):
  if Region.wanted o (yielded ops a.tmps)=true then Oper.wp Tryz.prog o a w K Q else E:=by
 have hw:Region.wanted o (yielded ops a.tmps)=true:=by simp[Region.wanted,hgd]
 rw[if_pos hw]
 exact Go.Lib.wp_append_run w s x t tn ho vs vx hs hx v' w' hr h
end Go.Proofs.YtgokdgcmkcmjeaaGreat
namespace Go.Proofs.YtgokdgcmkcmjeaaGreat
open Go.RowKit
theorem rowW_made(w:World)(n:Nat):RowW (w.alloc (.cells (madeCells #[.int .u8 0] n) 5)) w.heap.size n (fun _=>0):=by
 refine⟨_,heap_alloc_new w _,fun j hj=>?_⟩
 unfold madeCells
 have e1:j%1=0:=by omega
 simp[hj,e1]
theorem make_u8(n:Nat)(h:n≤1000):∀u:World,(Instr.makeSlice 22 (.int .i64 (n:Int)) (.int .i64 (n:Int))).run Tryz.prog u=
   .ok (.slice (some ⟨u.heap.size,0,none⟩) n n) (u.alloc (.cells (madeCells #[.int .u8 0] n) 5)):=fun u=>by
 obtain⟨i0,hi,hz0,hz1,hz2⟩:=info_parts infoU8
 have h:=run_make (P:=Tryz.prog) u 22 5 i0 (.int .u8 0) Tryz.underlying22 hi hz0 .i64 .i64 (n:Int) (n:Int) (by omega) (Int.le_refl _) (by rw[hz2];omega) (by omega)
 rw[Int.toNat_natCast]at h
 simpa[hz1,Value.cells]using h
theorem rowLen_few{n:Nat}(h2:2≤n)(hn:n≤400)(K:Nat):rowLen n K≤800∧n+rowLen n K/2≤900:=by
 have:=rowLen_le (n:=n) (by omega) K
 omega
end Go.Proofs.YtgokdgcmkcmjeaaGreat
namespace Go.Proofs.YtgokdgcmkcmjeaaGreat
open Go.RowKit
theorem len_none{F:Nat→Nat}{N L i:Nat}(h0:nI F N=0)(hi:i<N):lenB F N L i=0:=by
 unfold lenB
 by_cases h:0<F i
 ·have:=nI_pos hi h;omega
 ·rw[if_pos (by omega)]
theorem len_one{F:Nat→Nat}{N L i:Nat}(h1:nI F N=1)(hi:i<N):lenB F N L i=upd (fun _=>0) ((itemsL F N).getD 0 0) 1 i:=by
 unfold lenB upd
 have hr:=rank_of (F:=F) (n:=N) (r:=0) (by omega)
 by_cases h:0<F i
 ·rw[if_neg (by omega),if_pos h1]
  have h2:=rank_at hi h
  have h3:rankN F N i=0:=by omega
  rw[h3]at h2
  rw[if_pos h2.2.symm]
 ·rw[if_pos (by omega),if_neg]
  intro e
  rw[e]at h;omega
theorem ask_right{l:List Int}{most:Int}(h:askE l most=0):1≤most∧most≤15∧l.length≤320∧(∀j,j<l.length→0≤l.getD j 0∧l.getD j 0≤1073741824)∧nI (freqN l) l.length≤2^most.toNat:=by
 unfold askE at h
 split at h
 ·cases h
 ·split at h
  ·cases h
  ·split at h
   ·cases h
   ·rename_i h1 h2 h3
    split at h
    ·cases h
    ·refine⟨by omega,by omega,by omega,fun j hj=>?_,by omega⟩
     have h4:¬badI (l.getD j 0)=true:=fun hb=>h3 (badL_yes hj hb)
     have h5:=of_decide_eq_false (Bool.not_eq_true _▸h4)
     omega
theorem rowW_one(w:World)(n k:Nat):RowW (w.alloc (.cells ((madeCells #[.int .u8 0] n).setIfInBounds k (.int .u8 1)) 5)) w.heap.size n (upd (fun _=>0) k 1):=by
 refine⟨_,heap_alloc_new w _,fun j hj=>?_⟩
 have e1:j%1=0:=by omega
 simp only[Array.getElem?_setIfInBounds,upd,size_madeCells]
 by_cases e:j=k
 ·subst e;rw[if_pos rfl,if_pos hj,if_pos rfl];rfl
 ·rw[if_neg (fun h=>e h.symm),if_neg e]
  unfold madeCells
  simp[hj,e1]
def lenO(l:List Int)(most:Int):Nat:=if askE l most=0 then l.length else 0
def outL(l:List Int)(most:Int)(j:Nat):Nat:=if askE l most=0 then lenB (freqN l) l.length most.toNat j else 0
theorem outL_lt(l:List Int)(most:Int)(j:Nat):outL l most j<256:=by
 unfold outL
 split
 ·rename_i h
  obtain⟨h1,h2,_⟩:=ask_right h
  have:=lenB_le (freqN l) (n:=l.length) (L:=most.toNat) (by omega) j
  omega
 ·omega
end Go.Proofs.YtgokdgcmkcmjeaaGreat
namespace Go.Proofs.YtgokdgcmkcmjeaaGreat
def pt(m:Nat):Nat:=32768/2^m
theorem pt_mul{a b:Nat}(h:a≤b)(hb:b≤15):pt a=pt b*2^(b-a):=by
 unfold pt
 have e:(32768:Nat)=2^(15-b)*2^b:=by rw[←Nat.pow_add,show 15-b+b=15 by omega]
 have e2:(2:Nat)^b=2^(b-a)*2^a:=by rw[←Nat.pow_add,show b-a+a=b by omega]
 have ha:0<2^a:=Nat.two_pow_pos a
 have hb0:0<2^b:=Nat.two_pow_pos b
 rw[e,Nat.mul_div_cancel _ hb0]
 rw[e2,←Nat.mul_assoc,Nat.mul_div_cancel _ ha]
theorem pt_pos{m:Nat}(h:m≤15):0<pt m:=by
 have:=pt_mul h (Nat.le_refl 15)
 rw[this];exact Nat.mul_pos (by decide) (Nat.two_pow_pos _)
theorem pt_dvd{a b:Nat}(h:a≤b)(hb:b≤15):pt b∣pt a:=⟨2^(b-a),pt_mul h hb⟩
def allN(f:Nat→Nat):Nat→Nat
 |0=>0
 |n+1=>allN f n+if 0<f n then pt (f n)else 0
def usedN(f:Nat→Nat):Nat→Nat
 |0=>0
 |n+1=>usedN f n+if 0<f n then 1 else 0
def inN(f:Nat→Nat)(m:Nat):Nat→Nat
 |0=>0
 |n+1=>inN f m n+if f n=m then pt m else 0
def sumTo(f:Nat→Nat)(n:Nat):Nat→Nat
 |0=>0
 |m+1=>sumTo f n m+inN f (m+1) n
def stN(f:Nat→Nat)(n m i:Nat):Nat:=sumTo f n (m-1)+inN f m i
def codeB(f:Nat→Nat)(n i:Nat):Nat:=if f i=0 then 0 else stN f n (f i) i/pt (f i)
theorem inN_mono(f:Nat→Nat)(m:Nat){a b:Nat}(h:a≤b):inN f m a≤inN f m b:=by
 induction b with
 |zero=>rw[show a=0 by omega];exact Nat.le_refl _
 |succ b ih=>
  rcases Nat.eq_or_lt_of_le h with h|h
  ·subst h;exact Nat.le_refl _
  ·exact Nat.le_trans (ih (by omega)) (Nat.le_add_right _ _)
theorem inN_step{f:Nat→Nat}{m a b:Nat}(h:a<b)(hf:f a=m):inN f m a+pt m≤inN f m b:=by
 have:=inN_mono f m (show a+1≤b by omega)
 simp only[inN,hf,if_true]at this
 exact this
theorem sumTo_mono(f:Nat→Nat)(n:Nat){a b:Nat}(h:a≤b):sumTo f n a≤sumTo f n b:=by
 induction b with
 |zero=>rw[show a=0 by omega];exact Nat.le_refl _
 |succ b ih=>
  rcases Nat.eq_or_lt_of_le h with h|h
  ·subst h;exact Nat.le_refl _
  ·exact Nat.le_trans (ih (by omega)) (Nat.le_add_right _ _)
theorem sumTo_more(f:Nat→Nat)(n:Nat):∀M,sumTo f (n+1) M=sumTo f n M+if 0<f n∧f n≤M then pt (f n)else 0
 |0=>by rw[if_neg (by omega)];rfl
 |M+1=>by
  simp only[sumTo,inN]
  rw[sumTo_more f n M]
  by_cases h1:f n=M+1
  ·rw[if_pos h1,if_neg (by omega),if_pos (by omega),h1];omega
  ·by_cases h2:0<f n∧f n≤M
   ·rw[if_neg h1,if_pos h2,if_pos (by omega)];omega
   ·rw[if_neg h1,if_neg h2,if_neg (by omega)];omega
theorem sumTo_none(f:Nat→Nat):∀M,sumTo f 0 M=0
 |0=>rfl
 |M+1=>by simp only[sumTo,inN];rw[sumTo_none f M]
theorem allN_sum(f:Nat→Nat):∀n,(∀j,j<n→f j≤15)→allN f n=sumTo f n 15
 |0,_=>(sumTo_none f 15).symm
 |n+1,h=>by
  rw[sumTo_more,←allN_sum f n (fun j hj=>h j (by omega))]
  simp only[allN]
  have:=h n (by omega)
  by_cases h1:0<f n
  ·rw[if_pos h1,if_pos ⟨h1,this⟩]
  ·rw[if_neg h1,if_neg (fun g=>h1 g.1)]
theorem st_end{f:Nat→Nat}{n m i:Nat}(hi:i<n)(hf:f i=m)(hm:0<m):stN f n m i+pt m≤sumTo f n m:=by
 obtain⟨k,rfl⟩:∃k,m=k+1:=⟨m-1,by omega⟩
 have:=inN_step hi hf
 unfold stN
 rw[Nat.add_sub_cancel]
 simp only[sumTo];omega
theorem st_all{f:Nat→Nat}{n i:Nat}(hi:i<n)(h:∀j,j<n→f j≤15)(hp:0<f i):stN f n (f i) i+pt (f i)≤allN f n:=by
 rw[allN_sum f n h]
 exact Nat.le_trans (st_end hi rfl hp) (sumTo_mono f n (h i hi))
theorem st_apart{f:Nat→Nat}{n i k:Nat}(hi:i<n)(hpi:0<f i)(h:f i<f k∨f i=f k∧i<k):stN f n (f i) i+pt (f i)≤stN f n (f k) k:=by
 rcases h with h|⟨h,h2⟩
 ·have h1:=st_end hi rfl hpi
  have h2:=sumTo_mono f n (show f i≤f k-1 by omega)
  unfold stN at h1⊢
  omega
 ·have h1:=inN_step (f:=f) h2 rfl
  unfold stN
  rw[←h];omega
theorem inN_dvd(f:Nat→Nat)(m:Nat):∀n,pt m∣inN f m n
 |0=>⟨0,rfl⟩
 |n+1=>by
  simp only[inN]
  refine Nat.dvd_add (inN_dvd f m n) ?_
  split
  ·exact Nat.dvd_refl _
  ·exact⟨0,rfl⟩
theorem sumTo_dvd(f:Nat→Nat)(n:Nat){b:Nat}(hb:b≤15):∀m,m≤b→pt b∣sumTo f n m
 |0,_=>⟨0,rfl⟩
 |m+1,h=>Nat.dvd_add (sumTo_dvd f n hb m (by omega)) (Nat.dvd_trans (pt_dvd h hb) (inN_dvd f (m+1) n))
theorem st_dvd(f:Nat→Nat)(n i:Nat){m:Nat}(hm:m≤15):pt m∣stN f n m i:=
 Nat.dvd_add (sumTo_dvd f n hm (m-1) (by omega)) (inN_dvd f m i)
theorem codeB_st{f:Nat→Nat}{n i:Nat}(hp:0<f i)(h:f i≤15):codeB f n i*pt (f i)=stN f n (f i) i:=by
 unfold codeB
 rw[if_neg (by omega)]
 exact Nat.div_mul_cancel (st_dvd f n i h)
theorem in_cover(f:Nat→Nat)(m:Nat):∀n r,r<inN f m n→∃i,i<n∧f i=m∧inN f m i≤r∧r<inN f m i+pt m
 |0,r,h=>by simp[inN]at h
 |n+1,r,h=>by
  by_cases h1:r<inN f m n
  ·obtain⟨i,hi,h2,h3⟩:=in_cover f m n r h1
   exact⟨i,by omega,h2,h3⟩
  ·simp only[inN]at h
   split at h
   ·rename_i hf
    exact⟨n,by omega,hf,by omega,h⟩
   ·omega
theorem sum_cover(f:Nat→Nat)(n:Nat):∀M r,r<sumTo f n M→∃i,i<n∧0<f i∧f i≤M∧stN f n (f i) i≤r∧r<stN f n (f i) i+pt (f i)
 |0,r,h=>by simp[sumTo]at h
 |M+1,r,h=>by
  by_cases h1:r<sumTo f n M
  ·obtain⟨i,hi,h2,h3,h4⟩:=sum_cover f n M r h1
   exact⟨i,hi,h2,by omega,h4⟩
  ·simp only[sumTo]at h
   obtain⟨i,hi,hf,h2,h3⟩:=in_cover f (M+1) n (r-sumTo f n M) (by omega)
   refine⟨i,hi,by omega,by omega,?_,?_⟩<;>(unfold stN;rw[hf,Nat.add_sub_cancel];omega)
def bigB(f:Nat→Nat)(n:Nat)(most:Int):Bool:=decide (∃j,j<n∧most<(f j:Int))
def endE(all used:Nat):Int:=if 32768<all then 30 else if all=32768∨used=0∨(used=1∧all=16384)then 0 else 31
def checkE(f:Nat→Nat)(n:Nat)(most:Int):Int:=
 if most<1∨15<most then 2 else if 320<n then 4 else if bigB f n most=true then 2 else endE (allN f n) (usedN f n)
theorem bigB_false{f:Nat→Nat}{n:Nat}{most:Int}(h:bigB f n most=false):∀j,j<n→(f j:Int)≤most:=by
 intro j hj
 have:=of_decide_eq_false h
 have h2:¬(most<(f j:Int)):=fun g=>this ⟨j,hj,g⟩
 omega
theorem check_ok{f:Nat→Nat}{n:Nat}{most:Int}(h:checkE f n most=0):
  1≤most∧most≤15∧n≤320∧(∀j,j<n→(f j:Int)≤most)∧allN f n≤32768∧(allN f n=32768∨usedN f n=0∨(usedN f n=1∧allN f n=16384)):=by
 unfold checkE at h
 by_cases h1:most<1∨15<most
 ·rw[if_pos h1]at h;cases h
 ·rw[if_neg h1]at h
  by_cases h2:320<n
  ·rw[if_pos h2]at h;cases h
  ·rw[if_neg h2]at h
   cases h3:bigB f n most with
   |true=>rw[h3,if_pos rfl]at h;cases h
   |false=>
    rw[h3,if_neg (by decide)]at h
    unfold endE at h
    by_cases h4:32768<allN f n
    ·rw[if_pos h4]at h;cases h
    ·rw[if_neg h4]at h
     by_cases h5:allN f n=32768∨usedN f n=0∨(usedN f n=1∧allN f n=16384)
     ·exact⟨by omega,by omega,by omega,bigB_false h3,by omega,h5⟩
     ·rw[if_neg h5]at h;cases h
def beginsB(x lx y ly:Nat):Bool:=decide (0<lx∧lx≤ly∧y/2^(ly-lx)=x)
theorem fits_code{f:Nat→Nat}{n i:Nat}(hi:i<n)(h:∀j,j<n→f j≤15)(ha:allN f n≤32768):codeB f n i<2^f i:=by
 by_cases h0:0<f i
 ·have h1:=st_all hi h h0
  have h2:=codeB_st (n:=n) h0 (h i hi)
  have h3:=pt_mul (h i hi) (Nat.le_refl 15)
  have h4:pt (f i)*2^f i=32768:=by
   rw[h3,show pt 15=1 from rfl,Nat.one_mul,←Nat.pow_add,show 15-f i+f i=15 by have:=h i hi;omega]
  have hp:=pt_pos (h i hi)
  rw[←h2]at h1
  refine Nat.lt_of_mul_lt_mul_right (a:=pt (f i)) ?_
  rw[Nat.mul_comm (2^f i),h4]
  omega
 ·have:f i=0:=by omega
  unfold codeB
  rw[if_pos this,this];decide
theorem begins_apart{f:Nat→Nat}{n i k:Nat}(hi:i<n)(hk:k<n)(h:∀j,j<n→f j≤15)(hik:i≠k):beginsB (codeB f n i) (f i) (codeB f n k) (f k)=false:=by
 unfold beginsB
 apply decide_eq_false
 rintro⟨h0,h1,h2⟩
 have hk0:0<f k:=by omega
 have e1:=codeB_st (n:=n) h0 (h i hi)
 have e2:=codeB_st (n:=n) hk0 (h k hk)
 have hpk:=pt_pos (h k hk)
 have hm:=pt_mul h1 (h k hk)
 have hq:=Nat.div_mul_le_self (codeB f n k) (2^(f k-f i))
 have hq2:=Nat.lt_div_mul_add (Nat.two_pow_pos (f k-f i)) (a:=codeB f n k)
 rw[h2]at hq hq2
 have h3:stN f n (f i) i≤stN f n (f k) k:=by
  rw[←e1,←e2,hm,Nat.mul_comm (pt (f k)),←Nat.mul_assoc]
  exact Nat.mul_le_mul_right _ hq
 have h4:stN f n (f k) k<stN f n (f i) i+pt (f i):=by
  rw[←e1,←e2,hm,Nat.mul_comm (pt (f k)),←Nat.mul_assoc,←Nat.add_mul]
  exact Nat.mul_lt_mul_of_pos_right hq2 hpk
 rcases Nat.lt_trichotomy i k with hlt|he|hlt
 ·have:=st_apart (n:=n) hi h0 (k:=k) (by omega)
  omega
 ·exact hik he
 ·rcases Nat.eq_or_lt_of_le h1 with he|hl
  ·have:=st_apart (n:=n) hk hk0 (k:=i) (.inr ⟨he.symm,hlt⟩)
   omega
  ·have:=st_apart (n:=n) hi h0 (k:=k) (.inl hl)
   omega
theorem used_le(f:Nat→Nat):∀n,usedN f n≤n
 |0=>Nat.le_refl _
 |n+1=>by have:=used_le f n;simp only[usedN];split<;>omega
theorem used_none{f:Nat→Nat}:∀n,usedN f n=0→∀j,j<n→f j=0
 |0,_,j,hj=>by omega
 |n+1,h,j,hj=>by
  simp only[usedN]at h
  have h1:¬0<f n:=fun g=>by rw[if_pos g]at h;omega
  rcases Nat.eq_or_lt_of_le (Nat.le_of_lt_succ hj)with e|e
  ·subst e;omega
  ·exact used_none n (by omega) j e
theorem bigB_mk{f:Nat→Nat}{n:Nat}{most:Int}(h:∀j,j<n→(f j:Int)≤most):bigB f n most=false:=by
 apply decide_eq_false
 rintro⟨j,hj,hl⟩
 have:=h j hj;omega
theorem bigB_yes{f:Nat→Nat}{n k:Nat}{most:Int}(hk:k<n)(h:most<(f k:Int)):bigB f n most=true:=decide_eq_true ⟨k,hk,h⟩
def lenC(f:Nat→Nat)(n:Nat)(most:Int):Nat:=if checkE f n most=0 then n else 0
theorem codeB_lt{f:Nat→Nat}{n:Nat}{most:Int}(h:checkE f n most=0)(j:Nat)(hj:j<n):codeB f n j<4294967296:=by
 obtain⟨_,h15,_,hb,ha,_⟩:=check_ok h
 have:=fits_code hj (fun j hj=>by have:=hb j hj;omega) ha
 have h2:(2:Nat)^f j≤2^15:=Nat.pow_le_pow_right (by omega) (by have:=hb j hj;omega)
 have h3:(2:Nat)^15=32768:=rfl
 omega
def codeX(f:Nat→Nat)(n:Nat)(most:Int)(j:Nat):Nat:=if checkE f n most=0∧j<n then codeB f n j else 0
theorem codeX_in{f:Nat→Nat}{n:Nat}{most:Int}(h:checkE f n most=0)(j:Nat)(hj:j<n):codeX f n most j=codeB f n j:=by
 unfold codeX;rw[if_pos ⟨h,hj⟩]
end Go.Proofs.YtgokdgcmkcmjeaaGreat
namespace Go.Proofs.YtgokdgcmkcmjeaaGreat
open Go.RowKit
def badM(l:List Int)(f:Nat→Nat)(most:Int)(k:Nat):Bool:=decide (∃j,j<k∧(most<(f j:Int)∨(f j=0∧0<l.getD j 0)))
def mayB(l:List Int)(n:Nat)(f:Nat→Nat)(most:Int):Bool:=decide (n=l.length∧badM l f most n=false∧countN 15 f n≤32768)
theorem badM_no{l:List Int}{f:Nat→Nat}{most:Int}{k:Nat}(h:∀j,j<k→¬(most<(f j:Int)∨(f j=0∧0<l.getD j 0))):badM l f most k=false:=decide_eq_false fun⟨j,hj,h2⟩=>h j hj h2
theorem countN_scale{f:Nat→Nat}{L:Nat}(hL:L≤15):∀n,(∀i,i<n→f i≤L)→countN 15 f n=countN L f n*2^(15-L)
 |0,_=>by simp[countN,sums]
 |n+1,h=>by
  have ih:=countN_scale hL n (fun i hi=>h i (by omega))
  have e1:countN 15 f (n+1)=countN 15 f n+if 0<f n then 2^(15-f n)else 0:=rfl
  have e2:countN L f (n+1)=countN L f n+if 0<f n then 2^(L-f n)else 0:=rfl
  have hn:=h n (by omega)
  rw[e1,e2,ih,Nat.add_mul]
  split
  ·rw[←Nat.pow_add,show L-f n+(15-L)=15-f n by omega]
  ·rw[Nat.zero_mul]
theorem allN_count{f:Nat→Nat}:∀n,(∀i,i<n→f i≤15)→allN f n=countN 15 f n
 |0,_=>rfl
 |n+1,h=>by
  have ih:=allN_count n (fun i hi=>h i (by omega))
  have e1:countN 15 f (n+1)=countN 15 f n+if 0<f n then 2^(15-f n)else 0:=rfl
  have hn:=h n (by omega)
  have hp:pt (f n)=2^(15-f n):=by rw[pt_mul hn (Nat.le_refl 15),show pt 15=1 from rfl,Nat.one_mul]
  simp only[allN]
  rw[ih,e1,hp]
theorem usedN_items{F f:Nat→Nat}:∀n,(∀i,i<n→(0<f i↔0<F i))→usedN f n=nI F n
 |0,_=>rfl
 |n+1,h=>by
  have ih:=usedN_items n (fun i hi=>h i (by omega))
  have hn:=h n (by omega)
  have e:nI F (n+1)=nI F n+if 0<F n then 1 else 0:=rfl
  simp only[usedN]
  rw[ih,e]
  by_cases g:0<F n
  ·rw[if_pos g,if_pos (hn.2 g)]
  ·rw[if_neg g,if_neg (fun x=>g (hn.1 x))]
theorem out_may{l:List Int}{most:Int}(h:askE l most=0):mayB l l.length (outL l most) most=true∧checkE (outL l most) l.length most=0∧(∀j,j<l.length→outL l most j=lenB (freqN l) l.length most.toNat j):=by
 obtain⟨h1,h2,h3,h4,h5⟩:=ask_right h
 obtain⟨L,rfl⟩:=Int.eq_ofNat_of_zero_le (show 0≤most by omega)
 rw[Int.toNat_natCast]at h5
 have e:outL l (L:Int)=lenB (freqN l) l.length L:=by funext j;unfold outL;rw[if_pos h,Int.toNat_natCast]
 rw[e]
 have hle:∀i,lenB (freqN l) l.length L i≤L:=fun i=>lenB_le (freqN l) (n:=l.length) (L:=L) (by omega) i
 have hz:∀i,freqN l i=0→lenB (freqN l) l.length L i=0:=fun i hi=>by unfold lenB;rw[if_pos hi]
 have hps:∀i,i<l.length→(0<lenB (freqN l) l.length L i↔0<freqN l i):=fun i hi=>by
  constructor
  ·intro g
   rcases Nat.eq_zero_or_pos (freqN l i)with h0|h0
   ·rw[hz i h0]at g;omega
   ·exact h0
  ·intro g;exact(lenB_bd (F:=freqN l) (by omega) h5 hi g).1
 have hc:=build_count (F:=freqN l) (n:=l.length) (L:=L) (by omega) h5
 have hsc:=countN_scale (f:=lenB (freqN l) l.length L) (L:=L) (by omega) l.length (fun i _=>hle i)
 have hp:(2:Nat)^L*2^(15-L)=32768:=by rw[←Nat.pow_add,show L+(15-L)=15 by omega]
 have hp1:(2:Nat)^(L-1)*2^(15-L)=16384:=by rw[←Nat.pow_add,show L-1+(15-L)=14 by omega]
 have hall:=allN_count (f:=lenB (freqN l) l.length L) l.length (fun i _=>Nat.le_trans (hle i) (by omega))
 have hus:=usedN_items (F:=freqN l) (f:=lenB (freqN l) l.length L) l.length hps
 have hcc:countN 15 (lenB (freqN l) l.length L) l.length=if 2≤nI (freqN l) l.length then 32768 else if nI (freqN l) l.length=1 then 16384 else 0:=by
  rw[hsc,hc]
  split
  ·exact hp
  ·split
   ·exact hp1
   ·exact Nat.zero_mul _
 refine⟨?_,?_,fun j _=>by rw[Int.toNat_natCast]⟩
 ·refine decide_eq_true ⟨rfl,badM_no fun j hj g=>?_,by rw[hcc];split<;>(try split)<;>omega⟩
  have h6:=hle j
  have h7:=hps j hj
  have hf:freqN l j=(l.getD j 0).toNat:=rfl
  rcases g with g|⟨g1,g2⟩
  ·omega
  ·omega
 ·unfold checkE
  rw[if_neg (by omega),if_neg (by omega)]
  have hb:bigB (lenB (freqN l) l.length L) l.length (L:Int)=false:=decide_eq_false fun⟨j,_,hl⟩=>by have:=hle j;omega
  rw[hb,if_neg (by decide),hall,hus,hcc]
  unfold endE
  by_cases g2:2≤nI (freqN l) l.length
  ·rw[if_pos g2,if_neg (by omega),if_pos (.inl rfl)]
  ·rw[if_neg g2]
   by_cases g1:nI (freqN l) l.length=1
   ·rw[if_pos g1,if_neg (by omega),if_pos (.inr (.inr ⟨g1,rfl⟩))]
   ·rw[if_neg g1,if_neg (by omega),if_pos (.inr (.inl (by omega)))]
end Go.Proofs.YtgokdgcmkcmjeaaGreat
namespace Go.Proofs.YtgokdgcmkcmjeaaGreat
def leadN(x:Nat):List Nat→Nat
 |[]=>0
 |y::l=>if y=x then leadN x l+1 else 0
theorem leadN_le(x:Nat):∀l,leadN x l≤l.length
 |[]=>Nat.le_refl _
 |y::l=>by
  have:=leadN_le x l
  simp only[leadN,List.length_cons]
  split<;>omega
theorem leadN_take(x:Nat):∀l k,k≤leadN x l→l.take k=List.replicate k x
 |[],k,h=>by simp[leadN]at h;subst h;rfl
 |y::l,0,_=>rfl
 |y::l,k+1,h=>by
  simp only[leadN]at h
  by_cases e:y=x
  ·rw[if_pos e]at h
   rw[List.take_succ_cons,List.replicate_succ,leadN_take x l k (by omega),e]
  ·rw[if_neg e]at h;omega
def fstR(prev:Option Nat)(x:Nat)(n:Nat):(Int×Int)×Nat:=
 if x=0∧11≤n then((18,(min n 138-11:Nat)),min n 138)
 else if x=0∧3≤n then((17,(n-3:Nat)),n)
 else if x≠0∧prev=some x∧3≤n then((16,(min n 6-3:Nat)),min n 6)
 else((((x:Nat):Int),0),1)
def ofR:Nat→Option Nat→List Nat→List (Int×Int)
 |0,_,_=>[]
 |_+1,_,[]=>[]
 |d+1,prev,x::l=>(fstR prev x (leadN x l+1)).1::ofR d (some x) ((x::l).drop (fstR prev x (leadN x l+1)).2)
def bitsR(s:Int):Nat:=if s=16 then 2 else if s=17 then 3 else if s=18 then 7 else 0
def timesR(s x:Int):Nat:=if s=16∨s=17 then x.toNat+3 else if s=18 then x.toNat+11 else 1
def valR(s:Int)(out:List Nat):Nat:=if s=16 then out.getLast?.getD 0 else if s<16 then s.toNat else 0
def strR(n:Nat):List (Int×Int)→List Nat→Int×List Nat
 |[],out=>if out.length=n then(0,out)else(100,[])
 |(s,x)::rs,out=>if s<0∨18<s∨x<0∨(2^bitsR s:Nat)≤x then(8,[])else
   if(s=16∧out=[])∨n<out.length+timesR s x then(100,[])else strR n rs (out++List.replicate (timesR s x) (valR s out))
theorem fstR_spec(prev:Option Nat)(x n:Nat)(hx:x≤15)(hn:1≤n):1≤(fstR prev x n).2∧(fstR prev x n).2≤n∧timesR (fstR prev x n).1.1 (fstR prev x n).1.2=(fstR prev x n).2∧
  ¬((fstR prev x n).1.1<0∨18<(fstR prev x n).1.1∨(fstR prev x n).1.2<0∨(2^bitsR (fstR prev x n).1.1:Nat)≤(fstR prev x n).1.2)∧
  ((fstR prev x n).1.1=16→prev=some x)∧((fstR prev x n).1.1≠16→(if(fstR prev x n).1.1<16 then(fstR prev x n).1.1.toNat else 0)=x):=by
 unfold fstR
 by_cases h1:x=0∧11≤n
 ·rw[if_pos h1]
  simp only[timesR,bitsR]
  refine⟨by omega,by omega,by simp;omega,by simp;omega,by simp,by simp;omega⟩
 ·rw[if_neg h1]
  by_cases h2:x=0∧3≤n
  ·rw[if_pos h2]
   simp only[timesR,bitsR]
   refine⟨by omega,by omega,by simp;omega,by simp;omega,by simp,by simp;omega⟩
  ·rw[if_neg h2]
   by_cases h3:x≠0∧prev=some x∧3≤n
   ·rw[if_pos h3]
    simp only[timesR,bitsR]
    refine⟨by omega,by omega,by simp;omega,by simp;omega,fun _=>h3.2.1,by simp⟩
   ·rw[if_neg h3]
    simp only[timesR,bitsR]
    refine⟨by omega,by omega,?_,?_,fun h=>by omega,fun _=>?_⟩
    ·rw[if_neg (by omega),if_neg (by omega)]
    ·rw[if_neg (by omega),if_neg (by omega),if_neg (by omega)];simp;omega
    ·rw[if_pos (by omega)];omega
theorem ofR_back(n:Nat):∀d prev l out,l.length≤d→(∀x∈l,x≤15)→prev=out.getLast?→n=out.length+l.length→strR n (ofR d prev l) out=(0,out++l)∧(ofR d prev l).length≤l.length
 |0,prev,l,out,hd,_,_,hn=>by
  have:l=[]:=List.length_eq_zero_iff.1 (by omega)
  subst this
  simp only[ofR,strR]
  rw[if_pos (by simpa using hn.symm)]
  simp
 |d+1,prev,[],out,_,_,_,hn=>by
  simp only[ofR,strR]
  rw[if_pos (by simpa using hn.symm)]
  simp
 |d+1,prev,x::l,out,hd,h15,hp,hn=>by
  have hx:=h15 x List.mem_cons_self
  obtain⟨h1,h2,h3,h4,h5,h6⟩:=fstR_spec prev x (leadN x l+1) hx (by omega)
  simp only[ofR]
  obtain⟨s,hs⟩:∃s,s=(fstR prev x (leadN x l+1)).1.1:=⟨_,rfl⟩
  obtain⟨e,he⟩:∃e,e=(fstR prev x (leadN x l+1)).1.2:=⟨_,rfl⟩
  obtain⟨k,hk⟩:∃k,k=(fstR prev x (leadN x l+1)).2:=⟨_,rfl⟩
  have hpair:(fstR prev x (leadN x l+1)).1=(s,e):=by rw[hs,he]
  rw[←hs,←he,←hk]at h3
  rw[←hs,←he]at h4
  rw[←hs]at h5 h6
  rw[←hk]at h1 h2⊢
  rw[hpair]
  have hll:=leadN_le x l
  have htake:(x::l).take k=List.replicate k x:=leadN_take x (x::l) k (by simp only[leadN,if_true];exact h2)
  have hval:valR s out=x:=by
   unfold valR
   by_cases h16:s=16
   ·rw[if_pos h16,←hp,h5 h16];rfl
   ·rw[if_neg h16];exact h6 h16
  have hne:¬((s=16∧out=[])∨n<out.length+timesR s e):=by
   rw[h3]
   simp only[List.length_cons]at hn
   rintro(⟨a,b⟩|a)
   ·have:=h5 a
    rw[hp,b]at this;cases this
   ·omega
  simp only[strR]
  rw[if_neg h4,if_neg hne,h3,hval,←htake]
  have hlen:((x::l).drop k).length=l.length+1-k:=by simp
  have hlt:((x::l).take k).length=k:=by rw[List.length_take,List.length_cons];omega
  simp only[List.length_cons]at hd hn
  have ih:=ofR_back n d (some x) ((x::l).drop k) (out++(x::l).take k) (by omega) (fun y hy=>h15 y (List.mem_of_mem_drop hy)) (by
   rw[htake]
   obtain⟨j,rfl⟩:∃j,k=j+1:=⟨k-1,by omega⟩
   rw[List.replicate_succ',←List.append_assoc,List.getLast?_append]
   simp) (by rw[List.length_append,hlt,hlen];omega)
  refine⟨?_,?_⟩
  ·rw[ih.1,List.append_assoc,List.take_append_drop]
  ·have:=ih.2
   rw[hlen]at this
   simp only[List.length_cons];omega
end Go.Proofs.YtgokdgcmkcmjeaaGreat
namespace Go.Proofs.YtgokdgcmkcmjeaaGreat
def dropU(f:Nat→Nat)(n a:Nat):List Nat:=((List.range n).map f).drop a
theorem dropU_cons{f:Nat→Nat}{n a:Nat}(h:a<n):dropU f n a=f a::dropU f n (a+1):=by
 unfold dropU
 rw[List.drop_eq_getElem_cons (by simpa using h)]
 simp
theorem dropU_end{f:Nat→Nat}{n a:Nat}(h:n≤a):dropU f n a=[]:=List.drop_eq_nil_of_le (by simpa using h)
theorem dropU_length(f:Nat→Nat)(n a:Nat):(dropU f n a).length=n-a:=by simp[dropU]
theorem dropU_drop(f:Nat→Nat)(n a k:Nat):(dropU f n a).drop k=dropU f n (a+k):=by unfold dropU;rw[List.drop_drop]
def ldsU(f:Nat→Nat)(n a:Nat):Nat:=leadN (f a) (dropU f n (a+1))+1
theorem lead_go{f:Nat→Nat}{n a x:Nat}(h:a<n)(hx:f a=x):leadN x (dropU f n a)=leadN x (dropU f n (a+1))+1:=by
 rw[dropU_cons h];simp only[leadN];rw[if_pos hx]
theorem lead_stop{f:Nat→Nat}{n a x:Nat}(h:n≤a∨f a≠x):leadN x (dropU f n a)=0:=by
 rcases Nat.lt_or_ge a n with g|g
 ·rw[dropU_cons g];simp only[leadN];rw[if_neg (by omega)]
 ·rw[dropU_end g];rfl
theorem lds_le{f:Nat→Nat}{n a:Nat}(h:a<n):1≤ldsU f n a∧a+ldsU f n a≤n:=by
 have:=leadN_le (f a) (dropU f n (a+1))
 rw[dropU_length]at this
 unfold ldsU;omega
theorem lds_same{f:Nat→Nat}{n a:Nat}(h:a<n):∀i,i<ldsU f n a→f (a+i)=f a:=by
 intro i hi
 have h1:=leadN_take (f a) (dropU f n a) (ldsU f n a) (by unfold ldsU;rw[lead_go h rfl];exact Nat.le_refl _)
 have h2:=congrArg (fun l=>l[i]?) h1
 simp only[List.getElem?_take,if_pos hi,List.getElem?_replicate]at h2
 have hl:=(lds_le (f:=f) h).2
 unfold dropU at h2
 rw[List.getElem?_drop]at h2
 simp[show a+i<n by omega]at h2
 exact h2
def prvU(f:Nat→Nat)(a:Nat):Option Nat:=if a=0 then none else some (f (a-1))
def fstU(f:Nat→Nat)(n a:Nat):(Int×Int)×Nat:=fstR (prvU f a) (f a) (ldsU f n a)
theorem ofR_fuel:∀d d' prev l,l.length≤d→l.length≤d'→(∀x∈l,x≤15)→ofR d prev l=ofR d' prev l
 |0,d',prev,l,h,_,_=>by
  have:l=[]:=List.length_eq_zero_iff.1 (by omega)
  subst this
  cases d'<;>rfl
 |d+1,0,prev,l,_,h,_=>by
  have:l=[]:=List.length_eq_zero_iff.1 (by omega)
  subst this;rfl
 |d+1,d'+1,prev,[],_,_,_=>rfl
 |d+1,d'+1,prev,x::l,h1,h2,h15=>by
  simp only[ofR]
  have hs:=fstR_spec prev x (leadN x l+1) (h15 x List.mem_cons_self) (by omega)
  simp only[List.length_cons]at h1 h2
  rw[ofR_fuel d d' (some x) _ (by rw[List.length_drop,List.length_cons];omega) (by rw[List.length_drop,List.length_cons];omega) (fun y hy=>h15 y (List.mem_of_mem_drop hy))]
def ofU(f:Nat→Nat)(n a:Nat):List (Int×Int):=ofR (n-a) (prvU f a) (dropU f n a)
theorem ofU_end{f:Nat→Nat}{n a:Nat}(h:n≤a):ofU f n a=[]:=by unfold ofU;rw[show n-a=0 by omega];rfl
theorem ofU_cons{f:Nat→Nat}{n a:Nat}(h:a<n)(h15:∀i,i<n→f i≤15):ofU f n a=(fstU f n a).1::ofU f n (a+(fstU f n a).2)∧1≤(fstU f n a).2∧a+(fstU f n a).2≤n:=by
 obtain⟨g1,g2,_⟩:=fstR_spec (prvU f a) (f a) (ldsU f n a) (h15 a h) (lds_le (f:=f) h).1
 have hl:=(lds_le (f:=f) h).2
 have e:fstR (prvU f a) (f a) (ldsU f n a)=fstU f n a:=rfl
 rw[e]at g1 g2
 refine⟨?_,g1,by omega⟩
 unfold ofU
 rw[show n-a=(n-(a+1))+1 by omega,dropU_cons h]
 simp only[ofR]
 have e2:fstR (prvU f a) (f a) (leadN (f a) (dropU f n (a+1))+1)=fstU f n a:=rfl
 rw[e2,←dropU_cons h,dropU_drop]
 have hp:prvU f (a+(fstU f n a).2)=some (f a):=by
  unfold prvU
  rw[if_neg (by omega)]
  have:=lds_same (f:=f) h ((fstU f n a).2-1) (by omega)
  rw[show a+(fstU f n a).2-1=a+((fstU f n a).2-1) by omega,this]
 rw[hp,ofR_fuel (n-(a+1)) (n-(a+(fstU f n a).2)) _ _ (by rw[dropU_length];omega) (by rw[dropU_length];omega)]
 intro x hx
 unfold dropU at hx
 have hx:=List.mem_of_mem_drop hx
 rw[List.mem_map]at hx
 obtain⟨i,hi,rfl⟩:=hx
 exact h15 i (List.mem_range.1 hi)
def sqE(f:Nat→Nat)(n:Nat):Int:=if 320<n then 4 else if∀i,i<n→f i≤15 then 0 else 2
def sqV(f:Nat→Nat)(n:Nat):List (Int×Int):=if sqE f n=0 then ofU f n 0 else[]
def bitE(s:Int):Int:=if 0≤s∧s≤18 then 0 else 2
def bitV(s:Int):Int:=if 0≤s∧s≤18 then(bitsR s:Nat)else 0
def strO(l:List (Int×Int))(n:Int):Int×List Nat:=if n<0∨320<n then(2,[])else strR n.toNat l []
end Go.Proofs.YtgokdgcmkcmjeaaGreat
namespace Go.Proofs.YtgokdgcmkcmjeaaGreat
def atN(T:Nat→Nat)(n:Nat):Nat→Nat
 |0=>0
 |k+1=>if T k≤n then k else atN T n k
theorem atN_spec{T:Nat→Nat}{n:Nat}(h0:T 0≤n):∀k,0<k→atN T n k<k∧T (atN T n k)≤n∧∀j,atN T n k<j→j<k→n<T j
 |0,h=>absurd h (by omega)
 |k+1,_=>by
  simp only[atN]
  by_cases h:T k≤n
  ·rw[if_pos h];exact⟨by omega,h,fun j h1 h2=>by omega⟩
  ·rw[if_neg h]
   rcases Nat.eq_zero_or_pos k with e|e
   ·subst e;exact absurd h0 h
   ·obtain⟨h1,h2,h3⟩:=atN_spec h0 k e
    refine⟨by omega,h2,fun j g1 g2=>?_⟩
    rcases Nat.eq_or_lt_of_le (Nat.le_of_lt_succ g2)with e2|e2
    ·subst e2;omega
    ·exact h3 j g1 e2
theorem atN_one{T:Nat→Nat}{n i k:Nat}(hk:i<k)(h1:T i≤n)(h2:∀j,i<j→j<k→n<T j):atN T n k=i:=by
 induction k with
 |zero=>omega
 |succ k ih=>
  simp only[atN]
  rcases Nat.eq_or_lt_of_le (Nat.le_of_lt_succ hk)with e|e
  ·subst e;rw[if_pos h1]
  ·rw[if_neg (by have:=h2 k e (by omega);omega)]
   exact ih e (fun j g1 g2=>h2 j g1 (by omega))
structure Rises (T X:Nat→Nat) (N hi:Nat):Prop where
 pos:0<N
 up:∀i,i+1<N→T i<T (i+1)∧T (i+1)≤T i+2^X i
 last:T (N-1)≤hi∧hi<T (N-1)+2^X (N-1)
theorem Rises.mono{T X:Nat→Nat}{N hi:Nat}(h:Rises T X N hi){i:Nat}:∀d,i+d<N→T i+d≤T (i+d)
 |0,_=>Nat.le_refl _
 |d+1,hd=>by
  have:=h.mono (i:=i) d (by omega)
  have:=(h.up (i+d) (by omega)).1
  rw[Nat.add_assoc]at this
  omega
theorem Rises.lt{T X:Nat→Nat}{N hi:Nat}(h:Rises T X N hi){i j:Nat}(hij:i<j)(hj:j<N):T i<T j:=by
 have:=h.mono (i:=i) (j-i) (by omega)
 rw[show i+(j-i)=j by omega]at this
 omega
theorem Rises.at{T X:Nat→Nat}{N hi n:Nat}(h:Rises T X N hi)(h0:T 0≤n)(hn:n≤hi):atN T n N<N∧T (atN T n N)≤n∧n-T (atN T n N)<2^X (atN T n N):=by
 obtain⟨h1,h2,h3⟩:=atN_spec h0 N h.pos
 refine⟨h1,h2,?_⟩
 rcases Nat.lt_or_ge (atN T n N+1) N with g|g
 ·have:=h3 (atN T n N+1) (by omega) g
  have:=(h.up _ g).2
  omega
 ·have e:atN T n N=N-1:=by omega
  have:=h.last.2
  rw[←e]at this
  omega
theorem Rises.back{T X:Nat→Nat}{N hi i x:Nat}(h:Rises T X N hi)(hi1:i<N)(hx:∀j,i+1=j→j<N→T i+x<T j):atN T (T i+x) N=i:=by
 refine atN_one hi1 (by omega) fun j h1 h2=>?_
 rcases Nat.eq_or_lt_of_le (show i+1≤j by omega)with e|e
 ·exact hx j e h2
 ·have:=hx (i+1) rfl (by omega)
  have:=h.lt e h2
  omega
def longT(i:Nat):Nat:=[3,4,5,6,7,8,9,10,11,13,15,17,19,23,27,31,35,43,51,59,67,83,99,115,131,163,195,227,258].getD i 0
def longX(i:Nat):Nat:=[0,0,0,0,0,0,0,0,1,1,1,1,2,2,2,2,3,3,3,3,4,4,4,4,5,5,5,5,0].getD i 0
def farT(i:Nat):Nat:=[1,2,3,4,5,7,9,13,17,25,33,49,65,97,129,193,257,385,513,769,1025,1537,2049,3073,4097,6145,8193,12289,16385,24577].getD i 0
def farX(i:Nat):Nat:=[0,0,0,0,1,1,2,2,3,3,4,4,5,5,6,6,7,7,8,8,9,9,10,10,11,11,12,12,13,13].getD i 0
theorem all_lt{P:Nat→Prop}[DecidablePred P]{n:Nat}(h:((List.range n).all fun i=>decide (P i))=true):∀i,i<n→P i:=fun i hi=>by
 have:=List.all_eq_true.1 h i (List.mem_range.2 hi)
 exact of_decide_eq_true this
theorem longs_rise:Rises longT longX 29 258 where
 pos:=by omega
 up:=fun i hi=>all_lt (P:=fun i=>longT i<longT (i+1)∧longT (i+1)≤longT i+2^longX i) (n:=28) (by decide+kernel) i (by omega)
 last:=by decide
theorem fars_rise:Rises farT farX 30 32768 where
 pos:=by omega
 up:=fun i hi=>all_lt (P:=fun i=>farT i<farT (i+1)∧farT (i+1)≤farT i+2^farX i) (n:=29) (by decide+kernel) i (by omega)
 last:=by decide
theorem long_next:∀i,i<28→i≠27→longT (i+1)=longT i+2^longX i:=fun i hi hn=>
 all_lt (P:=fun i=>i≠27→longT (i+1)=longT i+2^longX i) (n:=28) (by decide+kernel) i hi hn
theorem far_next:∀i,i<29→farT (i+1)=farT i+2^farX i:=fun i hi=>all_lt (P:=fun i=>farT (i+1)=farT i+2^farX i) (n:=29) (by decide+kernel) i hi
theorem long_back{i x:Nat}(hi:i<29)(hx:x<2^longX i)(hn:¬(i=27∧x=31)):atN longT (longT i+x) 29=i∧3≤longT i+x∧longT i+x≤258:=by
 have h3:3≤longT i∧longT i≤258:=all_lt (P:=fun i=>3≤longT i∧longT i≤258) (n:=29) (by decide+kernel) i hi
 have hnx:∀j,i+1=j→j<29→longT i+x<longT j:=fun j e hj=>by
  subst e
  by_cases h27:i=27
  ·subst h27
   have e1:longT 27=227:=rfl
   have e2:longT (27+1)=258:=rfl
   have e3:(2:Nat)^longX 27=32:=rfl
   omega
  ·rw[long_next i (by omega) h27];omega
 refine⟨longs_rise.back hi hnx,by omega,?_⟩
 rcases Nat.lt_or_ge (i+1) 29 with g|g
 ·have h1:=hnx (i+1) rfl g
  have h2:longT (i+1)≤258:=(all_lt (P:=fun i=>3≤longT i∧longT i≤258) (n:=29) (by decide+kernel) (i+1) g).2
  omega
 ·obtain rfl:i=28:=by omega
  have e1:longT 28=258:=rfl
  have e3:(2:Nat)^longX 28=1:=rfl
  omega
theorem far_back{i x:Nat}(hi:i<30)(hx:x<2^farX i):atN farT (farT i+x) 30=i∧1≤farT i+x∧farT i+x≤32768:=by
 have h3:1≤farT i∧farT i≤32768:=all_lt (P:=fun i=>1≤farT i∧farT i≤32768) (n:=30) (by decide+kernel) i hi
 have hnx:∀j,i+1=j→j<30→farT i+x<farT j:=fun j e hj=>by
  subst e
  rw[far_next i (by omega)];omega
 refine⟨fars_rise.back hi hnx,by omega,?_⟩
 rcases Nat.lt_or_ge (i+1) 30 with g|g
 ·have h1:=hnx (i+1) rfl g
  have h2:farT (i+1)≤32768:=(all_lt (P:=fun i=>1≤farT i∧farT i≤32768) (n:=30) (by decide+kernel) (i+1) g).2
  omega
 ·obtain rfl:i=29:=by omega
  have e1:farT 29=24577:=rfl
  have e3:(2:Nat)^farX 29=8192:=rfl
  omega
end Go.Proofs.YtgokdgcmkcmjeaaGreat
namespace Go.Proofs.YtgokdgcmkcmjeaaGreat
def lgI(n:Int):Nat:=atN longT n.toNat 29
def lgE(n:Int):Int:=if 3≤n∧n≤258 then 0 else 2
def lgS(n:Int):Int:=if 3≤n∧n≤258 then((257+lgI n:Nat):Int)else 0
def lgB(n:Int):Int:=if 3≤n∧n≤258 then((longX (lgI n):Nat):Int)else 0
def lgX(n:Int):Int:=if 3≤n∧n≤258 then((n.toNat-longT (lgI n):Nat):Int)else 0
def lbE(s:Int):Int:=if 257≤s∧s≤285 then 0 else 90
def lbV(s:Int):Int:=if 257≤s∧s≤285 then((longX (s-257).toNat:Nat):Int)else 0
def loE(s x:Int):Int:=if 257≤s∧s≤285 then(if x<0∨((2^longX (s-257).toNat:Nat):Int)≤x then 2 else if s=284∧x=31 then 90 else 0)else 90
def loV(s x:Int):Int:=if loE s x=0 then((longT (s-257).toNat:Nat):Int)+x else 0
def frI(n:Int):Nat:=atN farT n.toNat 30
def frE(n:Int):Int:=if 1≤n∧n≤32768 then 0 else 2
def frS(n:Int):Int:=if 1≤n∧n≤32768 then((frI n:Nat):Int)else 0
def frB(n:Int):Int:=if 1≤n∧n≤32768 then((farX (frI n):Nat):Int)else 0
def frX(n:Int):Int:=if 1≤n∧n≤32768 then((n.toNat-farT (frI n):Nat):Int)else 0
def fbE(s:Int):Int:=if 0≤s∧s≤29 then 0 else 90
def fbV(s:Int):Int:=if 0≤s∧s≤29 then((farX s.toNat:Nat):Int)else 0
def foE(s x:Int):Int:=if 0≤s∧s≤29 then(if x<0∨((2^farX s.toNat:Nat):Int)≤x then 2 else 0)else 90
def foV(s x:Int):Int:=if foE s x=0 then((farT s.toNat:Nat):Int)+x else 0
theorem longX_le(i:Nat):longX i≤5:=by
 rcases Nat.lt_or_ge i 29 with h|h
 ·exact all_lt (P:=fun i=>longX i≤5) (n:=29) (by decide+kernel) i h
 ·unfold longX;rw[List.getD_eq_getElem?_getD,List.getElem?_eq_none (by simpa using h)];exact Nat.zero_le _
theorem farX_le(i:Nat):farX i≤13:=by
 rcases Nat.lt_or_ge i 30 with h|h
 ·exact all_lt (P:=fun i=>farX i≤13) (n:=30) (by decide+kernel) i h
 ·unfold farX;rw[List.getD_eq_getElem?_getD,List.getElem?_eq_none (by simpa using h)];exact Nat.zero_le _
theorem lg_ok{n:Int}(h:lgE n=0):3≤n∧n≤258:=by
 unfold lgE at h;split at h<;>omega
theorem fr_ok{n:Int}(h:frE n=0):1≤n∧n≤32768:=by
 unfold frE at h;split at h<;>omega
theorem lo_ok{s x:Int}(h:loE s x=0):257≤s∧s≤285∧0≤x∧x<((2^longX (s-257).toNat:Nat):Int)∧¬(s=284∧x=31):=by
 unfold loE at h
 split at h
 ·split at h
  ·omega
  ·split at h<;>omega
 ·omega
theorem fo_ok{s x:Int}(h:foE s x=0):0≤s∧s≤29∧0≤x∧x<((2^farX s.toNat:Nat):Int):=by
 unfold foE at h
 split at h
 ·split at h<;>omega
 ·omega
theorem long_there{n:Int}(h:lgE n=0):loE (lgS n) (lgX n)=0∧loV (lgS n) (lgX n)=n∧lbE (lgS n)=0∧lbV (lgS n)=lgB n∧0≤lgX n∧lgX n<((2^(lgB n).toNat:Nat):Int)∧0≤lgB n∧lgB n≤5:=by
 have hn:=lg_ok h
 obtain⟨m,rfl⟩:=Int.eq_ofNat_of_zero_le (show 0≤n by omega)
 obtain⟨h1,h2,h3⟩:=longs_rise.at (n:=m) (show 3≤m by omega) (by omega)
 have eI:lgI (m:Int)=atN longT m 29:=rfl
 obtain⟨i,hi⟩:∃i,i=atN longT m 29:=⟨_,rfl⟩
 rw[←hi]at h1 h2 h3 eI
 have eS:lgS (m:Int)=((257+i:Nat):Int):=by unfold lgS;rw[if_pos hn,eI]
 have eB:lgB (m:Int)=((longX i:Nat):Int):=by unfold lgB;rw[if_pos hn,eI]
 have eX:lgX (m:Int)=((m-longT i:Nat):Int):=by unfold lgX;rw[if_pos hn,eI];rfl
 have et:(lgS (m:Int)-257).toNat=i:=by rw[eS];omega
 have hx31:¬(lgS (m:Int)=284∧lgX (m:Int)=31):=by
  rw[eS,eX]
  rintro⟨a,b⟩
  have h27:i=27:=by omega
  subst h27
  have e1:longT 27=227:=rfl
  have hm:m=258:=by omega
  subst hm
  exact absurd hi (by decide)
 have hE:loE (lgS (m:Int)) (lgX (m:Int))=0:=by
  unfold loE
  rw[et,if_pos ⟨by rw[eS];omega,by rw[eS];omega⟩,if_neg (by rw[eX];omega),if_neg hx31]
 have hxl:=longX_le i
 refine⟨hE,?_,?_,?_,by rw[eX];omega,by rw[eX,eB,Int.toNat_natCast];omega,by rw[eB];omega,by rw[eB];omega⟩
 ·unfold loV;rw[if_pos hE,et,eX];omega
 ·unfold lbE;rw[if_pos ⟨by rw[eS];omega,by rw[eS];omega⟩]
 ·unfold lbV;rw[if_pos ⟨by rw[eS];omega,by rw[eS];omega⟩,et,eB]
theorem far_there{n:Int}(h:frE n=0):foE (frS n) (frX n)=0∧foV (frS n) (frX n)=n∧fbE (frS n)=0∧fbV (frS n)=frB n∧0≤frX n∧frX n<((2^(frB n).toNat:Nat):Int)∧0≤frB n∧frB n≤13:=by
 have hn:=fr_ok h
 obtain⟨m,rfl⟩:=Int.eq_ofNat_of_zero_le (show 0≤n by omega)
 obtain⟨h1,h2,h3⟩:=fars_rise.at (n:=m) (show 1≤m by omega) (by omega)
 have eI:frI (m:Int)=atN farT m 30:=rfl
 obtain⟨i,hi⟩:∃i,i=atN farT m 30:=⟨_,rfl⟩
 rw[←hi]at h1 h2 h3 eI
 have eS:frS (m:Int)=((i:Nat):Int):=by unfold frS;rw[if_pos hn,eI]
 have eB:frB (m:Int)=((farX i:Nat):Int):=by unfold frB;rw[if_pos hn,eI]
 have eX:frX (m:Int)=((m-farT i:Nat):Int):=by unfold frX;rw[if_pos hn,eI];rfl
 have et:(frS (m:Int)).toNat=i:=by rw[eS];omega
 have hE:foE (frS (m:Int)) (frX (m:Int))=0:=by
  unfold foE
  rw[et,if_pos ⟨by rw[eS];omega,by rw[eS];omega⟩,if_neg (by rw[eX];omega)]
 have hxl:=farX_le i
 refine⟨hE,?_,?_,?_,by rw[eX];omega,by rw[eX,eB,Int.toNat_natCast];omega,by rw[eB];omega,by rw[eB];omega⟩
 ·unfold foV;rw[if_pos hE,et,eX];omega
 ·unfold fbE;rw[if_pos ⟨by rw[eS];omega,by rw[eS];omega⟩]
 ·unfold fbV;rw[if_pos ⟨by rw[eS];omega,by rw[eS];omega⟩,et,eB]
theorem long_here{s x:Int}(h:loE s x=0):lgE (loV s x)=0∧lgS (loV s x)=s∧lgX (loV s x)=x:=by
 obtain⟨h1,h2,h3,h4,h5⟩:=lo_ok h
 obtain⟨y,rfl⟩:=Int.eq_ofNat_of_zero_le h3
 obtain⟨i,hi⟩:∃i,i=(s-257).toNat:=⟨_,rfl⟩
 have es:s=((257+i:Nat):Int):=by omega
 have eV:loV s (y:Int)=((longT i+y:Nat):Int):=by unfold loV;rw[if_pos h,←hi];omega
 rw[←hi]at h4
 obtain⟨g1,g2,g3⟩:=long_back (i:=i) (x:=y) (by omega) (by omega) (by omega)
 rw[eV]
 have hk:3≤((longT i+y:Nat):Int)∧((longT i+y:Nat):Int)≤258:=by omega
 have eI:lgI ((longT i+y:Nat):Int)=i:=g1
 refine⟨by unfold lgE;rw[if_pos hk],by unfold lgS;rw[if_pos hk,eI];exact es.symm,?_⟩
 unfold lgX
 rw[if_pos hk,eI,Int.toNat_natCast];omega
theorem far_here{s x:Int}(h:foE s x=0):frE (foV s x)=0∧frS (foV s x)=s∧frX (foV s x)=x:=by
 obtain⟨h1,h2,h3,h4⟩:=fo_ok h
 obtain⟨y,rfl⟩:=Int.eq_ofNat_of_zero_le h3
 obtain⟨i,rfl⟩:=Int.eq_ofNat_of_zero_le h1
 rw[Int.toNat_natCast]at h4
 have eV:foV (i:Int) (y:Int)=((farT i+y:Nat):Int):=by unfold foV;rw[if_pos h,Int.toNat_natCast];omega
 obtain⟨g1,g2,g3⟩:=far_back (i:=i) (x:=y) (by omega) (by omega)
 rw[eV]
 have hk:1≤((farT i+y:Nat):Int)∧((farT i+y:Nat):Int)≤32768:=by omega
 have eI:frI ((farT i+y:Nat):Int)=i:=g1
 refine⟨by unfold frE;rw[if_pos hk],by unfold frS;rw[if_pos hk,eI],?_⟩
 unfold frX
 rw[if_pos hk,eI,Int.toNat_natCast];omega
end Go.Proofs.YtgokdgcmkcmjeaaGreat
namespace Go.Proofs.YtgokdgcmkcmjeaaGreat
structure Tok where
 x:Nat
 d:Int
 n:Int
def mayT(t:Tok):Bool:=decide ((t.n=0∧t.d=0)∨(t.n≠0∧t.x=0∧3≤t.n∧t.n≤258∧1≤t.d∧t.d≤32768))
def copL(all:List Nat)(d n:Nat):List Nat:=(List.range n).map fun i=>all.getD (all.length-d+i%d) 0
def stpT(all:List Nat)(t:Tok):List Nat:=if t.n=0 then all++[t.x]else all++copL all t.d.toNat t.n.toNat
def lenT(t:Tok):Nat:=if t.n=0 then 1 else t.n.toNat
def plyR(A:Nat):List Tok→List Nat→Int×List Nat
 |[],all=>(0,all.drop A)
 |t::l,all=>if mayT t=false then(8,[])else if(all.length:Int)<t.d then(60,[])else if 131072<all.length-A+lenT t then(4,[])else plyR A l (stpT all t)
theorem len_stp(all:List Nat)(t:Tok):(stpT all t).length=all.length+lenT t:=by
 unfold stpT lenT copL
 split<;>simp
def preL(f:Nat→Nat)(a:Nat):List Nat:=(List.range a).map f
theorem preL_length(f:Nat→Nat)(a:Nat):(preL f a).length=a:=by simp[preL]
theorem preL_get(f:Nat→Nat){a i:Nat}(h:i<a):(preL f a).getD i 0=f i:=by simp[preL,h]
theorem lenT_le{t:Tok}(h:mayT t=true):lenT t≤258:=by
 have:=of_decide_eq_true h
 unfold lenT
 split<;>omega
end Go.Proofs.YtgokdgcmkcmjeaaGreat
