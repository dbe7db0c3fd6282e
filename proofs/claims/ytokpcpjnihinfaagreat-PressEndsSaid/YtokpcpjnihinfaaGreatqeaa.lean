/-
  Words and walks.
-/
import Derived.Test.YtokpcpjnihinfaaGreatRows
import Derived.WalkKit
import Derived.ProofKit
import Derived.Lib.Hide
import Derived.Handy
import Derived.OpenShut
import Derived.ShutString
import Derived.ChangeOld
import Derived.Maps.AppendAt
import Derived.Laws.BytesArg
import Derived.Laws.Rows
import Derived.Deep.AppendLies
import Derived.Deep.QuietTactic
import Derived.BigQuiet
import Derived.OneCell
import Derived.Deep.RegionLaw
import Derived.Lib.AppendZeros
import Derived.BigRegion
import Derived.Deep.MidRow
import Derived.Laws.StructEq
set_option maxRecDepth 100000
set_option maxHeartbeats 16000000
namespace Go.Proofs.YtokpcpjnihinfaaGreat
open Value renaming int → ae, slice → af
open IntKind renaming i64 → aj
open Obj renaming cells → ak
open Ending renaming returned → ao
open Go renaming World → aq, Addr → au, Calls → aw, Value → ax, Program → az, Oper → aA, TypeId → aB, heap_alloc_new → aG, cell_of_row → aH, madeCells → aJ, heap_setCell_same → aN, frozen_of_row → aO
open Go.RowKit renaming intOf → aP, Below → aR
open _root_.Go.Proofs.Tryz
open Go.RowKit
theorem fX{p:Prop}(h:p):Hid p:=Lib.hid h
theorem fY{α:Sort _}(a:α):∃x,x=a:=⟨a,rfl⟩
theorem fZ{n:Nat}:n<=n:=Nat.le_refl n
theorem gC{n:Nat}{w:World}:Below n w w:=Below.refl n w
open Go.ChangeShapes Go.WideShapes Go.ChangeAt
open Go.ChangeMaps (open_string shut_string)
theorem own:ownKnob prog.godebug=none:=by kernel_rfl
theorem Qg:laidOutB prog=true:=by kernel_rfl
theorem n9(W a:Nat)(ha:a<2^W):(BitVec.ofInt W (a:Int)).toNat=a:=by
 rw[BitVec.ofInt_natCast,BitVec.toNat_ofNat];exact Nat.mod_eq_of_lt ha
theorem Qi(a b:Nat)(ha:a<4294967296)(hb:b<4294967296):bits .and .u32 (a:Int) (b:Int)=((a&&&b:Nat):Int):=by
 have hx:a&&&b<2^32:=Nat.and_lt_two_pow _ (by omega);show IntKind.u32.wrap ((BitVec.ofInt 32 (a:Int)&&&BitVec.ofInt 32 (b:Int)).toNat:Int)=_
 rw[BitVec.toNat_and,n9 32 a (by omega),n9 32 b (by omega),IntKind.wrap_u32];omega
theorem Qj(a b:Nat)(ha:a<4294967296)(hb:b<4294967296):bits .or .u32 (a:Int) (b:Int)=((a|||b:Nat):Int):=by
 have hx:a|||b<2^32:=Nat.or_lt_two_pow (by omega) (by omega)
 show IntKind.u32.wrap ((BitVec.ofInt 32 (a:Int)|||BitVec.ofInt 32 (b:Int)).toNat:Int)=_
 rw[BitVec.toNat_or,n9 32 a (by omega),n9 32 b (by omega),IntKind.wrap_u32];omega
theorem Ql(a b:Nat)(ha:a<256)(hb:b<256):bits .or .u8 (a:Int) (b:Int)=((a|||b:Nat):Int):=by
 have hx:a|||b<2^8:=Nat.or_lt_two_pow (by omega) (by omega)
 show IntKind.u8.wrap ((BitVec.ofInt 8 (a:Int)|||BitVec.ofInt 8 (b:Int)).toNat:Int)=_
 rw[BitVec.toNat_or,n9 8 a (by omega),n9 8 b (by omega),IntKind.wrap_u8];omega
theorem Qk(a b:Nat)(ha:a<18446744073709551616)(hb:b<18446744073709551616):bits .and .u64 (a:Int) (b:Int)=((a&&&b:Nat):Int):=by
 have hx:a&&&b<2^64:=Nat.and_lt_two_pow _ (by omega);show IntKind.u64.wrap ((BitVec.ofInt 64 (a:Int)&&&BitVec.ofInt 64 (b:Int)).toNat:Int)=_
 rw[BitVec.toNat_and,n9 64 a (by omega),n9 64 b (by omega),IntKind.wrap_u64];omega
theorem FG(a:Nat)(ha:a<4294967296):bits .and .u32 (a:Int) 1=((a%2:Nat):Int):=by
 have:=Qi a 1 ha (by omega);rw[Nat.and_one_is_mod]at this;exact this
theorem wm(a b i:Nat)(hb:b<2^i)(ha:2^i∣a):a|||b=a+b:=by
 obtain⟨c,rfl⟩:=ha;exact(Nat.two_pow_add_eq_or_of_lt hb c).symm
theorem FH(a b i:Nat)(ha:a<4294967296)(h:b<4294967296)(hb:b<2^i)(hd:2^i∣a):bits .or .u32 (a:Int) (b:Int)=((a+b:Nat):Int):=by
 rw[Qj a b ha h,wm a b i hb hd]
theorem wu{k:Nat}(h:k<=32):2^k<=4294967296:=by
 have:=Nat.pow_le_pow_right (n:=2) (by omega) h;simpa using this
theorem wy{x k:Nat}(hx:x<2^k)(h:k<=32):x<4294967296:=Nat.lt_of_lt_of_le hx (wu h)
theorem wD(v k:Nat):((v:Int)/2^k)=((v/2^k:Nat):Int):=by
 rw[Int.natCast_ediv,Int.natCast_pow];rfl
theorem zF(v k:Nat):((v:Int)*2^k)=((v*2^k:Nat):Int):=by
 rw[Int.natCast_mul,Int.natCast_pow];rfl
theorem zG(v k:Nat)(hv:v<4294967296):bits .and .u32 ((v:Int)/2^k) 1=((v/2^k%2:Nat):Int):=by
 rw[wD,FG];exact Nat.lt_of_le_of_lt (Nat.div_le_self _ _) hv
theorem sZ{a b:Bool}(h:a=b):Ending.returned (.bool a)=ao (.bool b):=by rw[h]
theorem nj{k:IntKind}{a b:Int}(h:a=b):Ending.returned (ae k a)=ao (ae k b):=by rw[h]
theorem kJ{k:IntKind}{a b:Int}(h:a=b):Value.int k a=ae k b:=by rw[h]
theorem FI{k l:IntKind}{a b c d:Int}(h:a=b)(g:c=d):Ending.returned (.tuple #[ae k a,ae l c])=ao (.tuple #[ae k b,ae l d]):=by rw[h,g]
def gE(w:aq)(B:Nat)(A:Option au)(n:Nat)(f:Nat->Nat):Prop:=
 (∀j,f j<256)/\(0<n->∃b o,A=some ⟨b,o,none⟩/\b<B/\∀j,j<n->w.cell? ⟨b,o+j,none⟩=some (ae .u8 (f j:Int)))
theorem gE.below{w w':aq}{B B' n:Nat}{A:Option au}{f:Nat->Nat}(h:gE w B A n f)(hb:aR B' w w')(hB:B<=B'):gE w' B A n f:=by
 refine⟨h.1,fun hn=>?_⟩;obtain⟨b,o,rfl,ad,hc⟩:=h.2 hn;exact⟨b,o,rfl,ad,fun j hj=>by rw[hb.cell (p:=⟨b,o+j,none⟩) (by show b<B';omega)];exact hc j hj⟩
theorem gE.more{w:aq}{B B' n:Nat}{A:Option au}{f:Nat->Nat}(h:gE w B A n f)(hB:B<=B'):gE w B' A n f:=by
 refine⟨h.1,fun hn=>?_⟩;obtain⟨b,o,rfl,ad,hc⟩:=h.2 hn;exact⟨b,o,rfl,by omega,hc⟩
def gD(n:Nat)(f:Nat->Nat):List ax:=(List.range n).map fun j=>ae .u8 (f j:Int)
theorem lH(n:Nat)(f:Nat->Nat)(j:Nat):(gD n f)[j]?=if j<n then some (ae .u8 (f j:Int))else none:=by
 unfold gD;by_cases h:j<n<;>simp[h]
theorem sc(n:Nat)(f:Nat->Nat):∀u∈gD n f,u.oneCell'=true:=by
 intro u hu;simp only[gD,List.mem_map]at hu;obtain⟨j,_,rfl⟩:=hu;rfl
theorem gE.gR{w:aq}{base n c:Nat}{A:Option au}{e:aB}{f:Nat->Nat}(h:w.ownsRow base e 1 (af A n c) n (gD n f))(hf:∀j,f j<256):gE w w.heap.size A n f:=by
 refine⟨hf,fun hn=>?_⟩;obtain⟨g,cap,hv,_,ad⟩:=h.form hn;injection hv with hA _ _
 subst hA;refine⟨g,0,rfl,ad,fun j hj=>?_⟩;have:=h.cells (g:=g) rfl j (ae .u8 (f j:Int)) (by rw[lH,if_pos hj]);have e:(⟨g,0,none⟩:au).add j=⟨g,0+j,none⟩:=by unfold Addr.add;split<;>simp_all
 rw[e]at this;exact this
theorem oM:(prog.info? 5).map (fun i=>(i.zero,i.size,i.bytes))=some (some (ae .u8 0),1,1):=by kernel_rfl
theorem qS(w:aq)(B:Nat)(A:Option au)(n c:Nat)(f:Nat->Nat)(hr:gE w B A n f)(hn:n<=1000000000000)(ty:aB)(hA:A=none->c=0):
  ∃A' c' w',(Builtin.append_ #[22,22] ty #[af none 0 0,af A n c]).run prog w=.ok (af A' n c') w'/\
   w'.ownsRow w.heap.size 5 1 (af A' n c') n (gD n f)/\aR w.heap.size w w'/\gE w' w'.heap.size A' n f:=by
 obtain⟨i0,hi,av,aS,aT⟩:=info_parts oM
 have key:∃v' w',(Builtin.append_ #[22,22] ty #[af none 0 0,af A n c]).run prog w=.ok v' w'/\
   w'.ownsRow w.heap.size 5 1 v' n (gD n f)/\w.grownBy w' none:=by
  rcases A with _|ad
  ·have h0:n=0:=by
    rcases Nat.eq_zero_or_pos n with h|h
    ·exact h
    ·obtain⟨b,o,h,_⟩:=hr.2 h;cases h
   subst h0;obtain rfl:=hA rfl;exact⟨_,w,run_append_owned_none (P:=prog) (w:=w) w.heap.size 22 ty 5 i0 1 underlying22 hi (af none 0 0) 0 [] (World.ownsRow_nil w _ 5 1),World.ownsRow_nil w _ 5 1,World.grownBy.refl _ _⟩
  ·have al:∀j u,(gD n f)[j]?=some u->w.cell? (ad.add j)=some u:=by
    intro j u hu;rw[lH]at hu;by_cases hj:j<n
    ·rw[if_pos hj]at hu;injection hu with hu
     subst hu;obtain⟨b,o,h,_,hc⟩:=hr.2 (by omega);injection h with h
     subst h;have e:(⟨b,o,none⟩:au).add j=⟨b,o+j,none⟩:=by unfold Addr.add;split<;>simp_all
     rw[e];exact hc j hj
    ·rw[if_neg hj]at hu;cases hu
   obtain⟨v',w',h1,h2,h3,_,_⟩:=run_append_own_at (P:=prog) w w.heap.size 22 ty 5 i0 (ae .u8 0) 1 1 underlying22 hi av aS aT rfl (by decide)
    (af none 0 0) 0 [] (World.ownsRow_nil w _ 5 1) ad n c (gD n f) (by simp[gD]) al (sc n f) (by unfold maxLen;omega) (by omega) fZ
   rw[Nat.zero_add,List.nil_append]at h2;exact⟨v',w',h1,h2,h3⟩
 obtain⟨v',w',h1,h2,h3⟩:=key
 have hv:∃A' c',v'=af A' n c':=by
  rcases h2.2 with⟨rfl,rfl⟩|⟨g,cap,cur,rfl,_⟩
  ·exact⟨_,_,rfl⟩
  ·exact⟨_,_,rfl⟩
 obtain⟨A',c',rfl⟩:=hv
 exact⟨A',c',w',h1,h2,⟨h3.os,h3.tape,h3.output,h3.size,fun k hk=>h3.block k hk (by simp)⟩,gE.gR h2 hr.1⟩
def cat(f:Nat->Nat)(n:Nat)(g:Nat->Nat)(j:Nat):Nat:=if j<n then f j else g (j-n)
theorem zH{f g:Nat->Nat}{n:Nat}(hf:∀j,f j<256)(hg:∀j,g j<256)(j:Nat):cat f n g j<256:=by
 unfold cat;split
 ·exact hf _
 ·exact hg _
theorem zI(f g:Nat->Nat)(n m:Nat):gD n f++gD m g=gD (n+m) (cat f n g):=by
 apply List.ext_getElem?;intro j;rw[List.getElem?_append];have hl:(gD n f).length=n:=by simp[gD]
 rw[hl,lH,lH,lH];unfold cat;by_cases h1:j<n
 ·rw[if_pos h1,if_pos h1,if_pos (by omega),if_pos h1]
 ·rw[if_neg h1,if_neg h1];by_cases h2:j-n<m
  ·rw[if_pos h2,if_pos (by omega)]
  ·rw[if_neg h2,if_neg (by omega)]
theorem zJ{w:aq}{base n:Nat}{e:aB}{v:ax}{xs:List ax}(h:w.ownsRow base e 1 v n xs):∀k,v.ownBlock=some k->base<=k:=by
 intro k hk;rcases h.2 with⟨rfl,_⟩|⟨g,cap,cur,rfl,hg,_⟩
 ·simp[Value.ownBlock]at hk
 ·simp[Value.ownBlock]at hk;omega
theorem sd(w:aq)(base B:Nat)(v0:ax)(n:Nat)(f:Nat->Nat)(al:w.ownsRow base 5 1 v0 n (gD n f))(A:Option au)(m c:Nat)(g:Nat->Nat)(hr:gE w B A m g)(aW:n+m<=1000000000000)(ty:aB)
  (hA:A=none->c=0) (av:base<=w.heap.size):
  ∃A' c' w',(Builtin.append_ #[22,22] ty #[v0,af A m c]).run prog w=.ok (af A' (n+m) c') w'/\
   w'.ownsRow base 5 1 (af A' (n+m) c') (n+m) (gD (n+m) (cat f n g))/\aR base w w':=by
 obtain⟨i0,hi,aT,aU,aV⟩:=info_parts oM
 have key:∃v' w',(Builtin.append_ #[22,22] ty #[v0,af A m c]).run prog w=.ok v' w'/\
   w'.ownsRow base 5 1 v' (n+m) (gD (n+m) (cat f n g))/\w.grownBy w' v0.ownBlock:=by
  rcases A with _|ad
  ·have h0:m=0:=by
    rcases Nat.eq_zero_or_pos m with h|h
    ·exact h
    ·obtain⟨b,o,h,_⟩:=hr.2 h;cases h
   subst h0;obtain rfl:=hA rfl;refine⟨v0,w,run_append_owned_none (P:=prog) (w:=w) base 22 ty 5 i0 1 underlying22 hi v0 n _ al,?_,World.grownBy.refl _ _⟩;rw[<-zI];simpa[gD]using al
  ·have aS:∀j u,(gD m g)[j]?=some u->w.cell? (ad.add j)=some u:=by
    intro j u hu;rw[lH]at hu;by_cases hj:j<m
    ·rw[if_pos hj]at hu;injection hu with hu
     subst hu;obtain⟨b,o,h,_,hc⟩:=hr.2 (by omega);injection h with h
     subst h;have e:(⟨b,o,none⟩:au).add j=⟨b,o+j,none⟩:=by unfold Addr.add;split<;>simp_all
     rw[e];exact hc j hj
    ·rw[if_neg hj]at hu;cases hu
   obtain⟨v',w',h1,h2,h3,_,_⟩:=run_append_own_at (P:=prog) w base 22 ty 5 i0 (ae .u8 0) 1 1 underlying22 hi aT aU aV rfl (by decide)
    v0 n _ al ad m c (gD m g) (by simp[gD]) aS (sc m g) (by unfold maxLen;omega) (by omega) av
   rw[zI]at h2;exact⟨v',w',h1,h2,h3⟩
 obtain⟨v',w',h1,h2,h3⟩:=key
 have hv:∃A' c',v'=af A' (n+m) c':=by
  rcases h2.2 with⟨rfl,h⟩|⟨g,cap,cur,rfl,_⟩
  ·exact⟨none,0,by rw[h]⟩
  ·exact⟨_,_,rfl⟩
 obtain⟨A',c',rfl⟩:=hv
 exact⟨A',c',w',h1,h2,(Below.refl base w).grown h3 av (zJ al)⟩
theorem wpList_append_run{P:az}{w:aq}{ops:Array aA}{rest:List aA}{o:aA}{a:Act}{Q:Exit->Act->aq->Prop}(al:o.guard=none)(s x:Operand)(t:aB)
  (ho:o.op=.call {callee:=.builtin .append,args:=#[s,x],argTypes:=#[t,t]}) (v u v':ax) (w':aq) (hs:a.eval s=v) (hx:a.eval x=u)
  (ad:(Builtin.append_ #[t,t] o.type #[v,u]).run P w=.ok v' w') (h:wpList P ops Q rest (a.put o.dst v') w'):wpList P ops Q (o::rest) a w:=by
 refine wpList_plain al fun K hK=>?_
 unfold Oper.wp
 simp[execOp,ho,resolve,invoke,builtin,hs,hx,ad,Result.andThen]
 exact hK _ _ h
def ll(n:Nat)(f:Nat->Nat):ByteArray:=strOfNums ((List.range n).map fun j=>(f j:Int))
theorem FJ(f:Nat->Nat):ll 0 f=ByteArray.empty:=rfl
theorem od{w:aq}{B:Nat}{A:Option au}{n:Nat}{f:Nat->Nat}(hr:gE w B A n f)(c:Nat):
  (convert 22 9 (af A n c)).run prog w=.ok (.string (ll n f)) w:=by
 rcases Nat.eq_zero_or_pos n with h0|h0
 ·subst h0;rcases A with _|⟨b,o,s⟩
  ·rw[FJ];exact run_convert_bytes_nil w 22 5 underlying22 underlying5 0 c 9 underlying9
  ·rw[run_convert_bytes_string w 22 9 5 _ 0 c underlying22 underlying5 underlying9,run_bytesToString w _ 0 c [] (by simpa using run_loadCells_list (P:=prog) w ⟨b,o,s⟩ [] (by simp))];rfl
 ·obtain⟨b,o,rfl,_,hc⟩:=hr.2 h0;exact run_convert_bytes_arg w 22 5 underlying22 underlying5 b o n c _ (by simp) (fun i hi=>by rw[hc i hi];simp[List.getD,hi]) 9 underlying9
theorem FK{H:Type}{enc:aB×ax->H}{W:aq}{base:Nat}{sp:Nat->Bool}{hd:Bool}{a:Option au}{len cap:Nat}{d:DataW H}{p:List MemPlace}
  (h:∃fuel,DataW.trod enc prog W base sp hd fuel 22 (Value.slice a len cap).cells.toList=some (d,p)):
  ∃f,gE W W.heap.size a len f/\(a=none->cap=0)/\len<=cap/\cap<=maxLen:=by
 obtain⟨fuel,hf⟩:=h
 rcases open_ints underlying22 underlying5 (by kernel_rfl) hf with⟨ad,_⟩|⟨x,l,c,zs,ad,_,hl,hm,hz,_,al,aT⟩
 ·simp[Value.cells]at ad;obtain⟨rfl,rfl,rfl⟩:=ad;exact⟨fun _=>0,⟨fun _=>by show 0<256;omega,fun h=>by omega⟩,fun _=>rfl,Nat.le_refl _,by unfold maxLen;omega⟩
 ·simp[Value.cells]at ad;obtain⟨rfl,rfl,rfl⟩:=ad;have aS:∀j,0<=zs.getD j 0/\zs.getD j 0<256:=by
   intro j;rcases Nat.lt_or_ge j zs.length with hj|hj
   ·have:=aT (zs.getD j 0) (by simp[List.getD,hj]);simp[Lit.wf,IntKind.min,IntKind.max,IntKind.signed,IntKind.bits]at this;simp[List.getD,hj];simp[hj]at this;omega
   ·simp[List.getD,List.getElem?_eq_none hj]
  refine⟨fun j=>(zs.getD j 0).toNat,⟨fun j=>by have:=aS j;show(zs.getD j 0).toNat<256;omega,fun hn=>?_⟩,(fun h=>by cases h),hl,hm⟩;have aV:len<=zs.length:=by rw[hz];split<;>omega
  obtain⟨b,off,spot⟩:=x;have h0:=al 0 (by omega);have av:spot=none:=by simpa[Addr.add]using World.cell?_spot h0
  subst av;have aU:b<W.heap.size:=by
   rcases Nat.lt_or_ge b W.heap.size with h|h
   ·exact h
   ·simp[Addr.add,World.cell?,Array.getElem?_eq_none h]at h0
  refine⟨b,off,rfl,aU,fun j hj=>?_⟩;have hb:=aS j;have h1:=al j (by omega);have e:(⟨b,off,none⟩:au).add j=⟨b,off+j,none⟩:=by unfold Addr.add;split<;>simp_all
  rw[e]at h1;rw[h1,Int.toNat_of_nonneg hb.1]
theorem wE{B:Nat}{W w1:aq}(hb:aR B W w1):(∀b o,b<B->w1.cell? ⟨b,o,none⟩=W.cell? ⟨b,o,none⟩)/\(∀b o,b<B->w1.frozen? ⟨b,o,none⟩=W.frozen? ⟨b,o,none⟩):=
 ⟨fun b o h=>hb.cell (p:=⟨b,o,none⟩) h,fun b o h=>hb.frozen (p:=⟨b,o,none⟩) h⟩
def Row(w:aq)(g L:Nat)(f:Nat->Nat):Prop:=w.heap[g]?=some (ak (gD L f).toArray 5 (0,0))
def gL(f:Nat->Nat)(i x:Nat):Nat->Nat:=fun j=>if j=i then x else f j
theorem Row.cell{w:aq}{g L:Nat}{f:Nat->Nat}(h:Row w g L f){j:Nat}(hj:j<L):w.cell? ⟨g,j,none⟩=some (ae .u8 (f j:Int)):=by
 rw[aH w g j _ 5 (0,0) h];simp[gD,hj]
theorem Row.frozen{w:aq}{g L:Nat}{f:Nat->Nat}(h:Row w g L f)(j:Nat):w.frozen? ⟨g,j,none⟩=false:=by
 unfold Row at h;simp[World.frozen?,h]
theorem Row.lt{w:aq}{g L:Nat}{f:Nat->Nat}(h:Row w g L f):g<w.heap.size:=(Array.getElem?_eq_some_iff.1 h).1
theorem Row.set{w:aq}{g L:Nat}{f:Nat->Nat}(h:Row w g L f)(i x:Nat):Row (w.setCell ⟨g,i,none⟩ (ae .u8 (x:Int))) g L (gL f i x):=by
 unfold Row at h⊢;simp only[World.setCell,Array.getElem?_modify,h];simp;apply List.ext_getElem?;intro j;simp only[List.getElem?_set,lH,gL];have hl:(gD L f).length=L:=by simp[gD]
 by_cases e:i=j
 ·subst e;by_cases h:i<L<;>simp[h,hl]
 ·have e':¬j=i:=fun h=>e h.symm
  simp[e,e']
theorem Row.other{w:aq}{g L:Nat}{f:Nat->Nat}(h:Row w g L f){p:au}(hp:g≠p.block)(u:ax):Row (w.setCell p u) g L f:=(Below.heap_setCell w p u g hp).trans h
theorem Row.alloc{w:aq}{g L:Nat}{f:Nat->Nat}(h:Row w g L f)(o:Obj):Row (w.alloc o) g L f:=(Below.heap_alloc w o g h.lt).trans h
theorem Row.rd{w:aq}{g L:Nat}{f:Nat->Nat}(h:Row w g L f)(hf:∀j,f j<256):gE w w.heap.size (some ⟨g,0,none⟩) L f:=
 ⟨hf,fun _=>⟨g,0,rfl,h.lt,fun j hj=>by rw[Nat.zero_add];exact h.cell hj⟩⟩
def iJ(w:aq)(g n:Nat)(f:Nat->Nat):Prop:=∃cur:Array ax,w.heap[g]?=some (ak cur 5 (0,0))/\∀j,j<n->cur[j]?=some (ae .u8 (f j:Int))
theorem iJ.lt{w:aq}{g n:Nat}{f:Nat->Nat}(h:iJ w g n f):g<w.heap.size:=by
 obtain⟨cur,h1,_⟩:=h;exact(Array.getElem?_eq_some_iff.1 h1).1
theorem iJ.cell{w:aq}{g n:Nat}{f:Nat->Nat}(h:iJ w g n f){j:Nat}(hj:j<n):w.cell? ⟨g,j,none⟩=some (ae .u8 (f j:Int)):=by
 obtain⟨cur,h1,h2⟩:=h;rw[aH w g j _ _ (0,0) h1];exact h2 j hj
theorem iJ.frozen{w:aq}{g n:Nat}{f:Nat->Nat}(h:iJ w g n f)(j:Nat):w.frozen? ⟨g,j,none⟩=false:=by
 obtain⟨cur,h1,_⟩:=h;exact aO w g j _ _ h1
theorem iJ.set{w:aq}{g n:Nat}{f:Nat->Nat}(h:iJ w g n f)(i x:Nat):iJ (w.setCell ⟨g,i,none⟩ (ae .u8 (x:Int))) g n (gL f i x):=by
 obtain⟨cur,h1,h2⟩:=h;refine⟨cur.setIfInBounds i (ae .u8 (x:Int)),aN w g i cur _ _ h1,fun j hj=>?_⟩;rw[Array.getElem?_setIfInBounds,gL];have hs:j<cur.size:=by
  rcases Nat.lt_or_ge j cur.size with h|h
  ·exact h
  ·have:=h2 j hj;rw[Array.getElem?_eq_none h]at this;cases this
 by_cases e:i=j
 ·subst e;simp[hs]
 ·have e':¬j=i:=fun h=>e h.symm
  simp[e,e',h2 j hj]
theorem iJ.other{w:aq}{g n:Nat}{f:Nat->Nat}(h:iJ w g n f){p:au}(hp:g≠p.block)(u:ax):iJ (w.setCell p u) g n f:=by
 obtain⟨cur,h1,h2⟩:=h;exact⟨cur,(Below.heap_setCell w p u g hp).trans h1,h2⟩
theorem iJ.below{w w':aq}{g n B:Nat}{f:Nat->Nat}(h:iJ w g n f)(hb:aR B w w')(hg:g<B):iJ w' g n f:=by
 obtain⟨cur,h1,h2⟩:=h;exact⟨cur,(hb.block g hg).trans h1,h2⟩
theorem iJ.rd{w:aq}{g n:Nat}{f:Nat->Nat}(h:iJ w g n f)(hf:∀j,f j<256):gE w w.heap.size (some ⟨g,0,none⟩) n f:=
 ⟨hf,fun _=>⟨g,0,rfl,h.lt,fun j hj=>by rw[Nat.zero_add];exact h.cell hj⟩⟩
theorem iJ.ext{w:aq}{g n:Nat}{f f':Nat->Nat}(h:iJ w g n f)(e:∀j,j<n->f j=f' j):iJ w g n f':=by
 obtain⟨cur,h1,h2⟩:=h;exact⟨cur,h1,fun j hj=>by rw[h2 j hj,e j hj]⟩
def jI(n m:Nat)(w p:Nat->Nat)(i k:Nat):Bool:=decide (m<=k\/(i<n/\w i<=p k))
def Ps(n m:Nat)(w p:Nat->Nat):Nat->Nat
 |0=>0
 |t+1=>if jI n m w p (Ps n m w p t) (t-Ps n m w p t)=true then Ps n m w p t+1 else Ps n m w p t
def mA(n m:Nat)(w p:Nat->Nat)(t:Nat):Nat:=
 if jI n m w p (Ps n m w p t) (t-Ps n m w p t)=true then w (Ps n m w p t)else p (t-Ps n m w p t)
def sm(g:Nat->Nat):Nat->Nat
 |0=>0
 |t+1=>sm g t+g t
def qm(n:Nat)(w:Nat->Nat):Prop:=∀i j,i<=j->j<n->w i<=w j
section
variable {n m:Nat} {w p:Nat->Nat}
theorem pO:∀t,t<=n+m->Ps n m w p t<=n/\t-Ps n m w p t<=m/\Ps n m w p t<=t
 |0,_=>⟨Nat.zero_le _,Nat.zero_le _,Nat.le_refl _⟩
 |t+1,h=>by
  have ih:=pO t (by omega);simp only[Ps];by_cases hc:jI n m w p (Ps n m w p t) (t-Ps n m w p t)=true
  ·rw[if_pos hc];have:=of_decide_eq_true hc;omega
  ·rw[if_neg hc];have:=of_decide_eq_false (Bool.not_eq_true _▸hc);omega
theorem zL(hw:qm n w):∀t,t<=n+m->∀j,j<t-Ps n m w p t->∀i,Ps n m w p t<=i->i<n->p j<w i
 |0,_,j,hj,_,_,_=>absurd hj (by omega)
 |t+1,h,j,hj,i,hi,ad=>by
  have ih:=zL hw t (by omega);have al:=pO (n:=n) (m:=m) (w:=w) (p:=p) t (by omega);simp only[Ps]at hj hi;by_cases hc:jI n m w p (Ps n m w p t) (t-Ps n m w p t)=true
  ·rw[if_pos hc]at hj hi;exact ih j (by omega) i (by omega) ad
  ·rw[if_neg hc]at hj hi;by_cases e:j=t-Ps n m w p t
   ·have h2:=of_decide_eq_false (Bool.not_eq_true _▸hc);have h3:=hw (Ps n m w p t) i hi ad;have h4:¬(w (Ps n m w p t)<=p (t-Ps n m w p t)):=fun g=>h2 (.inr ⟨by omega,g⟩)
    rw[e];omega
   ·exact ih j (by omega) i hi ad
end
def iw(r:Nat->Nat)(j:Nat):Nat:=r (2*j)+r (2*j+1)
def gH(n:Nat):Nat->Nat
 |0=>n
 |k+1=>n+gH n k/2
def hH(n:Nat)(w:Nat->Nat):Nat->Nat->Nat
 |0=>w
 |k+1=>mA n (gH n k/2) w (iw (hH n w k))
def Pu(n:Nat)(w:Nat->Nat):Nat->Nat->Nat
 |0,t=>t
 |k+1,t=>Ps n (gH n k/2) w (iw (hH n w k)) t
def PJ(n:Nat)(w:Nat->Nat):Nat->Nat->Nat->Nat
 |0,t,i=>if i<t then 1 else 0
 |k+1,t,i=>(if i<Pu n w (k+1) t then 1 else 0)+PJ n w k (2*(t-Pu n w (k+1) t)) i
theorem zM(r:Nat->Nat):∀b,sm (iw r) b=sm r (2*b)
 |0=>rfl
 |b+1=>by
  rw[show 2*(b+1)=2*b+1+1 by omega];simp only[sm];rw[zM r b];unfold iw;omega
def Qh(c:Nat->Bool):Nat->Nat
 |0=>0
 |n+1=>Qh c n+if c n=true then 1 else 0
def qT(L:Nat)(m:Nat->Nat):Nat->Nat
 |0=>0
 |n+1=>qT L m n+2^(L-m n)
theorem wF{n:Nat}{w:Nat->Nat}:∀k t,t<=gH n k->Pu n w k t<=n/\Pu n w k t<=t
 |0,t,h=>⟨h,Nat.le_refl _⟩
 |k+1,t,h=>by
  have:=pO (n:=n) (m:=gH n k/2) (w:=w) (p:=iw (hH n w k)) t h;exact⟨this.1,this.2.2⟩
theorem se{n:Nat}{w:Nat->Nat}{k t:Nat}(h:t<=gH n (k+1)):2*(t-Pu n w (k+1) t)<=gH n k:=by
 have h2:t-Pu n w (k+1) t<=gH n k/2:=(pO (n:=n) (m:=gH n k/2) (w:=w) (p:=iw (hH n w k)) t h).2.1;omega
theorem qU(n:Nat)(w:Nat->Nat):∀k t i,PJ n w k t i<=k+1
 |0,t,i=>by simp only[PJ];split<;>omega
 |k+1,t,i=>by
  have:=qU n w k (2*(t-Pu n w (k+1) t)) i;simp only[PJ];split<;>omega
theorem wG{n m:Nat}{w p:Nat->Nat}:∀t i,i<Ps n m w p t->∃q,q<t/\mA n m w p q=w i
 |0,i,h=>by simp[Ps]at h
 |t+1,i,h=>by
  simp only[Ps]at h;by_cases hc:jI n m w p (Ps n m w p t) (t-Ps n m w p t)=true
  ·rw[if_pos hc]at h;rcases Nat.eq_or_lt_of_le (Nat.le_of_lt_succ h)with e|e
   ·exact⟨t,by omega,by unfold mA;rw[if_pos hc,e]⟩
   ·obtain⟨q,hq,h2⟩:=wG t i e;exact⟨q,by omega,h2⟩
  ·rw[if_neg hc]at h;obtain⟨q,hq,h2⟩:=wG t i h;exact⟨q,by omega,h2⟩
theorem FM{n:Nat}{w:Nat->Nat}:∀k t i,i<Pu n w k t->∃q,q<t/\hH n w k q=w i
 |0,_,i,h=>⟨i,h,rfl⟩
 |_+1,t,i,h=>wG t i h
theorem wH{n:Nat}{w:Nat->Nat}(hw:qm n w){k t:Nat}(h:t<=gH n (k+1)):Pu n w k (2*(t-Pu n w (k+1) t))<=Pu n w (k+1) t:=by
 have h1:=wF (w:=w) k _ (se (w:=w) h);by_cases g:Pu n w k (2*(t-Pu n w (k+1) t))<=Pu n w (k+1) t
 ·exact g
 ·exfalso;obtain⟨q,hq,he⟩:=FM (n:=n) (w:=w) k (2*(t-Pu n w (k+1) t)) (Pu n w (k+1) t) (by omega);have h2:=zL (m:=gH n k/2) (p:=iw (hH n w k)) hw t h (q/2) (by show q/2<t-Pu n w (k+1) t;omega) (Pu n w (k+1) t) fZ (by omega);have h3:hH n w k q<=iw (hH n w k) (q/2):=by
   unfold iw;rcases Nat.mod_two_eq_zero_or_one q with e|e
   ·rw[show 2*(q/2)=q by omega];omega
   ·rw[show 2*(q/2)+1=q by omega];omega
  omega
theorem zN{n:Nat}{w:Nat->Nat}(hw:qm n w):∀k t i,t<=gH n k->Pu n w k t<=i->PJ n w k t i=0
 |0,t,i,_,h=>by simp only[PJ];rw[if_neg (by simp only[Pu]at h;omega)]
 |k+1,t,i,ht,h=>by
  have h1:=wH hw ht;have:=zN hw k _ i (se (w:=w) ht) (Nat.le_trans h1 h);simp only[PJ];rw[this,if_neg (by omega)]
def P4(n:Nat)(w:Nat->Nat):Nat->Nat->Nat->Nat
 |0,t,i=>if i<t then 1 else 0
 |k+1,t,i=>2^(k+1)*(if i<Pu n w (k+1) t then 1 else 0)+P4 n w k (2*(t-Pu n w (k+1) t)) i
theorem zO{n:Nat}{w:Nat->Nat}(hw:qm n w):∀k t i,t<=gH n k->P4 n w k t i+2^(k+1-PJ n w k t i)=2^(k+1)
 |0,t,i,h=>by
  simp only[P4,PJ];by_cases g:i<t
  ·rw[if_pos g]
  ·rw[if_neg g]
 |k+1,t,i,h=>by
  have ih:=zO hw k _ i (se (w:=w) h);have hl:=qU n w k (2*(t-Pu n w (k+1) t)) i;simp only[P4,PJ];by_cases g:i<Pu n w (k+1) t
  ·rw[if_pos g,Nat.mul_one,show k+1+1-(1+PJ n w k (2*(t-Pu n w (k+1) t)) i)=k+1-PJ n w k (2*(t-Pu n w (k+1) t)) i by omega];have e:(2:Nat)^(k+1+1)=2^(k+1)*2:=Nat.pow_succ _ _;omega
  ·have h0:=zN hw k _ i (se (w:=w) h) (Nat.le_trans (wH hw h) (by omega));rw[if_neg g];rw[h0]at ih⊢;have e2:(2:Nat)^(k+1-0)=2^(k+1):=rfl;have e3:(2:Nat)^(k+1+1-(0+0))=2^(k+1+1):=rfl;rw[e3];omega
def PH(c:Nat->Nat):Nat->Nat
 |0=>0
 |n+1=>PH c n+c n
theorem zP(a b:Nat->Nat):∀n,PH (fun i=>a i+b i) n=PH a n+PH b n
 |0=>rfl
 |n+1=>by simp only[PH];rw[zP a b n];omega
theorem wI(x t:Nat):∀n,PH (fun i=>x*(if i<t then 1 else 0)) n=x*min t n
 |0=>by simp[PH]
 |n+1=>by
  simp only[PH];rw[wI x t n];by_cases h:n<t
  ·rw[if_pos h,Nat.mul_one,show min t n=n by omega,show min t (n+1)=n+1 by omega,Nat.mul_add,Nat.mul_one]
  ·rw[if_neg h,show min t n=t by omega,show min t (n+1)=t by omega];omega
theorem zQ{n:Nat}{w:Nat->Nat}:∀k t,t<=gH n k->PH (P4 n w k t) n=t*2^k
 |0,t,h=>by
  have e:P4 n w 0 t=fun i=>1*(if i<t then 1 else 0):=by funext i;simp only[P4];omega
  rw[e,wI,Nat.one_mul,show min t n=t from Nat.min_eq_left h,Nat.pow_zero,Nat.mul_one]
 |k+1,t,h=>by
  have e:P4 n w (k+1) t=fun i=>2^(k+1)*(if i<Pu n w (k+1) t then 1 else 0)+P4 n w k (2*(t-Pu n w (k+1) t)) i:=rfl
  have hb:=wF (w:=w) (k+1) t h;rw[e,zP,wI,zQ k _ (se (w:=w) h),Nat.min_eq_left hb.1];have e2:(2:Nat)^(k+1)=2^k*2:=Nat.pow_succ _ _;obtain⟨r,hr⟩:∃r,t=Pu n w (k+1) t+r:=⟨t-Pu n w (k+1) t,by omega⟩;have e3:t-Pu n w (k+1) t=r:=by omega
  rw[e3];conv=>rhs;rw[hr]
  rw[e2,Nat.add_mul,Nat.mul_comm (2^k*2),Nat.mul_comm 2 r,Nat.mul_assoc r 2,Nat.mul_comm 2 (2^k)]
theorem zR(L:Nat)(c d:Nat->Nat):∀n,(∀i,i<n->d i+2^(L-c i)=2^L)->PH d n+qT L c n=n*2^L
 |0,_=>by simp[PH,qT]
 |n+1,h=>by
  have ih:=zR L c d n (fun i hi=>h i (by omega));have h1:=h n (by omega);simp only[PH,qT];rw[Nat.add_mul,Nat.one_mul];omega
theorem wJ{n:Nat}(hn:1<=n):∀k,gH n k<=2*n-1
 |0=>by simp only[gH];omega
 |k+1=>by have:=wJ hn k;simp only[gH];omega
theorem zT{n:Nat}:∀k,2*n*2^k+1<=gH n k*2^k+n+2^k
 |0=>by simp only[gH,Nat.pow_zero,Nat.mul_one];omega
 |k+1=>by
  have ih:=zT (n:=n) k;simp only[gH];have e2:(2:Nat)^(k+1)=2^k*2:=Nat.pow_succ _ _;have h3:gH n k<=2*(gH n k/2)+1:=by omega
  have h4:=Nat.mul_le_mul_right (2^k) h3;rw[Nat.add_mul,Nat.one_mul,Nat.mul_assoc,Nat.mul_comm 2]at h4;rw[e2,Nat.add_mul,<-Nat.mul_assoc,<-Nat.mul_assoc,<-Nat.mul_assoc];have e5:2*n*2^k=n*2^k*2:=by rw[Nat.mul_assoc,Nat.mul_comm 2]
  rw[e5]at ih⊢;omega
theorem s8{n L:Nat}(hL:0<L)(hn:n<=2^L):2*n-2<=gH n (L-1):=by
 have h:=zT (n:=n) (L-1);obtain⟨K,rfl⟩:∃K,L=K+1:=⟨L-1,by omega⟩;rw[Nat.add_sub_cancel]at h⊢;have e2:(2:Nat)^(K+1)=2^K*2:=Nat.pow_succ _ _;by_cases g:2*n-2<=gH n K
 ·exact g
 ·exfalso;have h1:gH n K+3<=2*n:=by omega
  have h2:=Nat.mul_le_mul_right (2^K) h1;rw[Nat.add_mul]at h2;omega
theorem zU{n:Nat}{w:Nat->Nat}(hw:qm n w)(hn:2<=n):∀k,2*n-2<=gH n k->Pu n w k (2*n-2)=n
 |0,h=>by simp only[gH]at h;simp only[Pu];omega
 |k+1,h=>by
  have h1:=wF (w:=w) (k+1) _ h;by_cases g:Pu n w (k+1) (2*n-2)=n
  ·exact g
  ·exfalso;have h2:=se (w:=w) h;have h3:=wJ (n:=n) (by omega) k;have h4:=wH hw h;have e:2*(2*n-2-Pu n w (k+1) (2*n-2))=2*n-2:=by omega
   rw[e]at h2 h4;rw[zU hw hn k h2]at h4;omega
theorem FN{n L:Nat}{w:Nat->Nat}(hw:qm n w)(hL:0<L)(hn:2<=n)(al:n<=2^L):qT L (PJ n w (L-1) (2*n-2)) n=2^L:=by
 have ad:=s8 hL al;obtain⟨K,rfl⟩:∃K,L=K+1:=⟨L-1,by omega⟩;rw[Nat.add_sub_cancel]at ad⊢;have h1:=zR (K+1) (PJ n w K (2*n-2)) (P4 n w K (2*n-2)) n (fun i _=>zO hw K _ i ad);rw[zQ K _ ad]at h1;have e2:(2:Nat)^(K+1)=2^K*2:=Nat.pow_succ _ _;have e3:(2*n-2)*2^K=(n-1)*2^(K+1):=by rw[e2,show 2*n-2=(n-1)*2 by omega,Nat.mul_assoc,Nat.mul_comm 2]
 have e4:n*2^(K+1)=(n-1)*2^(K+1)+2^(K+1):=by
  conv=>lhs;rw[show n=(n-1)+1 by omega,Nat.add_mul,Nat.one_mul]
 omega
theorem FO{n L:Nat}{w:Nat->Nat}(hw:qm n w)(hL:0<L)(hn:2<=n)(al:n<=2^L){i:Nat}(hi:i<n):1<=PJ n w (L-1) (2*n-2) i/\PJ n w (L-1) (2*n-2) i<=L:=by
 have av:=s8 hL al;have ad:=zU hw hn (L-1) av;have hle:=qU n w (L-1) (2*n-2) i;refine⟨?_,by omega⟩;cases hk:L-1 with
 |zero=>rw[hk]at ad;simp only[Pu]at ad;simp only[PJ];rw[if_pos (by omega)];exact Nat.le_refl _
 |succ k=>rw[hk]at ad;simp only[PJ];rw[ad,if_pos hi];omega
def ud(F:Nat->Nat)(i j:Nat):Bool:=decide (F i<F j\/(F i=F j/\i<j))
def PQ(F:Nat->Nat)(i:Nat):List Nat->List Nat
 |[]=>[i]
 |j::l=>if F j<=F i then j::PQ F i l else i::j::l
def Pt(F:Nat->Nat):Nat->List Nat
 |0=>[]
 |n+1=>if 0<F n then PQ F n (Pt F n)else Pt F n
def nI(F:Nat->Nat):Nat->Nat
 |0=>0
 |n+1=>nI F n+if 0<F n then 1 else 0
theorem uf(F:Nat->Nat)(i:Nat):∀l,(PQ F i l).length=l.length+1
 |[]=>rfl
 |j::l=>by
  simp only[PQ];split
  ·simp only[List.length_cons];rw[uf F i l]
  ·rfl
theorem lQ(F:Nat->Nat):∀n,(Pt F n).length=nI F n
 |0=>rfl
 |n+1=>by
  simp only[Pt,nI];split
  ·rw[uf,lQ F n]
  ·rw[lQ F n];rfl
theorem wK(F:Nat->Nat)(i x:Nat):∀l,x∈PQ F i l↔x=i\/x∈l
 |[]=>by simp[PQ]
 |j::l=>by
  simp only[PQ];split
  ·simp only[List.mem_cons];rw[wK F i x l];constructor
   ·rintro(h|h|h)
    ·exact .inr (.inl h)
    ·exact .inl h
    ·exact .inr (.inr h)
   ·rintro(h|h|h)
    ·exact .inr (.inl h)
    ·exact .inl h
    ·exact .inr (.inr h)
  ·simp only[List.mem_cons]
theorem qV(F:Nat->Nat)(x:Nat):∀n,x∈Pt F n↔x<n/\0<F x
 |0=>by simp[Pt]
 |n+1=>by
  simp only[Pt];split
  ·rename_i h;rw[wK,qV F x n];constructor
   ·rintro(rfl|h2)
    ·exact⟨by omega,h⟩
    ·exact⟨by omega,h2.2⟩
   ·rintro⟨h1,h2⟩;by_cases e:x=n
    ·exact .inl e
    ·exact .inr ⟨by omega,h2⟩
  ·rename_i h;rw[qV F x n];constructor
   ·rintro⟨h1,h2⟩;exact⟨by omega,h2⟩
   ·rintro⟨h1,h2⟩;refine⟨?_,h2⟩;by_cases e:x=n
    ·subst e;exact absurd h2 h
    ·omega
def oN(F:Nat->Nat):List Nat->Prop
 |[]=>True
 |j::l=>(∀x∈l,ud F j x=true)/\oN F l
theorem oe{F:Nat->Nat}{i j:Nat}:ud F i j=true↔(F i<F j\/(F i=F j/\i<j)):=by unfold ud;exact decide_eq_true_iff
theorem zV(F:Nat->Nat)(i:Nat):∀l,oN F l->(∀x∈l,x<i)->oN F (PQ F i l)
 |[],_,_=>⟨fun x hx=>by simp at hx,trivial⟩
 |j::l,h,hx=>by
  simp only[PQ];have hj:=hx j (by simp);split
  ·rename_i hle;refine⟨fun x h2=>?_,zV F i l h.2 (fun x h2=>hx x (by simp[h2]))⟩;rcases(wK F i x l).1 h2 with rfl|h2
   ·exact oe.2 (by omega)
   ·exact h.1 x h2
  ·rename_i hle;refine⟨fun x h2=>?_,h⟩;rcases List.mem_cons.1 h2 with rfl|h2
   ·exact oe.2 (by omega)
   ·have:=oe.1 (h.1 x h2);exact oe.2 (by omega)
theorem qW(F:Nat->Nat):∀n,oN F (Pt F n)
 |0=>trivial
 |n+1=>by
  simp only[Pt];split
  ·exact zV F n _ (qW F n) (fun x hx=>((qV F x n).1 hx).1)
  ·exact qW F n
theorem ug{F:Nat->Nat}:∀(l:List Nat),oN F l->∀r s,r<s->s<l.length->ud F (l.getD r 0) (l.getD s 0)=true
 |[],_,r,s,_,hs=>absurd hs (by simp)
 |j::l,h,0,s+1,_,hs=>by
  have ad:s<l.length:=by simpa using hs
  have:(j::l).getD (s+1) 0=l[s]:=by simp[List.getD,ad]
  rw[this];exact h.1 _ (List.getElem_mem ad)
 |j::l,h,r+1,s+1,al,hs=>by
  have h2:=ug l h.2 r s (by omega) (by simpa using hs);have e1:∀t,(j::l).getD (t+1) 0=l.getD t 0:=fun t=>by simp[List.getD]
  rw[e1,e1];exact h2
def iG(F:Nat->Nat)(n r:Nat):Nat:=F ((Pt F n).getD r 0)
theorem zW(F:Nat->Nat)(n:Nat):qm (nI F n) (iG F n):=by
 intro i j ad hj;rcases Nat.eq_or_lt_of_le ad with e|e
 ·subst e;exact Nat.le_refl _
 ·have:=oe.1 (ug (Pt F n) (qW F n) i j e (by rw[lQ];exact hj));unfold iG;omega
theorem wL{c d:Nat->Nat}:∀n,(∀i,i<n->c i=d i)->PH c n=PH d n
 |0,_=>rfl
 |n+1,h=>by simp only[PH];rw[wL n (fun i hi=>h i (by omega)),h n (by omega)]
theorem zY(c:Nat->Nat):∀n,PH c (n+1)=c 0+PH (fun i=>c (i+1)) n
 |0=>by simp[PH]
 |n+1=>by
  have:=zY c n;have e:PH c (n+1+1)=PH c (n+1)+c (n+1):=rfl;rw[e,this];simp only[PH];omega
def pP(g:Nat->Nat):List Nat->Nat
 |[]=>0
 |j::l=>g j+pP g l
theorem zZ(g:Nat->Nat):∀l:List Nat,PH (fun r=>g (l.getD r 0)) l.length=pP g l
 |[]=>rfl
 |j::l=>by
  rw[List.length_cons,zY];have e1:∀t,(j::l).getD (t+1) 0=l.getD t 0:=fun t=>by simp[List.getD]
  have e0:(j::l).getD 0 0=j:=rfl;simp only[e1,e0,pP];rw[zZ g l]
theorem z9(g F:Nat->Nat)(i:Nat):∀l,pP g (PQ F i l)=pP g l+g i
 |[]=>by simp[PQ,pP]
 |j::l=>by
  simp only[PQ];split
  ·simp only[pP];rw[z9 g F i l];omega
  ·simp only[pP];omega
theorem wM(g F:Nat->Nat):∀n,pP g (Pt F n)=PH (fun i=>if 0<F i then g i else 0) n
 |0=>rfl
 |n+1=>by
  simp only[Pt,PH];split
  ·rw[z9,wM g F n]
  ·rw[wM g F n];rfl
theorem FQ(g F:Nat->Nat)(n:Nat):PH (fun r=>g ((Pt F n).getD r 0)) (nI F n)=PH (fun i=>if 0<F i then g i else 0) n:=by
 rw[<-lQ,zZ,wM]
theorem Ad(L:Nat)(m:Nat->Nat):∀n,qT L m n=PH (fun i=>2^(L-m i)) n
 |0=>rfl
 |n+1=>by simp only[qT,PH];rw[Ad L m n]
def mO(F:Nat->Nat)(n i:Nat):Nat:=(Pt F n).idxOf i
def iM(F:Nat->Nat)(n L i:Nat):Nat:=
 if F i=0 then 0 else if nI F n=1 then 1 else PJ (nI F n) (iG F n) (L-1) (2*nI F n-2) (mO F n i)
theorem qo{F:Nat->Nat}{n i:Nat}(hi:i<n)(h:0<F i):mO F n i<nI F n/\(Pt F n).getD (mO F n i) 0=i:=by
 have hm:i∈Pt F n:=(qV F i n).2 ⟨hi,h⟩;have hl:mO F n i<(Pt F n).length:=List.idxOf_lt_length_of_mem hm;refine⟨by rw[<-lQ];exact hl,?_⟩;rw[List.getD_eq_getElem?_getD,List.getElem?_eq_getElem hl];exact List.getElem_idxOf hl
theorem nk{F:Nat->Nat}{n r:Nat}(hr:r<nI F n):mO F n ((Pt F n).getD r 0)=r/\(Pt F n).getD r 0<n/\0<F ((Pt F n).getD r 0):=by
 have hl:r<(Pt F n).length:=by rw[lQ];exact hr
 have hm:(Pt F n).getD r 0∈Pt F n:=by
  rw[List.getD_eq_getElem?_getD,List.getElem?_eq_getElem hl];exact List.getElem_mem hl
 have h1:=(qV F _ n).1 hm;have h2:=qo h1.1 h1.2;refine⟨?_,h1⟩;rcases Nat.lt_trichotomy (mO F n ((Pt F n).getD r 0)) r with h|h|h
 ·have:=oe.1 (ug (Pt F n) (qW F n) _ _ h hl);rw[h2.2]at this;omega
 ·exact h
 ·have:=oe.1 (ug (Pt F n) (qW F n) _ _ h (by rw[lQ];exact h2.1));rw[h2.2]at this;omega
theorem oO(F:Nat->Nat):∀n,nI F n<=n
 |0=>Nat.le_refl _
 |n+1=>by have:=oO F n;simp only[nI];split<;>omega
theorem Ae{F:Nat->Nat}{n i:Nat}(hi:i<n)(h:0<F i):0<nI F n:=by
 have:=qo hi h;omega
theorem FT{F:Nat->Nat}{n L r:Nat}(hr:r<nI F n)(h2:2<=nI F n):iM F n L ((Pt F n).getD r 0)=PJ (nI F n) (iG F n) (L-1) (2*nI F n-2) r:=by
 have h:=nk hr;unfold iM;rw[if_neg (by omega),if_neg (by omega),h.1]
theorem wN{F:Nat->Nat}{n L i:Nat}(hL:0<L)(hn:nI F n<=2^L)(hi:i<n)(h:0<F i):1<=iM F n L i/\iM F n L i<=L:=by
 unfold iM;rw[if_neg (by omega)];have hp:=Ae hi h;by_cases h1:nI F n=1
 ·rw[if_pos h1];omega
 ·rw[if_neg h1];exact FO (zW F n) hL (by omega) hn (qo hi h).1
theorem wO(F:Nat->Nat){n L:Nat}(hL:0<L)(i:Nat):iM F n L i<=L:=by
 unfold iM;split
 ·omega
 ·split
  ·omega
  ·have:=qU (nI F n) (iG F n) (L-1) (2*nI F n-2) (mO F n i);omega
def nm(L:Nat)(m:Nat->Nat)(n:Nat):Nat:=PH (fun i=>if 0<m i then 2^(L-m i)else 0) n
theorem FU{F:Nat->Nat}{n L:Nat}(hL:0<L)(hn:nI F n<=2^L):nm L (iM F n L) n=if 2<=nI F n then 2^L else if nI F n=1 then 2^(L-1)else 0:=by
 have e:nm L (iM F n L) n=PH (fun i=>if 0<F i then 2^(L-iM F n L i)else 0) n:=by
  apply wL;intro i hi;by_cases h0:0<F i
  ·rw[if_pos h0,if_pos (by have:=wN hL hn hi h0;omega)]
  ·rw[if_neg h0,if_neg (by unfold iM;rw[if_pos (by omega)];omega)]
 rw[e,<-FQ (fun i=>2^(L-iM F n L i)) F n];by_cases h2:2<=nI F n
 ·rw[if_pos h2,<-FN (zW F n) hL h2 hn,Ad];apply wL;intro r hr;rw[FT hr h2]
 ·rw[if_neg h2];by_cases h1:nI F n=1
  ·have h:=nk (show 0<nI F n by omega);have hl:iM F n L ((Pt F n).getD 0 0)=1:=by unfold iM;rw[if_neg (by omega),if_pos h1]
   rw[if_pos h1,h1];simp only[PH];rw[hl];omega
  ·rw[if_neg h1,show nI F n=0 by omega];rfl
def gX(w:aq)(B sz:Nat)(A:Option au)(m:Nat)(ys:List ax):Prop:=
 ys.length=m*sz/\(0<m->∃b o,A=some ⟨b,o,none⟩/\b<B/\∀j u,ys[j]?=some u->w.cell? ⟨b,o+j,none⟩=some u)
theorem gX.none_(w:aq)(B sz:Nat)(A:Option au):gX w B sz A 0 []:=⟨by simp,fun h=>absurd h (by omega)⟩
theorem gX.below{w w':aq}{B B' sz m:Nat}{A:Option au}{ys:List ax}(h:gX w B sz A m ys)(hb:aR B' w w')(hB:B<=B'):gX w' B sz A m ys:=by
 refine⟨h.1,fun hn=>?_⟩;obtain⟨b,o,rfl,ad,hc⟩:=h.2 hn;exact⟨b,o,rfl,ad,fun j u hu=>by rw[hb.cell (p:=⟨b,o+j,none⟩) (by show b<B';omega)];exact hc j u hu⟩
theorem gX.more{w:aq}{B B' sz m:Nat}{A:Option au}{ys:List ax}(h:gX w B sz A m ys)(hB:B<=B'):gX w B' sz A m ys:=by
 refine⟨h.1,fun hn=>?_⟩;obtain⟨b,o,rfl,ad,hc⟩:=h.2 hn;exact⟨b,o,rfl,by omega,hc⟩
theorem gX.new(w:aq)(sz m:Nat)(cs:Array ax)(t:aB)(h:cs.size=m*sz):gX (w.alloc (ak cs t)) (w.alloc (ak cs t)).heap.size sz (some ⟨w.heap.size,0,none⟩) m cs.toList:=
 ⟨by simpa using h,fun _=>⟨w.heap.size,0,rfl,by simp,fun j u hu=>by rw[Nat.zero_add,aH _ _ j cs t (0,0) (aG w _)];simpa using hu⟩⟩
theorem gX.gR{w:aq}{base sz n c:Nat}{e:aB}{A:Option au}{xs:List ax}(h:w.ownsRow base e sz (af A n c) n xs):gX w w.heap.size sz A n xs:=by
 refine⟨h.1,fun hn=>?_⟩;obtain⟨g,cap,hv,_,ad⟩:=h.form hn;injection hv with hA _ _
 subst hA;refine⟨g,0,rfl,ad,fun j u hu=>?_⟩;have:=h.cells (g:=g) rfl j u hu;have e:(⟨g,0,none⟩:au).add j=⟨g,0+j,none⟩:=by unfold Addr.add;split<;>simp_all
 rw[e]at this;exact this
theorem oZ{w:aq}{base sz n:Nat}{e:aB}{v:ax}{xs:List ax}(h:w.ownsRow base e sz v n xs):∀k,v.ownBlock=some k->base<=k:=by
 intro k hk;rcases h.2 with⟨rfl,_⟩|⟨g,cap,cur,rfl,hg,_⟩
 ·simp[Value.ownBlock]at hk
 ·simp[Value.ownBlock]at hk;omega
theorem oP{T E:aB}{z:ax}{sz kl:Nat}(hT:prog.underlying T=some (.slice E))(hI:(prog.info? E).map (fun i=>(i.zero,i.size,i.bytes))=some (some z,sz,kl))(hz:z.cells.size=sz)(aT:0<sz)
  (w:aq) (base B:Nat) (v0:ax) (n:Nat) (xs:List ax) (al:w.ownsRow base E sz v0 n xs) (A:Option au) (m c:Nat) (ys:List ax) (hr:gX w B sz A m ys) (h1:∀u∈ys,u.oneCell'=true)
  (aU:n+m<=maxLen) (aV:(n+m)*kl<=140737488355328) (ty:aB) (hA:A=none->c=0) (av:base<=w.heap.size):
  ∃A' c' w',(Builtin.append_ #[T,T] ty #[v0,af A m c]).run prog w=.ok (af A' (n+m) c') w'/\w'.ownsRow base E sz (af A' (n+m) c') (n+m) (xs++ys)/\aR base w w':=by
 obtain⟨i0,hi,aW,aX,aY⟩:=info_parts hI
 have key:∃v' w',(Builtin.append_ #[T,T] ty #[v0,af A m c]).run prog w=.ok v' w'/\w'.ownsRow base E sz v' (n+m) (xs++ys)/\w.grownBy w' v0.ownBlock:=by
  rcases A with _|ad
  ·have h0:m=0:=by
    rcases Nat.eq_zero_or_pos m with h|h
    ·exact h
    ·obtain⟨b,o,h,_⟩:=hr.2 h;cases h
   subst h0;obtain rfl:=hA rfl;have hy:ys=[]:=List.length_eq_zero_iff.1 (by have:=hr.1;omega);subst hy;refine⟨v0,w,run_append_owned_none (P:=prog) (w:=w) base T ty E i0 sz hT hi v0 n _ al,?_,World.grownBy.refl _ _⟩;simpa using al
  ·have aS:∀j u,ys[j]?=some u->w.cell? (ad.add j)=some u:=by
    intro j u hu;have hm:0<m:=by
     rcases Nat.eq_zero_or_pos m with h|h
     ·have hy:ys=[]:=List.length_eq_zero_iff.1 (by have:=hr.1;rw[h]at this;omega);rw[hy]at hu;cases hu
     ·exact h
    obtain⟨b,o,h,_,hc⟩:=hr.2 hm;injection h with h
    subst h;have e:(⟨b,o,none⟩:au).add j=⟨b,o+j,none⟩:=by unfold Addr.add;split<;>simp_all
    rw[e];exact hc j u hu
   obtain⟨v',w',h1,h2,h3,_,_⟩:=run_append_own_at (P:=prog) w base T ty E i0 z sz kl hT hi aW aX aY hz aT v0 n xs al ad m c ys hr.1 aS h1 aU aV av;exact⟨v',w',h1,h2,h3⟩
 obtain⟨v',w',h1,h2,h3⟩:=key
 have hv:∃A' c',v'=af A' (n+m) c':=by
  rcases h2.2 with⟨rfl,h⟩|⟨g,cap,cur,rfl,_⟩
  ·exact⟨none,0,by rw[h]⟩
  ·exact⟨_,_,rfl⟩
 obtain⟨A',c',rfl⟩:=hv
 exact⟨A',c',w',h1,h2,(Below.refl base w).grown h3 av (oZ al)⟩
def jg(l:List Int):List ax:=l.map (Value.int aj)
theorem uh(l:List Int)(j:Nat):(jg l)[j]?=(l[j]?).map (Value.int aj):=by unfold jg;simp
theorem Af(l:List Int):∀u∈jg l,u.oneCell'=true:=by
 intro u hu;simp only[jg,List.mem_map]at hu;obtain⟨j,_,rfl⟩:=hu;rfl
theorem sf:(prog.info? 3).map (fun i=>(i.zero,i.size,i.bytes))=some (some (ae aj 0),1,8):=by kernel_rfl
def jq(w:aq)(B:Nat)(A:Option au)(l:List Int):Prop:=gX w B 1 A l.length (jg l)
theorem jq.below{w w':aq}{B B':Nat}{A:Option au}{l:List Int}(h:jq w B A l)(hb:aR B' w w')(hB:B<=B'):jq w' B A l:=gX.below h hb hB
theorem jq.more{w:aq}{B B':Nat}{A:Option au}{l:List Int}(h:jq w B A l)(hB:B<=B'):jq w B' A l:=gX.more h hB
theorem jq.at{w:aq}{B:Nat}{A:Option au}{l:List Int}(h:jq w B A l){k:Nat}(hk:k<l.length):∃b o,A=some ⟨b,o,none⟩/\b<B/\∀j,j<l.length->w.cell? ⟨b,o+j,none⟩=some (ae aj (l.getD j 0)):=by
 obtain⟨b,o,rfl,hb,hc⟩:=h.2 (by omega);refine⟨b,o,rfl,hb,fun j hj=>hc j _ ?_⟩;rw[uh,List.getElem?_eq_getElem hj,List.getD_eq_getElem?_getD,List.getElem?_eq_getElem hj];rfl
theorem jq.gR{w:aq}{base c n:Nat}{A:Option au}{l:List Int}(h:w.ownsRow base 3 1 (af A n c) n (jg l)):n=l.length/\jq w w.heap.size A l:=by
 have hl:(jg l).length=n*1:=h.1;have e:n=l.length:=by simp[jg]at hl;omega
 subst e;exact⟨rfl,gX.gR h⟩
def iN(l:List Nat):List Int:=l.map fun(x:Nat)=>(x:Int)
theorem nM(l:List Nat):(iN l).length=l.length:=by simp[iN]
theorem qX(l:List Nat)(j:Nat):(iN l).getD j 0=((l.getD j 0:Nat):Int):=by
 unfold iN;rw[List.getD_eq_getElem?_getD,List.getD_eq_getElem?_getD,List.getElem?_map];cases l[j]?<;>rfl
theorem wP{w:aq}{base n c:Nat}{e:aB}{A:Option au}{xs:List ax}(h:w.ownsRow base e 1 (af A n c) n xs):n<=c/\c<=maxLen/\(A=none->n=0/\c=0):=by
 rcases h.2 with⟨hv,h0⟩|⟨g,cap,cur,hv,_,_,h1,h2,_⟩
 ·injection hv with h3 h4 h5
  exact⟨by omega,by unfold maxLen;omega,fun _=>⟨by omega,h5⟩⟩
 ·injection hv with h3 h4 h5
  exact⟨by omega,by omega,fun h=>by rw[h]at h3;cases h3⟩
theorem Ag{w:aq}{base c n:Nat}{A:Option au}{L:List Nat}(h:w.ownsRow base 3 1 (af A n c) n (jg (iN L))):jq w w.heap.size A (iN L):=(jq.gR h).2
theorem FV(w:aq)(base:Nat)(A:Option au)(n c:Nat)(xs:List Int)(al:w.ownsRow base 3 1 (af A n c) n (jg xs))(x:Int)(hn:n<=1000000)(ad:base<=w.heap.size):
  ∃A' c' w',(Builtin.append_ #[185,185] 185 #[af A n c,af (some ⟨w.heap.size,0,none⟩) 1 1]).run prog (w.alloc (ak #[ae aj x] 3))=.ok (af A' (n+1) c') w'/\
   w'.ownsRow base 3 1 (af A' (n+1) c') (n+1) (jg (xs++[x]))/\aR base w w':=by
 have av:aR base w (w.alloc (ak #[ae aj x] 3)):=(Below.refl base w).alloc ad _
 obtain⟨A',c',w',h2,o2,b2⟩:=oP (z:=ae aj 0) (kl:=8) underlying185 sf rfl (by decide) (w.alloc (ak #[ae aj x] 3)) base _ (af A n c) n _ (al.alloc _) _ 1 1 _
  (gX.new w 1 1 #[ae aj x] 3 rfl) (fun u hu=>by simp at hu;subst hu;rfl) (by unfold maxLen;omega) (by omega) 185 (fun h=>by cases h) (Nat.le_trans ad av.size)
 refine⟨A',c',w',h2,?_,av.trans b2⟩
 have e:jg xs++(#[Value.int aj x]:Array ax).toList=jg (xs++[x]):=by simp[jg]
 rw[e]at o2
 exact o2
theorem FW(w:aq)(l:List Int)(cs:Array ax)(h:cs.toList=jg l):jq (w.alloc (ak cs 3)) (w.alloc (ak cs 3)).heap.size (some ⟨w.heap.size,0,none⟩) l:=by
 have h1:=gX.new w 1 l.length cs 3 (by rw[<-Array.length_toList,h];simp[jg]);rw[h]at h1;exact h1
theorem s9{w:aq}{base pQ:Nat}{e:aB}{size:Nat}{v:ax}{n:Nat}{xs:List ax}(h:w.ownsRow base e size v n xs)(hb:pQ<=base):w.ownsRow pQ e size v n xs:=by
 obtain⟨h1,h2⟩:=h;refine⟨h1,?_⟩;rcases h2 with h2|⟨g,cap,cur,hv,hg,r⟩
 ·exact .inl h2
 ·exact .inr ⟨g,cap,cur,hv,by omega,r⟩
def gB(l:List Int)(j:Nat):Nat:=(l.getD j 0).toNat
def qp(x:Int):Bool:=decide (x<0\/1073741824<x)
def qq(l:List Int)(k:Nat):Bool:=decide (∃j,j<k/\qp (l.getD j 0)=true)
def mP(l:List Int)(gy:Int):Int:=
 if gy<1\/15<gy then 2 else if 320<l.length then 4 else if qq l l.length=true then 2 else if 2^gy.toNat<nI (gB l) l.length then 4 else 0
theorem ui{l:List Int}{k n:Nat}(hk:k<n)(h:qp (l.getD k 0)=true):qq l n=true:=decide_eq_true ⟨k,hk,h⟩
theorem FX{l:List Int}{n:Nat}(h:∀j,j<n->qp (l.getD j 0)=false):qq l n=false:=by
 apply decide_eq_false;rintro⟨j,hj,h2⟩;rw[h j hj]at h2;cases h2
theorem FY{x:Int}(h1:0<=x)(h2:x<=1073741824):qp x=false:=decide_eq_false (by omega)
theorem wQ{F:Nat->Nat}{i:Nat}:∀(l:List Nat) (p:Nat),oN F l->p<=l.length->(p=0\/F (l.getD (p-1) 0)<=F i)->(∀j,p<=j->j<l.length->F i<F (l.getD j 0))->PQ F i l=l.take p++i::l.drop p
 |[],p,_,hp,_,_=>by rw[show p=0 by simpa using hp];rfl
 |j::l,0,_,_,_,h2=>by
  have:=h2 0 fZ (by simp);have e0:(j::l).getD 0 0=j:=rfl;rw[e0]at this;simp only[PQ];rw[if_neg (by omega)];rfl
 |j::l,p+1,ho,hp,h1,h2=>by
  have e1:∀t,(j::l).getD (t+1) 0=l.getD t 0:=fun t=>by simp[List.getD]
  have ad:p<=l.length:=by simpa using hp
  have hj:F j<=F i:=by
   rcases h1 with h1|h1
   ·omega
   ·rw[Nat.add_sub_cancel]at h1;cases p with
    |zero=>exact h1
    |succ q=>
     rw[e1]at h1;have hq:q<l.length:=by omega
     have hm:l.getD q 0∈l:=by rw[List.getD_eq_getElem?_getD,List.getElem?_eq_getElem hq];exact List.getElem_mem hq
     have:=oe.1 (ho.1 _ hm);omega
  have ih:=wQ l p ho.2 ad (by
   rcases h1 with h1|h1
   ·omega
   ·rw[Nat.add_sub_cancel]at h1;cases p with
    |zero=>exact .inl rfl
    |succ q=>rw[e1]at h1;exact .inr h1) (fun t h3 h4=>by have:=h2 (t+1) (by omega) (by simpa using h4);rw[e1]at this;exact this)
  simp only[PQ];rw[if_pos hj,ih];rfl
theorem FZ{w:aq}{B:Nat}{A:Option au}{n:Nat}{ys:List ax}(h:gX w B 1 A n ys){p:Nat}(hp:p<=n):gX w B 1 A p (ys.take p):=by
 have hl:=h.1;refine⟨by rw[List.length_take];omega,fun hn=>?_⟩;obtain⟨b,o,rfl,hb,hc⟩:=h.2 (by omega);refine⟨b,o,rfl,hb,fun j u hu=>hc j u ?_⟩;rw[List.getElem?_take]at hu;split at hu
 ·exact hu
 ·cases hu
theorem F0{w:aq}{B:Nat}{A A2:Option au}{n p c:Nat}{ys:List ax}(h:gX w B 1 A n ys)(hp:p<=n)(hc:n<=c)(hA:(if c=p then A else A.map (fun x=>x.add p))=A2):gX w B 1 A2 (n-p) (ys.drop p):=by
 have hl:=h.1;refine⟨by rw[List.length_drop];omega,fun hn=>?_⟩;obtain⟨b,o,rfl,hb,ad⟩:=h.2 (by omega);rw[if_neg (by omega)]at hA;have e:(⟨b,o,none⟩:au).add p=⟨b,o+p,none⟩:=by unfold Addr.add;split<;>simp_all
 simp only[Option.map_some]at hA;rw[e]at hA;refine⟨b,o+p,hA.symm,hb,fun j u hu=>?_⟩;rw[List.getElem?_drop]at hu;rw[Nat.add_assoc];exact ad _ u hu
theorem Aj(w:aq)(base:Nat)(A:Option au)(c:Nat)(l:List Nat)(p i:Nat)(ad:w.ownsRow base 3 1 (af A l.length c) l.length (jg (iN l)))(hp:p<=l.length)(hl:l.length<=1000)(av:base<=w.heap.size)
  (A2:Option au) (hA2:(if c=p then A else A.map (fun x=>x.add p))=A2):
  ∃Aa ca wa Ab cb wb Ac cc wc,(Builtin.append_ #[185,185] 185 #[af none 0 0,af A p c]).run prog w=.ok (af Aa p ca) wa/\
   (Builtin.append_ #[185,185] 185 #[af Aa p ca,af (some ⟨wa.heap.size,0,none⟩) 1 1]).run prog (wa.alloc (ak #[ae aj (i:Int)] 3))=.ok (af Ab (p+1) cb) wb/\
   (Builtin.append_ #[185,185] 185 #[af Ab (p+1) cb,af A2 (l.length-p) (c-p)]).run prog wb=.ok (af Ac (l.length+1) cc) wc/\
   wc.ownsRow base 3 1 (af Ac (l.length+1) cc) (l.length+1) (jg (iN (l.take p++i::l.drop p)))/\aR w.heap.size w wc:=by
 obtain⟨aW,aX,aT⟩:=wP ad
 have al:=gX.gR ad
 have e1:(iN l).length=l.length:=nM l
 obtain⟨Aa,ca,wa,h1,o1,b1⟩:=oP (z:=ae aj 0) (kl:=8) underlying185 sf rfl (by decide) w w.heap.size _ (af none 0 0) 0 [] (World.ownsRow_nil w _ _ 1) A p c _ (FZ al hp) (fun u hu=>Af _ u (List.mem_of_mem_take hu))
  (by unfold maxLen;omega) (by omega) 185 (fun h=>by have:=aT h;omega) fZ
 rw[Nat.zero_add,List.nil_append]at o1
 rw[Nat.zero_add]at h1
 have aU:aR w.heap.size w (wa.alloc (ak #[ae aj (i:Int)] 3)):=b1.alloc b1.size _
 obtain⟨Ab,cb,wb,h2,o2,b2⟩:=oP (z:=ae aj 0) (kl:=8) underlying185 sf rfl (by decide) (wa.alloc (ak #[ae aj (i:Int)] 3)) w.heap.size _ (af Aa p ca) p _ (o1.alloc _) _ 1 1 _
  (gX.new wa 1 1 #[ae aj (i:Int)] 3 rfl) (fun u hu=>by simp at hu;subst hu;rfl) (by unfold maxLen;omega) (by omega) 185 (fun h=>by cases h) aU.size
 have aS:aR w.heap.size w wb:=aU.trans b2
 have hd:=(F0 al hp aW hA2).below aS fZ
 obtain⟨Ac,cc,wc,h3,o3,b3⟩:=oP (z:=ae aj 0) (kl:=8) underlying185 sf rfl (by decide) wb w.heap.size _ (af Ab (p+1) cb) (p+1) _ o2 A2 (l.length-p) (c-p) _ hd (fun u hu=>Af _ u (List.mem_of_mem_drop hu))
  (by unfold maxLen;omega) (by omega) 185 (fun h=>by
   by_cases g:c=p
   ·omega
   ·rw[if_neg g]at hA2;cases A with
    |none=>have:=aT rfl;omega
    |some a=>rw[h]at hA2;cases hA2) aS.size
 have e2:p+1+(l.length-p)=l.length+1:=by omega
 rw[e2]at h3 o3
 refine⟨Aa,ca,wa,Ab,cb,wb,Ac,cc,wc,h1,h2,h3,?_,aS.trans b3⟩
 have e3:(jg (iN l)).take p++(#[Value.int aj (i:Int)]:Array ax).toList++(jg (iN l)).drop p=jg (iN (l.take p++i::l.drop p)):=by
  unfold jg iN;simp[List.map_take,List.map_drop]
 rw[e3]at o3
 have aV:base<=w.heap.size:=av
 rcases o3 with⟨q1,q2⟩
 refine⟨q1,?_⟩
 rcases q2 with q2|⟨g,cap,cur,q3,q4,q5⟩
 ·exact .inl q2
 ·exact .inr ⟨g,cap,cur,q3,by omega,q5⟩
theorem F3(F:Nat->Nat)(n:Nat):(Pt F n).length<=n:=by rw[lQ];exact oO F n
theorem F4(w:aq)(A:Option au)(c:Nat)(l:List Int)(hr:jq w w.heap.size A l)(hn:l.length<=400)(hb:∀j,j<l.length->-9223372036854775808<=l.getD j 0/\l.getD j 0<=9223372036854775807):
  aw prog 146 #[af A l.length c] w fun e w'=>∃A' c',e=ao (af A' (nI (gB l) l.length) c')/\aR w.heap.size w w'/\
   w'.ownsRow w.heap.size 3 1 (af A' (nI (gB l) l.length) c') (nI (gB l) l.length) (jg (iN (Pt (gB l) l.length))):=by
 have HR:=fX hr
 have a3:=fX hb
 clear hr hb
 obtain⟨n,a4⟩:=fY (l.length)
 rw[<-a4]at hn a3⊢
 have HN:=fX a4
 clear a4
 go_enter func146,ntmps146
 go_wp2
 go_loopw [3,4,5,6] (fun o i _ _ wr=>∃(k:Nat) (Ao:Option au) (co:Nat),k<=n/\i=ae aj k/\o=af Ao (Pt (gB l) k).length co/\
  wr.ownsRow w.heap.size 3 1 (af Ao (Pt (gB l) k).length co) (Pt (gB l) k).length (jg (iN (Pt (gB l) k)))/\aR w.heap.size w wr) (fun _ i _ _ _=>n-(aP i).toNat)
 case atStart=>exact⟨0,none,0,Nat.zero_le _,rfl,rfl,World.ownsRow_nil w _ _ 1,Below.refl _ _⟩
 case round=>
  obtain⟨k,Ao,co,hk,rfl,rfl,ad,av⟩:=hrel;by_cases aX:k<n
  ·obtain⟨b,o,rfl,bu,hc⟩:=(HR.out.below av fZ).at (k:=k) (by rw[<-HN.out];exact aX);have a5:=hc k (by rw[<-HN.out];exact aX);have HC:=fX hc;clear hc;obtain⟨x,hx⟩:=fY (l.getD k 0);rw[<-hx]at a5;have bm:=a3.out k aX;rw[<-hx]at bm;have HX:=fX hx;clear hx;have aT:gB l k=x.toNat:=by unfold gB;rw[<-HX.out]
   by_cases g:x<=0
   ·have HE:=fX (show Pt (gB l) (k+1)=Pt (gB l) k by simp only[Pt];rw[if_neg (by rw[aT];omega)]);have HO:=fX ad;have HB:=fX av
    clear ad av aT;go_wp2;go_roundw
    case rel=>
     refine⟨k+1,Ao,co,by omega,by go_num,by rw[HE.out],?_,HB.out⟩;rw[HE.out];exact HO.out
    case measure=>simp[aP];omega
   ·have HE:=fX (show Pt (gB l) (k+1)=PQ (gB l) k (Pt (gB l) k) by simp only[Pt];rw[if_pos (by rw[aT];omega)]);have bx:decide (x<=0)=false:=by simpa using g
    have hle:=F3 (gB l) k;have HO:=fX ad;have HB:=fX av;have bd:=fX aT
    have aY:=fX (gX.gR ad);obtain⟨L,hL⟩:=fY (Pt (gB l) k);have aZ:Hid (∀j,j<L.length->L.getD j 0<k):=fX (fun j hj=>by
     have hm:L.getD j 0∈L:=by rw[List.getD_eq_getElem?_getD,List.getElem?_eq_getElem hj];exact List.getElem_mem hj
     rw[hL]at hm⊢;exact((qV _ _ _).1 hm).1)
    have a1:=fX (show oN (gB l) L by rw[hL];exact qW _ _);rw[<-hL]at HO aY HE hle⊢;clear ad av aT hL;obtain⟨m,hm⟩:=fY (L.length);rw[<-hm]at aZ hle⊢;have HM:=fX hm;have bz:0<x:=by omega
    clear hm g;go_wp2;go_loopw [5] (fun a wi=>∃(p q:Nat),p<=m/\a=ae aj p/\wi=wr.drewN q/\∀j,p<=j->j<m->gB l k<gB l (L.getD j 0)) (fun a _=>(aP a).toNat)
    case atStart=>exact⟨m,0,Nat.le_refl _,rfl,rfl,fun j h1 h2=>absurd h2 (by omega)⟩
    case round=>
     obtain⟨p,q,hp,rfl,rfl,a2⟩:=hrel;have aU:=fX a2;clear a2;by_cases bf:p=0
     ·subst bf;go_wp2;go_quiet (fail)
      obtain⟨V,hV⟩:=fY ((wr.drewN q).drewN nq);have aS:V.ownsRow w.heap.size 3 1 (af Ao L.length co) L.length (jg (iN L)):=by rw[hV];exact HO.out
      have al:aR w.heap.size w V:=by rw[hV];exact⟨HB.out.os,HB.out.tape,HB.out.output,HB.out.size,HB.out.block⟩
      rw[<-hV];clear hV;obtain⟨Aa,ca,wa,Ab,cb,wb,Ac,cc,wc,r1,r2,r3,ho,aV⟩:=Aj V w.heap.size Ao co L 0 k aS (by omega) (by rw[<-HM.out];omega) al.size Ao (by
       cases Ao with
       |none=>split<;>rfl
       |some a=>
        split
        ·rfl
        ·simp only[Option.map_some];rw[show a.add 0=a by unfold Addr.add;simp])
      rw[Nat.sub_zero,Nat.sub_zero]at r3;rw[<-HM.out]at r3 ho;have a6:=(wP aS).1;rw[<-HM.out]at a6;have R1:=fX r1;have R2:=fX r2;have R3:=fX r3;have a7:=fX ho;have a8:=fX (al.trans (aV.mono al.size))
      clear r1 r2 r3 ho aV aS al;go_wp2_with (first
       |(at_builtin;refine wpList_append_run rfl (.tmp 39) (.tmp 42) 185 rfl (af none 0 0) (af Ao 0 co) (af Aa 0 ca) wa rfl rfl R1.out ?_)
       |(at_builtin;refine wpList_append_run rfl (.tmp 44) (.tmp 46) 185 rfl (af Aa 0 ca) (af (some ⟨wa.heap.size,0,none⟩) 1 1) (af Ab (0+1) cb) wb rfl rfl R2.out ?_)
       |(at_builtin;refine wpList_append_run rfl (.tmp 48) (.tmp 51) 185 rfl (af Ab (0+1) cb) (af Ao m co) (af Ac (m+1) cc) wc rfl rfl R3.out ?_))
      go_roundw
      case rel=>
       have aW:=wQ L 0 a1.out (by omega) (.inl rfl) (i:=k) (fun j h1 h2=>aU.out j h1 (by rw[HM.out];exact h2));have hlen:(PQ (gB l) k L).length=m+1:=by rw[uf,HM.out]
       refine⟨k+1,Ac,cc,by omega,by go_num,by rw[HE.out,hlen],?_,a8.out⟩;rw[HE.out,hlen,aW];exact a7.out
      case measure=>simp[aP];omega
     ·obtain⟨g,og,rfl,bA,bg⟩:=aY.out.2 (by have:=HM.out;omega);have hj:=aZ.out (p-1) (by omega);have bj:=bg (p-1) (ae aj ((L.getD (p-1) 0:Nat):Int)) (by rw[uh,<-qX];rw[List.getElem?_eq_getElem (by rw[nM,<-HM.out];omega),List.getD_eq_getElem?_getD,List.getElem?_eq_getElem (by rw[nM,<-HM.out];omega)];rfl);obtain⟨jj,a9⟩:=fY (L.getD (p-1) 0);rw[<-a9]at hj bj;have bn:=HC.out jj (by rw[<-HN.out];omega);obtain⟨y,hy⟩:=fY (l.getD jj 0);rw[<-hy]at bn;have bp:=a3.out jj (by omega);rw[<-hy]at bp;have bk:=fX a9;have HY:=fX hy
      obtain⟨r,bq⟩:∃r,p=r+1:=⟨p-1,by omega⟩;subst bq;rw[Nat.add_sub_cancel]at bj;have bt:((r+1:Nat):Int)-1=(r:Int):=by omega
      clear bg a9 hy bf;by_cases br:x<y
      ·go_wp2;go_quiet (fail)
       go_wp2;go_roundw
       case rel=>
        refine⟨r,q+nq,by omega,by first|rfl|go_num,by first|rfl|(rw[World.drewN_drewN]),fun j h1 h2=>?_⟩;by_cases e:j=r
        ·have h3:=bk.out;rw[Nat.add_sub_cancel]at h3;rw[e,<-h3,bd.out];unfold gB;rw[<-HY.out];omega
        ·exact aU.out j (by omega) h2
       case measure=>first|(simp[aP];done)|(simp[aP];omega)
      ·have bB:decide (x<y)=false:=by simpa using br
       go_wp2;go_quiet (fail)
       obtain⟨V,hV⟩:=fY ((wr.drewN q).drewN nq);have aS:V.ownsRow w.heap.size 3 1 (af (some ⟨g,og,none⟩) L.length co) L.length (jg (iN L)):=by rw[hV];exact HO.out
       have al:aR w.heap.size w V:=by rw[hV];exact⟨HB.out.os,HB.out.tape,HB.out.output,HB.out.size,HB.out.block⟩
       rw[<-hV];clear hV;obtain⟨A2,hA2⟩:∃A2,(if co=r+1 then(some ⟨g,og,none⟩:Option au)else some ⟨g,og+(r+1),none⟩)=A2:=⟨_,rfl⟩;obtain⟨Aa,ca,wa,Ab,cb,wb,Ac,cc,wc,r1,r2,r3,ho,aV⟩:=Aj V w.heap.size (some ⟨g,og,none⟩) co L (r+1) k aS (by rw[<-HM.out];exact hp) (by rw[<-HM.out];omega) al.size A2 (by
        rw[<-hA2];have e:(⟨g,og,none⟩:au).add (r+1)=⟨g,og+(r+1),none⟩:=by unfold Addr.add;split<;>simp_all
        simp only[Option.map_some,e])
       rw[<-HM.out]at r3 ho;have a6:=(wP aS).1;rw[<-HM.out]at a6;have R1:=fX r1;have R2:=fX r2;have R3:=fX r3;have a7:=fX ho;have a8:=fX (al.trans (aV.mono al.size))
       clear r1 r2 r3 ho aV aS al;go_wp2_with (first
        |(at_builtin;refine wpList_append_run rfl (.tmp 39) (.tmp 42) 185 rfl (af none 0 0) (af (some ⟨g,og,none⟩) (r+1) co) (af Aa (r+1) ca) wa rfl rfl R1.out ?_)
        |(at_builtin;refine wpList_append_run rfl (.tmp 44) (.tmp 46) 185 rfl (af Aa (r+1) ca) (af (some ⟨wa.heap.size,0,none⟩) 1 1) (af Ab (r+1+1) cb) wb rfl rfl R2.out ?_)
        |(at_builtin;refine wpList_append_run rfl (.tmp 48) (.tmp 51) 185 rfl (af Ab (r+1+1) cb) (af A2 (m-(r+1)) (co-(r+1))) (af Ac (m+1) cc) wc rfl rfl R3.out ?_))
       go_roundw
       case rel=>
        have aW:=wQ L (r+1) a1.out (by rw[<-HM.out];exact hp) (.inr (by
         have h3:=bk.out;rw[<-h3,bd.out];unfold gB;rw[<-HY.out];omega)) (i:=k) (fun j h1 h2=>aU.out j h1 (by rw[HM.out];exact h2))
        have hlen:(PQ (gB l) k L).length=m+1:=by rw[uf,HM.out]
        refine⟨k+1,Ac,cc,by omega,by go_num,by rw[HE.out,hlen],?_,a8.out⟩;rw[HE.out,hlen,aW];exact a7.out
       case measure=>simp[aP];omega
  ·obtain rfl:k=n:=by omega
   have HO:=fX ad;have HB:=fX av
   have hlen:=lQ (gB l) k;rw[hlen]at HO;have bl:=fX hlen;clear ad av aX hk hlen;go_wp2;rw[bl.out];go_ret;exact⟨Ao,co,rfl,HB.out,HO.out⟩
def o5(n m:Nat)(w p a q:Nat->Nat)(t:Nat):Nat:=
 if jI n m w p (Ps n m w p t) (t-Ps n m w p t)=true then a (Ps n m w p t)else q (t-Ps n m w p t)
theorem Ak{n m:Nat}{w p a q:Nat->Nat}:∀t,t<=n+m->sm (o5 n m w p a q) t=sm a (Ps n m w p t)+sm q (t-Ps n m w p t)
 |0,_=>rfl
 |t+1,h=>by
  have ad:=pO (n:=n) (m:=m) (w:=w) (p:=p) t (by omega);have e:sm (o5 n m w p a q) (t+1)=sm (o5 n m w p a q) t+o5 n m w p a q t:=rfl;rw[e,Ak t (by omega)];simp only[Ps,o5];by_cases hc:jI n m w p (Ps n m w p t) (t-Ps n m w p t)=true
  ·rw[if_pos hc,if_pos hc,show t+1-(Ps n m w p t+1)=t-Ps n m w p t by omega];simp only[sm];omega
  ·rw[if_neg hc,if_neg hc,show t+1-Ps n m w p t=t-Ps n m w p t+1 by omega];simp only[sm];omega
def jO(n:Nat)(w:Nat->Nat):Nat->Nat->Nat->Nat
 |0,t,i=>if i=t then 1 else 0
 |k+1,t,i=>o5 n (gH n k/2) w (iw (hH n w k)) (fun s=>if i=s then 1 else 0) (iw fun s=>jO n w k s i) t
theorem wR(i:Nat):∀t,sm (fun s=>if i=s then 1 else 0) t=if i<t then 1 else 0
 |0=>rfl
 |t+1=>by
  simp only[sm];rw[wR i t];split<;>split<;>split<;>omega
theorem uj{n:Nat}{w:Nat->Nat}(i:Nat):∀k t,t<=gH n k->sm (fun s=>jO n w k s i) t=PJ n w k t i
 |0,t,_=>wR i t
 |k+1,t,h=>by
  have ad:=pO (n:=n) (m:=gH n k/2) (w:=w) (p:=iw (hH n w k)) t h;have e1:sm (fun s=>jO n w (k+1) s i) t=sm (fun s=>if i=s then 1 else 0) (Pu n w (k+1) t)+sm (iw fun s=>jO n w k s i) (t-Pu n w (k+1) t):=Ak t h;have e2:PJ n w (k+1) t i=(if i<Pu n w (k+1) t then 1 else 0)+PJ n w k (2*(t-Pu n w (k+1) t)) i:=rfl;have al:t-Pu n w (k+1) t<=gH n k/2:=ad.2.1;rw[e1,e2,wR,zM,uj i k _ (by omega)]
theorem F5{n:Nat}{w:Nat->Nat}{k t:Nat}(h:t<gH n k)(i:Nat):jO n w k t i<=k+1:=by
 have h1:=uj (n:=n) (w:=w) i k (t+1) h;have h2:=qU n w k (t+1) i;have e:sm (fun s=>jO n w k s i) (t+1)=sm (fun s=>jO n w k s i) t+jO n w k t i:=rfl;omega
theorem um{n M:Nat}{w:Nat->Nat}(hM:∀i,i<n->w i<=M):∀k t,t<gH n k->hH n w k t<=2^k*M
 |0,t,h=>by have:=hM t h;simpa[hH]using this
 |k+1,t,h=>by
  have av:=pO (n:=n) (m:=gH n k/2) (w:=w) (p:=iw (hH n w k)) t (by have:gH n (k+1)=n+gH n k/2:=rfl;omega);have hlen:gH n (k+1)=n+gH n k/2:=rfl;have al:=pO (n:=n) (m:=gH n k/2) (w:=w) (p:=iw (hH n w k)) (t+1) (by omega);have ad:M<=2^(k+1)*M:=Nat.le_mul_of_pos_left _ (Nat.two_pow_pos _);have hs:Ps n (gH n k/2) w (iw (hH n w k)) (t+1)=if jI n (gH n k/2) w (iw (hH n w k)) (Ps n (gH n k/2) w (iw (hH n w k)) t) (t-Ps n (gH n k/2) w (iw (hH n w k)) t)=true then Ps n (gH n k/2) w (iw (hH n w k)) t+1 else Ps n (gH n k/2) w (iw (hH n w k)) t:=rfl
  have er:hH n w (k+1) t=mA n (gH n k/2) w (iw (hH n w k)) t:=rfl;rw[er];unfold mA;by_cases hc:jI n (gH n k/2) w (iw (hH n w k)) (Ps n (gH n k/2) w (iw (hH n w k)) t) (t-Ps n (gH n k/2) w (iw (hH n w k)) t)=true
  ·rw[if_pos hc]at hs⊢;exact Nat.le_trans (hM _ (by omega)) ad
  ·rw[if_neg hc]at hs⊢;have h1:=um hM k (2*(t-Ps n (gH n k/2) w (iw (hH n w k)) t)) (by omega);have h2:=um hM k (2*(t-Ps n (gH n k/2) w (iw (hH n w k)) t)+1) (by omega);have h3:iw (hH n w k) (t-Ps n (gH n k/2) w (iw (hH n w k)) t)=hH n w k (2*(t-Ps n (gH n k/2) w (iw (hH n w k)) t))+hH n w k (2*(t-Ps n (gH n k/2) w (iw (hH n w k)) t)+1):=rfl;rw[h3,Nat.pow_succ,Nat.mul_comm (2^k) 2,Nat.mul_assoc];omega
theorem F6:(prog.info? 245).map (fun i=>(i.zero,i.size,i.bytes))=some (some (.agg #[ae aj 0,af none 0 0]),2,32):=by kernel_rfl
def An(w:aq)(B:Nat)(ex:Option Nat)(n m:Nat)(W:Nat->Nat)(C:Nat->Nat->Nat)(cs:List ax):Prop:=
 cs.length=m*2/\∀t,t<m->∃b,cs[t*2]?=some (ae aj (W t:Int))/\cs[t*2+1]?=some (af (some ⟨b,0,none⟩) n n)/\b<B/\some b≠ex/\∀i,i<n->w.cell? ⟨b,i,none⟩=some (ae aj (C t i:Int))
def jW(w:aq)(base:Nat)(A:Option au)(c n m:Nat)(W:Nat->Nat)(C:Nat->Nat->Nat):Prop:=
 ∃cs,w.ownsRow base 245 2 (af A m c) m cs/\An w w.heap.size (Value.slice A m c).ownBlock n m W C cs
def lM(w:aq)(B:Nat)(A:Option au)(n m:Nat)(W:Nat->Nat)(C:Nat->Nat->Nat):Prop:=∃cs,gX w B 2 A m cs/\An w B none n m W C cs
theorem jW.none_(w:aq)(base n:Nat)(W:Nat->Nat)(C:Nat->Nat->Nat):jW w base none 0 n 0 W C:=⟨[],World.ownsRow_nil w _ _ 2,by simp,fun t h=>absurd h (by omega)⟩
theorem jW.rd{w:aq}{base c n m:Nat}{A:Option au}{W:Nat->Nat}{C:Nat->Nat->Nat}(h:jW w base A c n m W C):lM w w.heap.size A n m W C:=by
 obtain⟨cs,h1,h2,h3⟩:=h;refine⟨cs,gX.gR h1,h2,fun t ht=>?_⟩;obtain⟨b,q1,q2,q3,_,q5⟩:=h3 t ht;exact⟨b,q1,q2,q3,(by simp),q5⟩
theorem lM.below{w w':aq}{B B' n m:Nat}{A:Option au}{W:Nat->Nat}{C:Nat->Nat->Nat}(h:lM w B A n m W C)(hb:aR B' w w')(hB:B<=B'):lM w' B A n m W C:=by
 obtain⟨cs,h1,h2,h3⟩:=h;refine⟨cs,h1.below hb hB,h2,fun t ht=>?_⟩;obtain⟨b,q1,q2,q3,q4,q5⟩:=h3 t ht;exact⟨b,q1,q2,q3,q4,fun i hi=>by rw[hb.cell (p:=⟨b,i,none⟩) (by show b<B';omega)];exact q5 i hi⟩
theorem lM.more{w:aq}{B B' n m:Nat}{A:Option au}{W:Nat->Nat}{C:Nat->Nat->Nat}(h:lM w B A n m W C)(hB:B<=B'):lM w B' A n m W C:=by
 obtain⟨cs,h1,h2,h3⟩:=h;refine⟨cs,h1.more hB,h2,fun t ht=>?_⟩;obtain⟨b,q1,q2,q3,q4,q5⟩:=h3 t ht;exact⟨b,q1,q2,by omega,q4,q5⟩
theorem lM.at{w:aq}{B n m:Nat}{A:Option au}{W:Nat->Nat}{C:Nat->Nat->Nat}(h:lM w B A n m W C)(hm:0<m):∃a o,A=some ⟨a,o,none⟩/\a<B/\
  ∀t,t<m->∃b,w.cell? ⟨a,o+t*2,none⟩=some (ae aj (W t:Int))/\w.cell? ⟨a,o+t*2+1,none⟩=some (af (some ⟨b,0,none⟩) n n)/\b<B/\∀i,i<n->w.cell? ⟨b,i,none⟩=some (ae aj (C t i:Int)):=by
 obtain⟨cs,h1,h2,h3⟩:=h
 obtain⟨a,o,rfl,ha,hc⟩:=h1.2 hm
 refine⟨a,o,rfl,ha,fun t ht=>?_⟩
 obtain⟨b,q1,q2,q3,q4,q5⟩:=h3 t ht
 exact⟨b,hc _ _ q1,hc _ _ q2,q3,q5⟩
theorem jW.after{w w':aq}{base c n m:Nat}{A:Option au}{W:Nat->Nat}{C:Nat->Nat->Nat}(h:jW w base A c n m W C)(hb:aR w.heap.size w w'):jW w' base A c n m W C:=by
 obtain⟨cs,h1,h2,h3⟩:=h;have hg:w.grownBy w' none:=⟨hb.os,hb.tape,hb.output,hb.size,fun k hk _=>hb.block k hk⟩;refine⟨cs,h1.kept hg (by cases (Value.slice A m c).ownBlock<;>simp),h2,fun t ht=>?_⟩;obtain⟨b,q1,q2,q3,q4,q5⟩:=h3 t ht;have hs:=hb.size;exact⟨b,q1,q2,by omega,q4,fun i hi=>by rw[hb.cell (p:=⟨b,i,none⟩) q3];exact q5 i hi⟩
theorem sg(w:aq)(base:Nat)(A:Option au)(c n m:Nat)(W:Nat->Nat)(C:Nat->Nat->Nat)(h:jW w base A c n m W C)(b:Nat)(hb:b<w.heap.size)(aW:some b≠(Value.slice A m c).ownBlock)
  (hc:∀i,i<n->w.cell? ⟨b,i,none⟩=some (ae aj (C m i:Int))) (hm:m+1<=1000) (aS:base<=w.heap.size):
  ∃A' c' w',(Builtin.append_ #[240,240] 240 #[af A m c,af (some ⟨w.heap.size,0,none⟩) 1 1]).run prog (w.alloc (ak #[ae aj (W m:Int),af (some ⟨b,0,none⟩) n n] 245))=.ok (af A' (m+1) c') w'/\
   jW w' base A' c' n (m+1) W C/\aR base w w':=by
 obtain⟨cs,h1,h2,h3⟩:=h
 obtain⟨U,hU⟩:=fY (w.alloc (ak #[ae aj (W m:Int),af (some ⟨b,0,none⟩) n n] 245))
 have aX:U.heap.size=w.heap.size+1:=by rw[hU];simp
 have aT:aR w.heap.size w U:=by rw[hU];exact gC.alloc fZ _
 have al:U.ownsRow base 245 2 (af A m c) m cs:=by rw[hU];exact h1.alloc _
 have av:=gX.new w 2 1 #[ae aj (W m:Int),af (some ⟨b,0,none⟩) n n] 245 rfl
 rw[<-hU]at av
 obtain⟨i0,hi,aY,aZ,a1⟩:=info_parts F6
 have ad:∀j u,([Value.int aj (W m:Int),af (some ⟨b,0,none⟩) n n]:List ax)[j]?=some u->U.cell? ((⟨w.heap.size,0,none⟩:au).add j)=some u:=by
  intro j u hu;obtain⟨b2,o2,e,_,a2⟩:=av.2 (by omega);injection e with e
  injection e with e1 e2 e3
  subst e1;subst e2;have e:(⟨w.heap.size,0,none⟩:au).add j=⟨w.heap.size,0+j,none⟩:=by unfold Addr.add;split<;>simp_all
  rw[e];exact a2 j u hu
 obtain⟨v',w',r1,r2,r3,_,r5⟩:=run_append_own_at (P:=prog) U base 240 240 245 i0 _ 2 32 underlying240 hi aY aZ a1 rfl (by decide) (af A m c) m cs al ⟨w.heap.size,0,none⟩ 1 1 _ rfl ad
  (fun u hu=>by simp at hu;rcases hu with rfl|rfl<;>rfl) (by unfold maxLen;omega) (by omega) (by omega)
 have hv:∃A' c',v'=af A' (m+1) c':=by
  rcases r2.2 with⟨_,h⟩|⟨g,cap,cur,rfl,_⟩
  ·omega
  ·exact⟨_,_,rfl⟩
 obtain⟨A',c',rfl⟩:=hv
 have aU:∀k,k<w.heap.size->some k≠(Value.slice A m c).ownBlock->w'.heap[k]?=w.heap[k]?/\some k≠(Value.slice A' (m+1) c').ownBlock:=by
  intro k hk aV;refine⟨(r3.block k (by omega) aV).trans (aT.block k hk),fun e=>?_⟩;rcases r5 with r5|r5
  ·exact aV (e.trans r5)
  ·rw[<-e,aX]at r5;injection r5 with r5;omega
 have a3:w.heap.size<=w'.heap.size:=by have:=r3.size;omega
 refine⟨A',c',w',(by rw[<-hU];exact r1),⟨cs++[ae aj (W m:Int),af (some ⟨b,0,none⟩) n n],r2,by simp[h2];omega,fun t ht=>?_⟩,((aT.mono aS).grown r3 (by omega) (oZ al))⟩
 by_cases e:t=m
 ·subst e;obtain⟨q1,q2⟩:=aU b hb aW;refine⟨b,by rw[List.getElem?_append_right (by omega),h2];simp,by rw[List.getElem?_append_right (by omega),h2,show t*2+1-t*2=1 by omega];rfl,by omega,q2,fun i hi=>?_⟩;rw[World.cell?_of_block (a:=⟨b,i,none⟩) q1];exact hc i hi
 ·obtain⟨d,q1,q2,q3,q4,q5⟩:=h3 t (by omega);obtain⟨p1,p2⟩:=aU d q3 q4;refine⟨d,by rw[List.getElem?_append_left (by omega)];exact q1,by rw[List.getElem?_append_left (by omega)];exact q2,by omega,p2,fun i hi=>?_⟩;rw[World.cell?_of_block (a:=⟨d,i,none⟩) p1];exact q5 i hi
def nt(w:aq)(g n:Nat)(f:Nat->Nat):Prop:=∃cur:Array ax,w.heap[g]?=some (ak cur 3 (0,0))/\∀j,j<n->cur[j]?=some (ae aj (f j:Int))
theorem nt.cell{w:aq}{g n:Nat}{f:Nat->Nat}(h:nt w g n f){j:Nat}(hj:j<n):w.cell? ⟨g,j,none⟩=some (ae aj (f j:Int)):=by
 obtain⟨cur,h1,h2⟩:=h;rw[aH w g _ _ _ (0,0) h1];exact h2 j hj
theorem nt.frozen{w:aq}{g n:Nat}{f:Nat->Nat}(h:nt w g n f)(j:Nat):w.frozen? ⟨g,j,none⟩=false:=by
 obtain⟨cur,h1,_⟩:=h;exact aO w g j _ _ h1
theorem nt.set{w:aq}{g n:Nat}{f:Nat->Nat}(h:nt w g n f)(i x:Nat):nt (w.setCell ⟨g,i,none⟩ (ae aj (x:Int))) g n (gL f i x):=by
 obtain⟨cur,h1,h2⟩:=h;refine⟨cur.setIfInBounds i (ae aj (x:Int)),aN w g _ cur _ _ h1,fun j hj=>?_⟩;have hs:j<cur.size:=by
  rcases Nat.lt_or_ge j cur.size with h|h
  ·exact h
  ·have:=h2 j hj;rw[Array.getElem?_eq_none h]at this;cases this
 simp only[Array.getElem?_setIfInBounds,gL];by_cases e:j=i
 ·subst e;rw[if_pos rfl,if_pos hs,if_pos rfl]
 ·rw[if_neg (fun h=>e h.symm),if_neg e];exact h2 j hj
theorem nt.ext{w:aq}{g n:Nat}{f f':Nat->Nat}(h:nt w g n f)(e:∀j,j<n->f j=f' j):nt w g n f':=by
 obtain⟨cur,h1,h2⟩:=h;exact⟨cur,h1,fun j hj=>by rw[<-e j hj];exact h2 j hj⟩
theorem Av(w:aq)(n:Nat):nt (w.alloc (ak (aJ #[ae aj 0] n) 3)) w.heap.size n (fun _=>0):=by
 refine⟨_,aG w _,fun j hj=>?_⟩;unfold aJ;have e1:j%1=0:=by omega
 simp[hj,e1]
theorem F7(w:aq)(n k:Nat):nt (w.alloc (ak ((aJ #[ae aj 0] n).setIfInBounds k (ae aj 1)) 3)) w.heap.size n (gL (fun _=>0) k 1):=by
 refine⟨_,aG w _,fun j hj=>?_⟩;have e1:j%1=0:=by omega
 simp only[Array.getElem?_setIfInBounds,gL,size_madeCells];by_cases e:j=k
 ·subst e;rw[if_pos rfl,if_pos hj,if_pos rfl];rfl
 ·rw[if_neg (fun h=>e h.symm),if_neg e];unfold aJ;simp[hj,e1]
theorem Ax(n:Nat)(h:n<=1000):∀u:aq,(Instr.makeSlice 185 (ae aj (n:Int)) (ae aj (n:Int))).run prog u=
   .ok (af (some ⟨u.heap.size,0,none⟩) n n) (u.alloc (ak (aJ #[ae aj 0] n) 3)):=fun u=>by
 obtain⟨i0,hi,ad,al,av⟩:=info_parts sf
 have h:=run_make (P:=prog) u 185 3 i0 (ae aj 0) underlying185 hi ad aj aj (n:Int) (n:Int) (by omega) (Int.le_refl _) (by rw[av];omega) (by omega)
 rw[Int.toNat_natCast]at h
 simpa[al,Value.cells]using h
theorem jW.fresh{w:aq}{base c n m:Nat}{A:Option au}{W:Nat->Nat}{C:Nat->Nat->Nat}(h:jW w base A c n m W C){b:Nat}(hb:w.heap.size<=b):some b≠(Value.slice A m c).ownBlock:=by
 obtain⟨cs,h1,_⟩:=h;intro e;have:=(h1.lt b e.symm).2;omega
theorem F8(w:aq)(A:Option au)(c:Nat)(l:List Int)(hr:jq w w.heap.size A l)(A2:Option au)(c2:Nat)(L:List Nat)(a6:jq w w.heap.size A2 (iN L))(hn:L.length<=400)
  (hL:∀j,j<L.length->L.getD j 0<l.length/\0<l.getD (L.getD j 0) 0) (hb:∀j,j<l.length->-9223372036854775808<=l.getD j 0/\l.getD j 0<=9223372036854775807) (_ad:l.length<=1000):
  aw prog 162 #[af A l.length c,af A2 L.length c2] w fun e w'=>∃A' c',e=ao (af A' L.length c')/\aR w.heap.size w w'/\
   jW w' w.heap.size A' c' L.length L.length (fun t=>gB l (L.getD t 0)) (fun t i=>if i=t then 1 else 0):=by
 have HR:=fX hr
 have bk:=fX a6
 have HL:=fX hL
 have a7:=fX hb
 have bl:=Ax L.length (by omega)
 have aZ:=nM L
 clear hr a6 hL hb
 obtain⟨n,a1⟩:=fY (L.length)
 obtain⟨W,hW⟩:∃W:Nat->Nat,W=fun t=>gB l (L.getD t 0):=⟨_,rfl⟩
 obtain⟨C,hC⟩:∃C:Nat->Nat->Nat,C=fun t i=>if i=t then 1 else 0:=⟨_,rfl⟩
 rw[<-a1]at hn HL aZ bl⊢
 rw[<-hW,<-hC]
 obtain⟨N,a2⟩:=fY (l.length)
 rw[<-a2]at HL a7 _ad⊢
 have HN:=fX a1;have a8:=fX a2;have HW:=fX hW;have HC:=fX hC;have HM:=fX aZ
 clear a1 a2 hW hC aZ
 go_enter func162,ntmps162
 go_wp2
 go_loopw [5,6,7] (fun o i _ wr=>∃(k:Nat) (Ao:Option au) (co:Nat),k<=n/\i=ae aj k/\o=af Ao k co/\jW wr w.heap.size Ao co n k W C/\aR w.heap.size w wr) (fun _ i _ _=>n-(aP i).toNat)
 case atStart=>exact⟨0,none,0,Nat.zero_le _,rfl,rfl,jW.none_ _ _ _ _ _,Below.refl _ _⟩
 case round=>
  obtain⟨k,Ao,co,hk,rfl,rfl,al,aU⟩:=hrel;by_cases aV:k<n
  ·have a9:=al.fresh fZ;obtain⟨U,hU⟩:=fY (wr.alloc (ak ((aJ #[ae aj 0] n).setIfInBounds k (ae aj 1)) 3));have aS:=Av wr n;have a3:aR wr.heap.size wr U:=by rw[hU];exact gC.alloc fZ _
   have bd:U.heap.size=wr.heap.size+1:=by rw[hU];simp
   have aY:nt U wr.heap.size n (C k):=by
    rw[hU];exact(F7 wr n k).ext (fun j _=>by rw[HC.out];rfl)
   have bm:=aU.size;have aW:=al.after a3;have av:=aU.trans (a3.mono bm);obtain⟨b2,o2,rfl,bt,bf⟩:=(bk.out.below av fZ).at (k:=k) (by rw[HM.out];exact aV);have aT:=bf k (by rw[HM.out];exact aV);rw[qX]at aT;have hj:=HL.out k aV;obtain⟨j,a4⟩:=fY (L.getD k 0);rw[<-a4]at hj aT;obtain⟨a5,bn⟩:=hj;obtain⟨b1,o1,rfl,bu,bg⟩:=(HR.out.below av fZ).at (k:=j) (by rw[<-a8.out];exact a5);have aX:=bg j (by rw[<-a8.out];exact a5);have hx:l.getD j 0=(W k:Int):=by
    rw[HW.out];show l.getD j 0=((gB l (L.getD k 0):Nat):Int)
    rw[<-a4];unfold gB;omega
   have bp:=(a7.out j a5).2;rw[hx]at aX bp;obtain⟨Ac,cc,wc,r1,ho,bj⟩:=sg U w.heap.size Ao co n k W C aW wr.heap.size (by omega) a9 (fun i hi=>aY.cell hi) (by omega) av.size;rw[bd]at r1;have bx:=aS.frozen k;have bz:=aS.cell aV;have R1:=fX r1;have bq:=fX ho;have br:=fX (av.trans (bj.mono fZ))
   clear bd al aU aS a3 aY aW av bg bf hx a4 r1 ho bj a9 bn;subst hU;go_wp2_with (at_builtin;refine wpList_append_run rfl (.tmp 20) (.tmp 30) 240 rfl (af Ao k co) (af (some ⟨wr.heap.size+1,0,none⟩) 1 1) (af Ac (k+1) cc) wc rfl rfl R1.out ?_)
   go_roundw
   case rel=>exact⟨k+1,Ac,cc,by omega,by go_num,rfl,bq.out,br.out⟩
   case measure=>simp[aP];omega
  ·obtain rfl:k=n:=by omega
   have HO:=fX al;have HB:=fX aU
   clear al aU aV hk;go_wp2;go_ret;exact⟨Ao,co,rfl,HB.out,HO.out⟩
theorem jW.oQ{w:aq}{base c n m:Nat}{A:Option au}{W:Nat->Nat}{C:Nat->Nat->Nat}(h:jW w base A c n m W C){b:Nat}(hb:b<base):some b≠(Value.slice A m c).ownBlock:=by
 obtain⟨cs,h1,_⟩:=h;intro e;have:=(h1.lt b e.symm).1;omega
theorem jW.drawn{w:aq}{base c n m:Nat}{A:Option au}{W:Nat->Nat}{C:Nat->Nat->Nat}(h:jW w base A c n m W C)(q:Nat):jW (w.drewN q) base A c n m W C:=h
theorem uo{B:Nat}{a w:aq}(h:aR B a w)(n:Nat):aR B a (w.drewN n):=⟨h.os,h.tape,h.output,h.size,h.block⟩
theorem F9(w:aq)(A:Option au)(c n:Nat)(W1:Nat->Nat)(C1:Nat->Nat->Nat)(hr:lM w w.heap.size A n n W1 C1)(A2:Option au)(c2 m:Nat)(W2:Nat->Nat)(C2:Nat->Nat->Nat)(bg:lM w w.heap.size A2 n m W2 C2)(bp:n+m<=900):
  aw prog 163 #[af A n c,af A2 m c2] w fun e w'=>∃A' c',e=ao (af A' (n+m) c')/\aR w.heap.size w w'/\
   jW w' w.heap.size A' c' n (n+m) (mA n m W1 W2) (fun t i=>o5 n m W1 W2 (fun s=>C1 s i) (fun s=>C2 s i) t):=by
 have HR:=fX hr
 have bj:=fX bg
 clear hr bg
 obtain⟨W,hW⟩:∃W:Nat->Nat,W=mA n m W1 W2:=⟨_,rfl⟩
 obtain⟨C,hC⟩:∃C:Nat->Nat->Nat,C=fun t i=>o5 n m W1 W2 (fun s=>C1 s i) (fun s=>C2 s i) t:=⟨_,rfl⟩
 rw[<-hW,<-hC]
 have HW:=fX hW;have HC:=fX hC
 clear hW hC
 go_enter func163,ntmps163
 go_wp2
 go_loopw [5,6,7] (fun o i k wr=>∃(x y:Nat) (Ao:Option au) (co:Nat),x<=n/\y<=m/\i=ae aj x/\k=ae aj y/\o=af Ao (x+y) co/\Ps n m W1 W2 (x+y)=x/\jW wr w.heap.size Ao co n (x+y) W C/\aR w.heap.size w wr) (fun _ i k _=>n+m-(aP i).toNat-(aP k).toNat)
 case atStart=>exact⟨0,0,none,0,Nat.zero_le _,Nat.zero_le _,rfl,rfl,rfl,rfl,jW.none_ _ _ _ _ _,Below.refl _ _⟩
 case round=>
  obtain⟨x,y,Ao,co,hx,hy,rfl,rfl,rfl,aW,aS,av⟩:=hrel;have bq:=av.size;have hs:Ps n m W1 W2 (x+y+1)=if jI n m W1 W2 x y=true then x+1 else x:=by
   show(if jI n m W1 W2 (Ps n m W1 W2 (x+y)) (x+y-Ps n m W1 W2 (x+y))=true then Ps n m W1 W2 (x+y)+1 else Ps n m W1 W2 (x+y))=_
   rw[aW,show x+y-x=y by omega]
  have hw:W (x+y)=if jI n m W1 W2 x y=true then W1 x else W2 y:=by
   rw[HW.out];unfold mA;rw[aW,show x+y-x=y by omega]
  have hc:∀i,C (x+y) i=if jI n m W1 W2 x y=true then C1 x i else C2 y i:=fun i=>by
   rw[HC.out];show o5 _ _ _ _ _ _ _=_;unfold o5;rw[aW,show x+y-x=y by omega]
  by_cases aT:x<n\/y<m
  ·by_cases hp:jI n m W1 W2 x y=true
   ·rw[if_pos hp]at hs hw;have a8:x<n:=by have:=of_decide_eq_true hp;omega
    have a6:=of_decide_eq_true hp;obtain⟨a,o,rfl,ha,aY⟩:=(HR.out.below av fZ).at (by omega);obtain⟨b,h1,h2,hb,h3⟩:=aY x a8;have bl:((x:Int)<(n:Int)):=by omega
    have HO:=fX aS;have HB:=fX av;have HS:=fX hs;have a7:=fX hc;have HH:=fX h3;have HP:=fX hp
    rw[<-hw]at h1;obtain⟨g,hg⟩:=fY (W (x+y));rw[<-hg]at h1 hw;have HG:=fX hg;by_cases a9:y=m
    ·have heq:((y:Int)==(m:Int))=true:=by simp;omega
     clear aS av hs hc h3 aW hp hg aY aT hw a6 a9;go_wp2;go_quiet (fail)
     obtain⟨V,hV⟩:=fY (wr.drewN nq);have e1:V.cell? ⟨a,o+x*2,none⟩=some (ae aj (g:Int)):=by rw[hV];exact h1
     have e2:V.cell? ⟨a,o+x*2+1,none⟩=some (af (some ⟨b,0,none⟩) n n):=by rw[hV];exact h2
     have aZ:V.heap.size=wr.heap.size:=by rw[hV];rfl
     have al:jW V w.heap.size Ao co n (x+y) W C:=by rw[hV];exact HO.out.drawn nq
     have ad:aR w.heap.size w V:=by rw[hV];exact uo HB.out nq
     have aU:∀i,i<n->V.cell? ⟨b,i,none⟩=some (ae aj (C (x+y) i:Int)):=fun i hi=>by rw[hV,a7.out i,if_pos HP.out];exact HH.out i hi
     rw[<-hV];have bd:=ad.size;have a1:b<V.heap.size:=by omega
     clear hV h1 h2;obtain⟨Ac,cc,wc,r1,ho,aV⟩:=sg V w.heap.size Ao co n (x+y) W C al b (by omega) (al.oQ hb) aU (by omega) ad.size;rw[<-HG.out]at r1;have R1:=fX r1;have a3:=fX ho;have a4:=fX (ad.trans aV)
     clear r1 ho aV al ad aU aZ a1;go_wp2_with (at_builtin;refine wpList_append_run rfl (.tmp 41) (.tmp 46) 240 rfl (af Ao (x+y) co) (af (some ⟨V.heap.size,0,none⟩) 1 1) (af Ac (x+y+1) cc) wc rfl rfl R1.out ?_)
     go_roundw
     case rel=>
      refine⟨x+1,y,Ac,cc,by omega,hy,by go_num,rfl,by rw[show x+1+y=x+y+1 by omega],by rw[show x+1+y=x+y+1 by omega];exact HS.out,?_,a4.out⟩;rw[show x+1+y=x+y+1 by omega];exact a3.out
     case measure=>simp[aP];omega
    ·have heq:((y:Int)==(m:Int))=false:=by simp;omega
     obtain⟨a2,o2,rfl,bm,aX⟩:=(bj.out.below av fZ).at (by omega);obtain⟨_,h4,_,_,_⟩:=aX y (by omega);obtain⟨g2,a5⟩:=fY (W2 y);have hle:decide ((g:Int)<=(g2:Int))=true:=by simp;omega
     have bk:decide (g<=g2)=true:=by simpa using hle
     rw[<-a5]at h4;have bn:=fX a5;clear aS av hs hc h3 aW hp hg aY aX a5 aT hw a6;go_wp2;go_quiet (fail)
     obtain⟨V,hV⟩:=fY (wr.drewN nq);have e1:V.cell? ⟨a,o+x*2,none⟩=some (ae aj (g:Int)):=by rw[hV];exact h1
     have e2:V.cell? ⟨a,o+x*2+1,none⟩=some (af (some ⟨b,0,none⟩) n n):=by rw[hV];exact h2
     have aZ:V.heap.size=wr.heap.size:=by rw[hV];rfl
     have al:jW V w.heap.size Ao co n (x+y) W C:=by rw[hV];exact HO.out.drawn nq
     have ad:aR w.heap.size w V:=by rw[hV];exact uo HB.out nq
     have aU:∀i,i<n->V.cell? ⟨b,i,none⟩=some (ae aj (C (x+y) i:Int)):=fun i hi=>by rw[hV,a7.out i,if_pos HP.out];exact HH.out i hi
     rw[<-hV];have bd:=ad.size;have a1:b<V.heap.size:=by omega
     clear hV h1 h2;obtain⟨Ac,cc,wc,r1,ho,aV⟩:=sg V w.heap.size Ao co n (x+y) W C al b (by omega) (al.oQ hb) aU (by omega) ad.size;rw[<-HG.out]at r1;have R1:=fX r1;have a3:=fX ho;have a4:=fX (ad.trans aV)
     clear r1 ho aV al ad aU aZ a1;go_wp2_with (at_builtin;refine wpList_append_run rfl (.tmp 41) (.tmp 46) 240 rfl (af Ao (x+y) co) (af (some ⟨V.heap.size,0,none⟩) 1 1) (af Ac (x+y+1) cc) wc rfl rfl R1.out ?_)
     go_roundw
     case rel=>
      refine⟨x+1,y,Ac,cc,by omega,hy,by go_num,rfl,by rw[show x+1+y=x+y+1 by omega],by rw[show x+1+y=x+y+1 by omega];exact HS.out,?_,a4.out⟩;rw[show x+1+y=x+y+1 by omega];exact a3.out
     case measure=>simp[aP];omega
   ·have bf:jI n m W1 W2 x y=false:=by simpa using hp
    have a6:=of_decide_eq_false bf;rw[if_neg hp]at hs hw;have a9:y<m:=by omega
    obtain⟨a,o,rfl,ha,aY⟩:=(bj.out.below av fZ).at (by omega);obtain⟨b,h1,h2,hb,h3⟩:=aY y a9;have HO:=fX aS;have HB:=fX av;have HS:=fX hs;have a7:=fX hc;have HH:=fX h3;have HP:=fX hp
    rw[<-hw]at h1;obtain⟨g,hg⟩:=fY (W (x+y));rw[<-hg]at h1 hw;have HG:=fX hg;have br:((y:Int)<(m:Int)):=by omega
    have heq:((y:Int)==(m:Int))=false:=by simp;omega
    by_cases a8:x<n
    ·obtain⟨a2,o2,rfl,bm,aX⟩:=(HR.out.below av fZ).at (by omega);obtain⟨_,h4,_,_,_⟩:=aX x a8;obtain⟨g2,a5⟩:=fY (W1 x);have hle:decide ((g2:Int)<=(g:Int))=false:=by simp;omega
     have bl:((x:Int)<(n:Int)):=by omega
     have bk:decide (g2<=g)=false:=by simp at hle⊢;omega
     rw[<-a5]at h4;have bn:=fX a5;clear aS av hs hc h3 aW hp hg aY aX a5 aT hw a6 bf;go_wp2;go_quiet (fail)
     obtain⟨V,hV⟩:=fY (wr.drewN nq);have e1:V.cell? ⟨a,o+y*2,none⟩=some (ae aj (g:Int)):=by rw[hV];exact h1
     have e2:V.cell? ⟨a,o+y*2+1,none⟩=some (af (some ⟨b,0,none⟩) n n):=by rw[hV];exact h2
     have aZ:V.heap.size=wr.heap.size:=by rw[hV];rfl
     have al:jW V w.heap.size Ao co n (x+y) W C:=by rw[hV];exact HO.out.drawn nq
     have ad:aR w.heap.size w V:=by rw[hV];exact uo HB.out nq
     have aU:∀i,i<n->V.cell? ⟨b,i,none⟩=some (ae aj (C (x+y) i:Int)):=fun i hi=>by rw[hV,a7.out i,if_neg HP.out];exact HH.out i hi
     rw[<-hV];have bd:=ad.size;have a1:b<V.heap.size:=by omega
     clear hV h1 h2;obtain⟨Ac,cc,wc,r1,ho,aV⟩:=sg V w.heap.size Ao co n (x+y) W C al b (by omega) (al.oQ hb) aU (by omega) ad.size;rw[<-HG.out]at r1;have R1:=fX r1;have a3:=fX ho;have a4:=fX (ad.trans aV)
     clear r1 ho aV al ad aU aZ a1;go_wp2_with (at_builtin;refine wpList_append_run rfl (.tmp 50) (.tmp 55) 240 rfl (af Ao (x+y) co) (af (some ⟨V.heap.size,0,none⟩) 1 1) (af Ac (x+y+1) cc) wc rfl rfl R1.out ?_)
     go_roundw
     case rel=>
      exact⟨x,y+1,Ac,cc,hx,by omega,rfl,by go_num,rfl,HS.out,a3.out,a4.out⟩
     case measure=>simp[aP];omega
    ·obtain rfl:x=n:=by omega
     have d1:decide ((x:Int)<(x:Int))=false:=by simp
     clear aS av hs hc h3 aW hp hg aY aT hw a6 bf a8;go_wp2;go_quiet (fail)
     obtain⟨V,hV⟩:=fY (wr.drewN nq);have e1:V.cell? ⟨a,o+y*2,none⟩=some (ae aj (g:Int)):=by rw[hV];exact h1
     have e2:V.cell? ⟨a,o+y*2+1,none⟩=some (af (some ⟨b,0,none⟩) x x):=by rw[hV];exact h2
     have aZ:V.heap.size=wr.heap.size:=by rw[hV];rfl
     have al:jW V w.heap.size Ao co x (x+y) W C:=by rw[hV];exact HO.out.drawn nq
     have ad:aR w.heap.size w V:=by rw[hV];exact uo HB.out nq
     have aU:∀i,i<x->V.cell? ⟨b,i,none⟩=some (ae aj (C (x+y) i:Int)):=fun i hi=>by rw[hV,a7.out i,if_neg HP.out];exact HH.out i hi
     rw[<-hV];have bd:=ad.size;have a1:b<V.heap.size:=by omega
     clear hV h1 h2;obtain⟨Ac,cc,wc,r1,ho,aV⟩:=sg V w.heap.size Ao co x (x+y) W C al b (by omega) (al.oQ hb) aU (by omega) ad.size;rw[<-HG.out]at r1;have R1:=fX r1;have a3:=fX ho;have a4:=fX (ad.trans aV)
     clear r1 ho aV al ad aU aZ a1;go_wp2_with (at_builtin;refine wpList_append_run rfl (.tmp 50) (.tmp 55) 240 rfl (af Ao (x+y) co) (af (some ⟨V.heap.size,0,none⟩) 1 1) (af Ac (x+y+1) cc) wc rfl rfl R1.out ?_)
     go_roundw
     case rel=>
      exact⟨x,y+1,Ac,cc,Nat.le_refl _,by omega,rfl,by go_num,rfl,HS.out,a3.out,a4.out⟩
     case measure=>simp[aP];omega
  ·obtain rfl:x=n:=by omega
   obtain rfl:y=m:=by omega
   have HO:=fX aS;have HB:=fX av
   clear aS av aT hs hw hc aW;have d1:decide ((x:Int)<(x:Int))=false:=by simp
   have d2:decide ((y:Int)<(y:Int))=false:=by simp
   go_wp2;go_ret;exact⟨Ao,co,rfl,HB.out,HO.out⟩
theorem sh{ops:Array aA}{o:aA}{a:Act}{w:aq}{K:Act->aq->Prop}{Q:Exit->Act->aq->Prop}{E:Prop}(ad:o.guard=none)(s x:Operand)(t tn:aB)
  (ho:o.op=.call {callee:=.builtin .append,args:=#[s,x],argTypes:=#[t,tn]}) (vs vx:ax) (hs:a.eval s=vs) (hx:a.eval x=vx)
  (v':ax) (w':aq) (hr:(Builtin.append_ #[t,tn] o.type #[vs,vx]).run prog w=.ok v' w') (h:K (a.put o.dst v') w'):
  if Region.wanted o (yielded ops a.tmps)=true then Oper.wp prog o a w K Q else E:=by
 have hw:Region.wanted o (yielded ops a.tmps)=true:=by simp[Region.wanted,ad]
 rw[if_pos hw]
 exact Go.Lib.wp_append_run w s x t tn ho vs vx hs hx v' w' hr h
def qY(f g:Nat->Nat)(j i:Nat):Nat:=if i<j then f i+g i else 0
theorem Ga(f g:Nat->Nat)(j:Nat):gL (qY f g j) j (f j+g j)=qY f g (j+1):=by
 funext i;unfold gL qY;by_cases e:i=j
 ·subst e;rw[if_pos rfl,if_pos (by omega)]
 ·rw[if_neg e];by_cases h:i<j
  ·rw[if_pos h,if_pos (by omega)]
  ·rw[if_neg h,if_neg (by omega)]
theorem Gb(w:aq)(A:Option au)(c n m:Nat)(W:Nat->Nat)(C:Nat->Nat->Nat)(hr:lM w w.heap.size A n m W C)(hn:n<=400)(hm:m<=900)
  (hw:∀t,t<m->W t<=1125899906842624) (hc:∀t i,t<m->C t i<=1000):
  aw prog 164 #[af A m c] w fun e w'=>∃A' c',e=ao (af A' (m/2) c')/\aR w.heap.size w w'/\
   jW w' w.heap.size A' c' n (m/2) (iw W) (fun t i=>iw (fun s=>C s i) t):=by
 have HR:=fX hr
 have HW:=fX hw
 have HC:=fX hc
 have bA:=Ax n (by omega)
 clear hr hw hc
 obtain⟨PW,aZ⟩:∃PW:Nat->Nat,PW=iw W:=⟨_,rfl⟩
 obtain⟨PC,a1⟩:∃PC:Nat->Nat->Nat,PC=fun t i=>iw (fun s=>C s i) t:=⟨_,rfl⟩
 rw[<-aZ,<-a1]
 have bk:=fX aZ;have bl:=fX a1
 clear aZ a1
 go_enter func164,ntmps164
 go_wp2
 go_loopw [3,4,5,6] (fun o i _ _ wr=>∃(t i0:Nat) (Ao:Option au) (co:Nat),i0=2*t/\i0<=m/\i=ae aj i0/\o=af Ao t co/\jW wr w.heap.size Ao co n t PW PC/\aR w.heap.size w wr) (fun _ i _ _ _=>m-(aP i).toNat)
 case atStart=>exact⟨0,0,none,0,rfl,Nat.zero_le _,rfl,rfl,jW.none_ _ _ _ _ _,Below.refl _ _⟩
 case round=>
  obtain⟨t,i0,Ao,co,a2,bB,rfl,rfl,aT,aU⟩:=hrel;obtain⟨wo,rfl⟩:∃wo:aq,wo=wr:=⟨_,rfl⟩;have bm:=aU.size;by_cases a3:i0+1<m
  ·obtain⟨a,o,rfl,ha,a4⟩:=(HR.out.below aU fZ).at (by omega);obtain⟨b1,h1,h2,bC,h3⟩:=a4 i0 (by omega);obtain⟨b2,h4,h5,bD,h6⟩:=a4 (i0+1) a3;have HT:=fX a2;have HO:=fX aT;have HB:=fX aU;have H1:=fX h1;have H2:=fX h2;have H3:=fX h3;have H4:=fX h4;have H5:=fX h5;have H6:=fX h6
   have bx:((i0:Int)+1<(m:Int)):=by omega
   clear aT aU a4 h1 h3 h4 h5 h6 a2;go_wp2;clear h2;have a5:=fX (Av wo n);have bn:=fX ((Below.refl wo.heap.size wo).alloc fZ (ak (aJ #[ae aj 0] n) 3));go_loopw [6] (fun k wi=>∃j:Nat,j<=n/\k=ae aj j/\nt wi wo.heap.size n (qY (C i0) (C (i0+1)) j)/\aR wo.heap.size wo wi/\wo.heap.size<wi.heap.size) (fun k _=>n-(aP k).toNat)
   case atStart=>exact⟨0,Nat.zero_le _,rfl,a5.out.ext (fun j _=>by unfold qY;rw[if_neg (by omega)]),bn.out,by simp⟩
   case round=>
    obtain⟨j,hj,rfl,al,ad,aW⟩:=hrel;obtain⟨wi,rfl⟩:∃wi:aq,wi=wr:=⟨_,rfl⟩;by_cases aV:j<n
    ·have c1:wi.cell? ⟨a,o+i0*2+1,none⟩=some (af (some ⟨b1,0,none⟩) n n):=by rw[ad.cell (p:=⟨a,o+i0*2+1,none⟩) (by show a<wo.heap.size;omega)];exact H2.out
     have c2:wi.cell? ⟨a,o+(i0+1)*2+1,none⟩=some (af (some ⟨b2,0,none⟩) n n):=by rw[ad.cell (p:=⟨a,o+(i0+1)*2+1,none⟩) (by show a<wo.heap.size;omega)];exact H5.out
     have c3:wi.cell? ⟨b1,j,none⟩=some (ae aj (C i0 j:Int)):=by rw[ad.cell (p:=⟨b1,j,none⟩) (by show b1<wo.heap.size;omega)];exact H3.out j aV
     have c4:wi.cell? ⟨b2,j,none⟩=some (ae aj (C (i0+1) j:Int)):=by rw[ad.cell (p:=⟨b2,j,none⟩) (by show b2<wo.heap.size;omega)];exact H6.out j aV
     have bp:=al.cell aV;have bE:=al.frozen j;have a6:=HC.out i0 j (by omega);have a7:=HC.out (i0+1) j a3;obtain⟨x1,av⟩:=fY (C i0 j);obtain⟨x2,aS⟩:=fY (C (i0+1) j);rw[<-av]at c3 a6;rw[<-aS]at c4 a7;have X1:=fX av;have X2:=fX aS
     have a9:=fX al;have bq:=fX ad
     clear al ad av aS;go_wp2;go_region;go_wp2;go_roundw
     case rel=>
      have aX:=a9.out.set j (x1+x2);rw[X1.out,X2.out,Ga,<-X1.out,<-X2.out,Int.natCast_add]at aX;refine⟨j+1,by omega,by go_num,aX,(bq.out.setCell fZ _).drew,?_⟩;show wo.heap.size<(wi.setCell _ _).heap.size
      simpa[World.setCell]using aW
     case measure=>simp[aP];omega
    ·obtain rfl:j=n:=by omega
     have c1:wi.cell? ⟨a,o+i0*2,none⟩=some (ae aj (W i0:Int)):=by rw[ad.cell (p:=⟨a,o+i0*2,none⟩) (by show a<wo.heap.size;omega)];exact H1.out
     have c2:wi.cell? ⟨a,o+(i0+1)*2,none⟩=some (ae aj (W (i0+1):Int)):=by rw[ad.cell (p:=⟨a,o+(i0+1)*2,none⟩) (by show a<wo.heap.size;omega)];exact H4.out
     have a6:=HW.out i0 (by omega);have a7:=HW.out (i0+1) a3;have bd:PW t=W i0+W (i0+1):=by rw[bk.out,HT.out];rfl
     have bf:∀i,i<j->PC t i=qY (C i0) (C (i0+1)) j i:=fun i hi=>by rw[bl.out,HT.out];unfold qY;rw[if_pos hi];rfl
     have bg:=HO.out.after ad;have a8:=HB.out.trans (ad.mono bm);have br:=HT.out;obtain⟨Ac,cc,wc,r1,ho,bj⟩:=sg wi.drew w.heap.size Ao co j t PW PC bg wo.heap.size aW (HO.out.fresh fZ) (fun i hi=>by rw[bf i hi];exact al.cell hi) (by omega) a8.size;rw[bd,Int.natCast_add]at r1;obtain⟨x1,av⟩:=fY (W i0);obtain⟨x2,aS⟩:=fY (W (i0+1));rw[<-av]at c1 a6 r1;rw[<-aS]at c2 a7 r1;have R1:=fX r1;have bt:=fX ho;have bu:=fX (a8.drew.trans bj)
     have bz:i0<m:=by omega
     have bF:(0:Int)<=(i0:Int)+1:=by omega
     have bG:IntKind.i64.wrap ((i0:Int)+1)=(i0:Int)+1:=by rw[IntKind.wrap_i64];omega
     have bH:IntKind.i64.wrap ((x1:Int)+(x2:Int))=(x1:Int)+(x2:Int):=by rw[IntKind.wrap_i64];omega
     clear r1 ho bj bg a8 bd bf av aS al ad br aV hj;go_wp2;go_region_law ((refine sh rfl (.tmp 48) (.tmp 63) 240 240 rfl (af Ao t co) (af (some ⟨wi.heap.size,0,none⟩) 1 1) rfl rfl (af Ac (t+1) cc) wc R1.out ?_))
     all_goals(
      go_wp2;refine⟨⟨t+1,i0+2,Ac,cc,by have:=HT.out;omega,by omega,by go_num,rfl,bt.out,bu.out⟩,?_⟩;simp[aP];omega)
  ·have aY:t=m/2:=by omega
   have hf:decide ((i0:Int)+1<(m:Int))=false:=by simp;omega
   have HO:=fX aT;have HB:=fX aU;have HT:=fX aY
   clear aT aU aY a2;go_wp2;rw[HT.out];go_ret;exact⟨Ao,co,rfl,HB.out,by rw[<-HT.out];exact HO.out⟩
def mQ(F:Nat->Nat)(N K t k i:Nat):Nat:=
 if i<N/\0<F i then sm (fun s=>jO (nI F N) (iG F N) K s (mO F N i)) t+(if mO F N i<k then jO (nI F N) (iG F N) K t (mO F N i)else 0)else 0
theorem Gc(F:Nat->Nat)(N K i:Nat):mQ F N K 0 0 i=0:=by
 unfold mQ;split
 ·rw[if_neg (by omega)];rfl
 ·rfl
theorem Gd(F:Nat->Nat)(N K t i:Nat):mQ F N K t (nI F N) i=mQ F N K (t+1) 0 i:=by
 unfold mQ;by_cases h:i<N/\0<F i
 ·rw[if_pos h,if_pos h,if_pos (qo h.1 h.2).1,if_neg (by omega)];rfl
 ·rw[if_neg h,if_neg h]
theorem Ge{F:Nat->Nat}{N k:Nat}(hk:k<nI F N)(K t:Nat):mQ F N K t k ((Pt F N).getD k 0)=sm (fun s=>jO (nI F N) (iG F N) K s k) t:=by
 have h:=nk hk;unfold mQ;rw[if_pos h.2,h.1,if_neg (by omega)];rfl
theorem Gf{F:Nat->Nat}{N k:Nat}(hk:k<nI F N)(K t:Nat):gL (mQ F N K t k) ((Pt F N).getD k 0) (sm (fun s=>jO (nI F N) (iG F N) K s k) t+jO (nI F N) (iG F N) K t k)=mQ F N K t (k+1):=by
 have h:=nk hk;funext i;unfold gL;by_cases e:i=(Pt F N).getD k 0
 ·subst e;rw[if_pos rfl];unfold mQ;rw[if_pos h.2,h.1,if_pos (by omega)]
 ·rw[if_neg e];unfold mQ;by_cases hi:i<N/\0<F i
  ·rw[if_pos hi,if_pos hi];have hr:=qo hi.1 hi.2;have ad:mO F N i≠k:=fun h2=>e (by rw[<-h2];exact hr.2.symm)
   by_cases h3:mO F N i<k
   ·rw[if_pos h3,if_pos (by omega)]
   ·rw[if_neg h3,if_neg (by omega)]
  ·rw[if_neg hi,if_neg hi]
theorem Gg{n:Nat}{w:Nat->Nat}{K t k:Nat}(h:t<gH n K):sm (fun s=>jO n w K s k) t+jO n w K t k<=K+1:=by
 have h1:=uj (n:=n) (w:=w) k K (t+1) h;have h2:=qU n w K (t+1) k;have e:sm (fun s=>jO n w K s k) (t+1)=sm (fun s=>jO n w K s k) t+jO n w K t k:=rfl;omega
theorem Gh{F:Nat->Nat}{N L:Nat}(h2:2<=nI F N)(hL:0<L)(hn:nI F N<=2^L){i:Nat}(hi:i<N):mQ F N (L-1) (2*nI F N-2) 0 i=iM F N L i:=by
 unfold mQ iM;by_cases h:0<F i
 ·rw[if_pos ⟨hi,h⟩,if_neg (by omega),if_neg (by omega),if_neg (by omega),uj _ _ _ (s8 hL hn)];rfl
 ·rw[if_neg (fun hh=>h hh.2),if_pos (by omega)]
theorem o6(w:aq)(n:Nat):iJ (w.alloc (ak (aJ #[ae .u8 0] n) 5)) w.heap.size n (fun _=>0):=by
 refine⟨_,aG w _,fun j hj=>?_⟩;unfold aJ;have e1:j%1=0:=by omega
 simp[hj,e1]
theorem uq(n:Nat)(h:n<=1000):∀u:aq,(Instr.makeSlice 22 (ae aj (n:Int)) (ae aj (n:Int))).run prog u=
   .ok (af (some ⟨u.heap.size,0,none⟩) n n) (u.alloc (ak (aJ #[ae .u8 0] n) 5)):=fun u=>by
 obtain⟨i0,hi,ad,al,av⟩:=info_parts oM
 have h:=run_make (P:=prog) u 22 5 i0 (ae .u8 0) underlying22 hi ad aj aj (n:Int) (n:Int) (by omega) (Int.le_refl _) (by rw[av];omega) (by omega)
 rw[Int.toNat_natCast]at h
 simpa[al,Value.cells]using h
theorem ta{n:Nat}(h2:2<=n)(hn:n<=400)(K:Nat):gH n K<=800/\n+gH n K/2<=900:=by
 have:=wJ (n:=n) (by omega) K;omega
theorem Gi(w:aq)(A:Option au)(c:Nat)(l:List Int)(hr:jq w w.heap.size A l)(A2:Option au)(c2:Nat)(al:jq w w.heap.size A2 (iN (Pt (gB l) l.length)))(N n:Nat)(hN:N=l.length)(av:n=nI (gB l) l.length)(hl:N<=400)
  (hb:∀j,j<l.length->0<=l.getD j 0/\l.getD j 0<=1073741824):
  aw prog 162 #[af A N c,af A2 n c2] w fun e w'=>∃A' c',e=ao (af A' n c')/\aR w.heap.size w w'/\lM w' w'.heap.size A' n n (hH n (iG (gB l) N) 0) (jO n (iG (gB l) N) 0):=by
 have hle:=oO (gB l) l.length
 have ad:=lQ (gB l) l.length
 rw[<-av]at ad
 have h:=F8 w A c l hr A2 c2 (Pt (gB l) l.length) al (by omega) (fun j hj=>by
  have h:=nk (F:=gB l) (n:=l.length) (r:=j) (by omega);refine⟨h.2.1,?_⟩;have h3:0<(l.getD ((Pt (gB l) l.length).getD j 0) 0).toNat:=h.2.2;omega) (fun j hj=>by have:=hb j hj;omega) (by omega)
 rw[ad,<-hN]at h
 exact h.mono fun e w' ⟨A',c',h1,h2,h3⟩=>⟨A',c',h1,h2,by rw[hN]at h3⊢;exact h3.rd⟩
theorem Gj(w:aq)(A:Option au)(c n K:Nat)(W:Nat->Nat)(hr:lM w w.heap.size A n (gH n K) (hH n W K) (jO n W K))(h2:2<=n)(hn:n<=400)(hK:K<=15)(hW:∀i,i<n->W i<=1073741824):
  aw prog 164 #[af A (gH n K) c] w fun e w'=>∃A' c',e=ao (af A' (gH n K/2) c')/\aR w.heap.size w w'/\lM w' w'.heap.size A' n (gH n K/2) (iw (hH n W K)) (fun t i=>iw (fun s=>jO n W K s i) t):=by
 have hf:=ta h2 hn K
 have hp:2^K<=2^15:=Nat.pow_le_pow_right (by decide) hK
 refine(Gb w A c n (gH n K) (hH n W K) (jO n W K) hr hn (by omega) (fun t ht=>?_) (fun t i ht=>?_)).mono fun e w' ⟨A',c',h1,h2,h3⟩=>⟨A',c',h1,h2,h3.rd⟩
 ·have h1:=um hW K t ht;have h3:2^K*1073741824<=2^15*1073741824:=Nat.mul_le_mul_right _ hp;omega
 ·have:=F5 (w:=W) ht i;omega
theorem Gk(w:aq)(A:Option au)(c n K:Nat)(W:Nat->Nat)(hr:lM w w.heap.size A n n (hH n W 0) (jO n W 0))(A2:Option au)(c2:Nat)(ad:lM w w.heap.size A2 n (gH n K/2) (iw (hH n W K)) (fun t i=>iw (fun s=>jO n W K s i) t))(h2:2<=n)(hn:n<=400):
  aw prog 163 #[af A n c,af A2 (gH n K/2) c2] w fun e w'=>∃A' c',e=ao (af A' (gH n (K+1)) c')/\aR w.heap.size w w'/\lM w' w'.heap.size A' n (gH n (K+1)) (hH n W (K+1)) (jO n W (K+1)):=by
 have hf:=ta h2 hn K
 exact(F9 w A c n (hH n W 0) (jO n W 0) hr A2 c2 (gH n K/2) (iw (hH n W K)) _ ad hf.2).mono fun e w' ⟨A',c',h1,h2,h3⟩=>⟨A',c',h1,h2,h3.rd⟩
theorem Gl(w:aq)(A:Option au)(c:Nat)(l:List Int)(hr:jq w w.heap.size A l)(A2:Option au)(c2:Nat)(bl:jq w w.heap.size A2 (iN (Pt (gB l) l.length)))(L:Nat)(bm:1<=L)(b8:L<=15)
  (N n:Nat) (hN:N=l.length) (a2:n=nI (gB l) l.length) (h2:2<=n) (hn:n<=2^L) (hl:N<=400) (hb:∀j,j<l.length->0<=l.getD j 0/\l.getD j 0<=1073741824):
  aw prog 147 #[af A N c,af A2 n c2,ae aj (L:Int)] w fun e w'=>∃g,e=ao (af (some ⟨g,0,none⟩) N N)/\w.heap.size<=g/\aR w.heap.size w w'/\iJ w' g N (iM (gB l) N L):=by
 have bn:=oO (gB l) l.length
 rw[<-a2,<-hN]at bn
 have b9:=uq N (by omega)
 have bd:∀j,j<n->mO (gB l) N ((Pt (gB l) N).getD j 0)=j/\(Pt (gB l) N).getD j 0<N/\0<gB l ((Pt (gB l) N).getD j 0):=fun j hj=>by
  rw[hN];exact nk (by omega)
 have bp:(iN (Pt (gB l) l.length)).length=n:=by rw[nM,lQ,a2]
 have bq:∀i,i<n->iG (gB l) N i<=1073741824:=fun i hi=>by
  have h:=(bd i hi).2.1;have bO:=hb ((Pt (gB l) N).getD i 0) (by omega);show(l.getD ((Pt (gB l) N).getD i 0) 0).toNat<=_
  omega
 have ad:=s8 (n:=n) bm hn
 have a4:=ta h2 (by omega:n<=400) (L-1)
 have HR:=fX hr;have br:=fX bl;have bP:=fX hb;have HP:=fX hn;have HN:=fX hN;have aS:=fX a2;have bQ:=fX bd;have bt:=fX bp;have bR:=fX bq;have av:=fX ad;have a5:=fX a4
 clear hr bl hb hn hN a2 bd bp bq ad a4
 go_enter func147,ntmps147
 go_wp2_with (go_at_call 162;refine(Gi _ A c l HR.out A2 c2 br.out N n HN.out aS.out hl bP.out).mono ?_;rintro e w1 ⟨Ao,co,rfl,aY,a6⟩;have bS:=fX aY;have a7:=fX a6;clear aY a6)
 go_loopw [8,9] (fun r k wr=>∃(K:Nat) (Ar:Option au) (cr:Nat),K+1<=L/\k=ae aj (K+1:Nat)/\r=af Ar (gH n K) cr/\lM wr wr.heap.size Ar n (gH n K) (hH n (iG (gB l) N) K) (jO n (iG (gB l) N) K)/\aR w1.heap.size w1 wr/\aR w.heap.size w wr) (fun _ k _=>L-(aP k).toNat)
 case atStart=>exact⟨0,Ao,co,bm,rfl,rfl,a7.out,Below.refl _ _,bS.out⟩
 case round=>
  obtain⟨K,Ar,cr,hK,rfl,rfl,bu,aY,hb⟩:=hrel;obtain⟨wo,rfl⟩:∃wo:aq,wo=wr:=⟨_,rfl⟩;have bx:=fX bu;have aW:=fX aY;have HB:=fX hb
  clear bu aY hb;by_cases bT:K+1<L
  ·have bz:((K+1:Nat):Int)<(L:Int):=by omega
   obtain⟨K1,bU⟩:=fY (K+1);rw[<-bU]at bz bT hK⊢;go_wp2_with (first
    |(go_at_call 164;refine(Gj _ Ar cr n K _ bx.out h2 (by omega) (by omega) bR.out).mono ?_;rintro e w3 ⟨Ap,cp,rfl,bA,bB⟩;have a3:=fX bA;have bV:=fX bB;clear bA bB)
    |(go_at_call 163;refine(Gk _ Ao co n K _ ((a7.out.below (aW.out.trans (a3.out.mono aW.out.size)) fZ).more (aW.out.trans (a3.out.mono aW.out.size)).size) Ap cp bV.out h2 (by omega)).mono ?_;rintro e w4 ⟨Am,cm,rfl,bC,bD⟩;have bE:=fX bC;have bW:=fX bD;clear bC bD))
   go_roundw
   case rel=>
    have b3:=aW.out.trans (a3.out.mono aW.out.size);have b4:=b3.trans (bE.out.mono b3.size);have b5:=HB.out.trans (a3.out.mono HB.out.size);exact⟨K+1,Am,cm,by omega,kJ (by omega),rfl,bW.out,b4,b5.trans (bE.out.mono b5.size)⟩
   case measure=>simp[aP];omega
  ·obtain rfl:L=K+1:=by omega
   have bf:=HB.out.size;obtain⟨ar,bF,rfl,bX,bG⟩:=bx.out.at (by have:=av.out;rw[Nat.add_sub_cancel]at this;omega);have bH:=fX bG;have bg:=fX (o6 wo N);have bY:=fX ((Below.refl wo.heap.size wo).alloc fZ (ak (aJ #[ae .u8 0] N) 5));have bZ:2*n-2<=gH n K:=by have:=av.out;rwa[Nat.add_sub_cancel]at this
   have bI:=a5.out.1;rw[Nat.add_sub_cancel]at bI;clear bG av a5;obtain⟨m,hm⟩:=fY (gH n K);rw[<-hm]at bZ bI bH⊢;have HM:=fX hm;clear hm;go_wp2;go_loopw [11,12] (fun i _ wr=>∃t:Nat,t<=2*n-2/\i=ae aj t/\iJ wr wo.heap.size N (mQ (gB l) N K t 0)/\aR wo.heap.size wo wr/\wo.heap.size<wr.heap.size) (fun i _ _=>2*n-(aP i).toNat)
   case atStart=>exact⟨0,Nat.zero_le _,rfl,bg.out.ext (fun j _=>(Gc _ _ _ _).symm),bY.out,by simp⟩
   case round=>
    obtain⟨t,ht,rfl,ad,al,aV⟩:=hrel;by_cases ca:t<2*n-2
    ·have b6:(t:Int)<2*(n:Int)-2:=by omega
     have av:=fX ad;have bj:=fX al
     clear ad al;go_wp2;go_loopw [12] (fun k wi=>∃j:Nat,j<=n/\k=ae aj j/\iJ wi wo.heap.size N (mQ (gB l) N K t j)/\aR wo.heap.size wo wi/\wo.heap.size<wi.heap.size) (fun k _=>n-(aP k).toNat)
     case atStart=>exact⟨0,Nat.zero_le _,rfl,av.out,bj.out,aV⟩
     case round=>
      obtain⟨j,hj,rfl,ad,al,aV⟩:=hrel;obtain⟨wi,rfl⟩:∃wi:aq,wi=wr:=⟨_,rfl⟩;by_cases aT:j<n
      ·have bJ:=HB.out.trans (al.mono bf);obtain⟨b2,o2,rfl,bO,bK⟩:=(br.out.below bJ fZ).at (k:=j) (by rw[bt.out];exact aT);have c1:=bK j (by rw[bt.out];exact aT);rw[qX,<-HN.out]at c1;obtain⟨b,_,g2,b0,g3⟩:=bH.out t (by omega);have c2:wi.cell? ⟨ar,bF+t*2+1,none⟩=some (af (some ⟨b,0,none⟩) n n):=by rw[al.cell (p:=⟨ar,bF+t*2+1,none⟩) bX];exact g2
       have c3:wi.cell? ⟨b,j,none⟩=some (ae aj (jO n (iG (gB l) N) K t j:Int)):=by rw[al.cell (p:=⟨b,j,none⟩) b0];exact g3 j aT
       obtain⟨bL,bM,bN⟩:=bQ.out j aT;have aZ:=Ge (F:=gB l) (N:=N) (k:=j) (by rw[HN.out,<-aS.out];exact aT) K t;have aX:=Gf (F:=gB l) (N:=N) (k:=j) (by rw[HN.out,<-aS.out];exact aT) K t;have a8:nI (gB l) N=n:=by rw[HN.out];exact aS.out.symm
       rw[a8]at aZ aX;have bk:=Gg (n:=n) (w:=iG (gB l) N) (K:=K) (t:=t) (k:=j) (by rw[<-HM.out];omega);obtain⟨s,hs⟩:=fY ((Pt (gB l) N).getD j 0);obtain⟨x,hx⟩:=fY (jO n (iG (gB l) N) K t j);obtain⟨y,hy⟩:=fY (sm (fun s=>jO n (iG (gB l) N) K s j) t);rw[<-hs]at c1 bL bM bN aZ aX;rw[<-hx]at c3 aX bk;rw[<-hy]at aZ aX bk;have c4:=ad.cell bM;rw[aZ]at c4;have cb:=ad.frozen s;have aU:=fX ad;have a1:=fX al;have b1:=fX aX
       have cf:x<=15:=by omega
       have cg:x+y<=15:=by omega
       have b7:b2<wo.heap.size:=by omega
       clear ad al aX aZ hs hx hy bL bN bk bK g2 g3 a8 bJ;go_wp2;go_region;go_wp2;go_roundw
       case rel=>
        have a9:=aU.out.set s (y+x);rw[b1.out,Int.natCast_add]at a9;refine⟨j+1,by omega,by go_num,a9,(a1.out.setCell fZ _).drew,?_⟩;show wo.heap.size<(wi.setCell _ _).heap.size
        simpa[World.setCell]using aV
       case measure=>simp[aP];omega
      ·obtain rfl:j=n:=by omega
       have aU:=fX ad;have a1:=fX al
       clear ad al aT hj;go_wp2;go_roundw
       case rel=>exact⟨t+1,by omega,by go_num,aU.out.ext (fun i _=>by rw[<-Gd,HN.out,<-aS.out]),a1.out,aV⟩
       case measure=>simp[aP];omega
    ·obtain rfl:t=2*n-2:=by omega
     have ch:decide (((2*n-2:Nat):Int)<2*(n:Int)-2)=false:=by simp;omega
     have av:=fX ad;have bj:=fX al
     clear ad al;go_wp2;go_ret;refine⟨_,rfl,bf,HB.out.trans (bj.out.mono bf),av.out.ext fun i hi=>?_⟩;have h:=Gh (F:=gB l) (N:=N) (L:=K+1) (i:=i) (by rw[HN.out,<-aS.out];exact h2) (by omega) (by rw[HN.out,<-aS.out];exact HP.out) hi;rw[<-h,HN.out,<-aS.out,Nat.add_sub_cancel]
theorem Ay{F:Nat->Nat}{N L i:Nat}(h0:nI F N=0)(hi:i<N):iM F N L i=0:=by
 unfold iM;by_cases h:0<F i
 ·have:=Ae hi h;omega
 ·rw[if_pos (by omega)]
theorem Az{F:Nat->Nat}{N L i:Nat}(h1:nI F N=1)(hi:i<N):iM F N L i=gL (fun _=>0) ((Pt F N).getD 0 0) 1 i:=by
 unfold iM gL;have hr:=nk (F:=F) (n:=N) (r:=0) (by omega);by_cases h:0<F i
 ·rw[if_neg (by omega),if_pos h1];have h2:=qo hi h;have h3:mO F N i=0:=by omega
  rw[h3]at h2;rw[if_pos h2.2.symm]
 ·rw[if_pos (by omega),if_neg];intro e;rw[e]at h;omega
theorem AA{l:List Int}{gy:Int}(h:mP l gy=0):1<=gy/\gy<=15/\l.length<=320/\(∀j,j<l.length->0<=l.getD j 0/\l.getD j 0<=1073741824)/\nI (gB l) l.length<=2^gy.toNat:=by
 unfold mP at h;split at h
 ·cases h
 ·split at h
  ·cases h
  ·split at h
   ·cases h
   ·rename_i h1 h2 h3;split at h
    ·cases h
    ·refine⟨by omega,by omega,by omega,fun j hj=>?_,by omega⟩;have h4:¬qp (l.getD j 0)=true:=fun hb=>h3 (ui hj hb)
     have h5:=of_decide_eq_false (Bool.not_eq_true _▸h4);omega
theorem AB(w:aq)(n k:Nat):iJ (w.alloc (ak ((aJ #[ae .u8 0] n).setIfInBounds k (ae .u8 1)) 5)) w.heap.size n (gL (fun _=>0) k 1):=by
 refine⟨_,aG w _,fun j hj=>?_⟩;have e1:j%1=0:=by omega
 simp only[Array.getElem?_setIfInBounds,gL,size_madeCells];by_cases e:j=k
 ·subst e;rw[if_pos rfl,if_pos hj,if_pos rfl];rfl
 ·rw[if_neg (fun h=>e h.symm),if_neg e];unfold aJ;simp[hj,e1]
theorem Gm(w:aq)(A:Option au)(c:Nat)(l:List Int)(hr:jq w w.heap.size A l)(L:Nat)(a2:1<=L)(a3:L<=15)(N:Nat)(hN:N=l.length)(hn:nI (gB l) l.length<=2^L)(hl:N<=400)
  (hb:∀j,j<l.length->0<=l.getD j 0/\l.getD j 0<=1073741824):
  aw prog 120 #[af A N c,ae aj (L:Int)] w fun e w'=>∃g,e=ao (af (some ⟨g,0,none⟩) N N)/\w.heap.size<=g/\aR w.heap.size w w'/\iJ w' g N (iM (gB l) N L):=by
 have HR:=fX hr;have a4:=fX hb;have HP:=fX hn;have HN:=fX hN
 have aV:=F4 w A c l hr (by omega) (fun j hj=>by have:=hb j hj;omega)
 have a9:=uq N (by omega)
 have aX:=oO (gB l) l.length
 obtain⟨n,aT⟩:=fY (nI (gB l) l.length)
 rw[<-aT,<-hN]at aV
 rw[<-aT,<-hN]at aX
 have aW:=fX aV
 have aS:=fX aT
 clear hr hb hn hN aV aT
 go_enter func120,ntmps120
 by_cases h2:2<=n
 ·have hd:decide ((2:Int)<=(n:Int))=true:=by simp;omega
  go_wp2_with (first
   |(go_at_call 146;refine aW.out.mono ?_;rintro e w1 ⟨Ai,ci,rfl,av,ad⟩;have al:=fX av;have HI:=fX (Ag ad);clear av ad)
   |(go_at_call 147;refine(Gl _ A c l ((HR.out.below al.out fZ).more al.out.size) Ai ci (by have h:=HI.out;rw[HN.out]at h;exact h) L a2 a3 N n HN.out aS.out h2 (by have:=HP.out;rw[aS.out];exact this) hl a4.out).mono ?_;rintro e w2 ⟨g,rfl,hg,aY,aU⟩;have a5:=fX aY;have aZ:=fX aU;have HG:=fX hg;clear aY aU hg))
  go_ret;have hs:=al.out.size;have hg:=HG.out;exact⟨g,rfl,by omega,al.out.trans (a5.out.mono hs),aZ.out⟩
 ·have hd:decide ((2:Int)<=(n:Int))=false:=by simp;omega
  by_cases h1:n=1
  ·subst h1;have a1:=nk (F:=gB l) (n:=l.length) (r:=0) (by have:=aS.out;omega);obtain⟨s,hs⟩:=fY ((Pt (gB l) l.length).getD 0 0);have a6:s<N:=by have:=HN.out;rw[hs,this];exact a1.2.1
   have HS:=fX hs;clear hs a1 h2 hd;go_wp2_with (go_at_call 146;refine aW.out.mono ?_;rintro e w1 ⟨Ai,ci,rfl,av,ad⟩;have hi:=Ag ad;obtain⟨b,o,rfl,a7,hc⟩:=hi.at (k:=0) (by rw[nM,lQ,HN.out,<-aS.out];omega);have c0:=hc 0 (by rw[nM,lQ,HN.out,<-aS.out];omega);rw[qX,HN.out,<-HS.out,Nat.add_zero]at c0;have al:=fX av;have a8:=(o6 w1 N).cell a6;have bd:=(o6 w1 N).frozen s;have c1:(w1.alloc (ak (aJ #[ae .u8 0] N) 5)).cell? ⟨b,o,none⟩=some (ae aj (s:Int)):=(((Below.refl w1.heap.size w1).alloc fZ (ak (aJ #[ae .u8 0] N) 5)).cell (p:=⟨b,o,none⟩) a7).trans c0;clear av ad hi hc)
   go_ret;have hs:=al.out.size;exact⟨w1.heap.size,rfl,hs,al.out.trans (gC.alloc hs _),(AB w1 N s).ext fun i hi=>by rw[HS.out,HN.out];exact(Az aS.out.symm (by rw[<-HN.out];exact hi)).symm⟩
  ·obtain rfl:n=0:=by omega
   clear h2;go_wp2_with (go_at_call 146;refine aW.out.mono ?_;rintro e w1 ⟨Ai,ci,rfl,av,ad⟩;have al:=fX av;clear av ad)
   go_ret;have hs:=al.out.size;exact⟨w1.heap.size,rfl,hs,al.out.trans (gC.alloc hs _),(o6 w1 N).ext fun i hi=>by rw[HN.out];exact(Ay aS.out.symm (by rw[<-HN.out];exact hi)).symm⟩
def o7(l:List Int)(gy:Int):Nat:=if mP l gy=0 then l.length else 0
def nx(l:List Int)(gy:Int)(j:Nat):Nat:=if mP l gy=0 then iM (gB l) l.length gy.toNat j else 0
theorem si(l:List Int)(gy:Int)(j:Nat):nx l gy j<256:=by
 unfold nx;split
 ·rename_i h;obtain⟨h1,h2,_⟩:=AA h;have:=wO (gB l) (n:=l.length) (L:=gy.toNat) (by omega) j;omega
 ·omega
def pt(m:Nat):Nat:=32768/2^m
theorem sj{a b:Nat}(h:a<=b)(hb:b<=15):pt a=pt b*2^(b-a):=by
 unfold pt;have e:(32768:Nat)=2^(15-b)*2^b:=by rw[<-Nat.pow_add,show 15-b+b=15 by omega]
 have e2:(2:Nat)^b=2^(b-a)*2^a:=by rw[<-Nat.pow_add,show b-a+a=b by omega]
 have ha:0<2^a:=Nat.two_pow_pos a;have ad:0<2^b:=Nat.two_pow_pos b;rw[e,Nat.mul_div_cancel _ ad];rw[e2,<-Nat.mul_assoc,Nat.mul_div_cancel _ ha]
theorem wS{m:Nat}(h:m<=15):0<pt m:=by
 have:=sj h (Nat.le_refl 15);rw[this];exact Nat.mul_pos (by decide) (Nat.two_pow_pos _)
theorem AE(m:Nat):pt m<=32768:=Nat.div_le_self _ _
theorem Gn(m:Nat):pt (m+1)=pt m/2:=by unfold pt;rw[Nat.pow_succ,Nat.div_div_eq_div_mul]
theorem Gp{a b:Nat}(h:a<=b)(hb:b<=15):pt b∣pt a:=⟨2^(b-a),sj h hb⟩
def Pz(f:Nat->Nat):Nat->Nat
 |0=>0
 |n+1=>Pz f n+if 0<f n then pt (f n)else 0
def kS(f:Nat->Nat):Nat->Nat
 |0=>0
 |n+1=>kS f n+if 0<f n then 1 else 0
def lE(f:Nat->Nat)(m:Nat):Nat->Nat
 |0=>0
 |n+1=>lE f m n+if f n=m then pt m else 0
def kA(f:Nat->Nat)(n:Nat):Nat->Nat
 |0=>0
 |m+1=>kA f n m+lE f (m+1) n
def kT(f:Nat->Nat)(n m i:Nat):Nat:=kA f n (m-1)+lE f m i
def iO(f:Nat->Nat)(n i:Nat):Nat:=if f i=0 then 0 else kT f n (f i) i/pt (f i)
theorem AF(f:Nat->Nat)(m:Nat){a b:Nat}(h:a<=b):lE f m a<=lE f m b:=by
 induction b with
 |zero=>rw[show a=0 by omega];exact Nat.le_refl _
 |succ b ih=>
  rcases Nat.eq_or_lt_of_le h with h|h
  ·subst h;exact Nat.le_refl _
  ·exact Nat.le_trans (ih (by omega)) (Nat.le_add_right _ _)
theorem Gq{f:Nat->Nat}{m a b:Nat}(h:a<b)(hf:f a=m):lE f m a+pt m<=lE f m b:=by
 have:=AF f m (show a+1<=b by omega);simp only[lE,hf,if_true]at this;exact this
theorem AG(f:Nat->Nat)(n:Nat){a b:Nat}(h:a<=b):kA f n a<=kA f n b:=by
 induction b with
 |zero=>rw[show a=0 by omega];exact Nat.le_refl _
 |succ b ih=>
  rcases Nat.eq_or_lt_of_le h with h|h
  ·subst h;exact Nat.le_refl _
  ·exact Nat.le_trans (ih (by omega)) (Nat.le_add_right _ _)
theorem AH(f:Nat->Nat)(n:Nat):∀M,kA f (n+1) M=kA f n M+if 0<f n/\f n<=M then pt (f n)else 0
 |0=>by rw[if_neg (by omega)];rfl
 |M+1=>by
  simp only[kA,lE];rw[AH f n M];by_cases h1:f n=M+1
  ·rw[if_pos h1,if_neg (by omega),if_pos (by omega),h1];omega
  ·by_cases h2:0<f n/\f n<=M
   ·rw[if_neg h1,if_pos h2,if_pos (by omega)];omega
   ·rw[if_neg h1,if_neg h2,if_neg (by omega)];omega
theorem AI(f:Nat->Nat):∀M,kA f 0 M=0
 |0=>rfl
 |M+1=>by simp only[kA,lE];rw[AI f M]
theorem tb(f:Nat->Nat):∀n,(∀j,j<n->f j<=15)->Pz f n=kA f n 15
 |0,_=>(AI f 15).symm
 |n+1,h=>by
  rw[AH,<-tb f n (fun j hj=>h j (by omega))];simp only[Pz];have:=h n (by omega);by_cases h1:0<f n
  ·rw[if_pos h1,if_pos ⟨h1,this⟩]
  ·rw[if_neg h1,if_neg (fun g=>h1 g.1)]
theorem Gr{f:Nat->Nat}{n m i:Nat}(hi:i<n)(hf:f i=m)(hm:0<m):kT f n m i+pt m<=kA f n m:=by
 obtain⟨k,rfl⟩:∃k,m=k+1:=⟨m-1,by omega⟩;have:=Gq hi hf;unfold kT;rw[Nat.add_sub_cancel];simp only[kA];omega
theorem Gs{f:Nat->Nat}{n i:Nat}(hi:i<n)(h:∀j,j<n->f j<=15)(hp:0<f i):kT f n (f i) i+pt (f i)<=Pz f n:=by
 rw[tb f n h];exact Nat.le_trans (Gr hi rfl hp) (AG f n (h i hi))
theorem wT(f:Nat->Nat)(m:Nat):∀n,pt m∣lE f m n
 |0=>⟨0,rfl⟩
 |n+1=>by
  simp only[lE];refine Nat.dvd_add (wT f m n) ?_;split
  ·exact Nat.dvd_refl _
  ·exact⟨0,rfl⟩
theorem AJ(f:Nat->Nat)(n:Nat){b:Nat}(hb:b<=15):∀m,m<=b->pt b∣kA f n m
 |0,_=>⟨0,rfl⟩
 |m+1,h=>Nat.dvd_add (AJ f n hb m (by omega)) (Nat.dvd_trans (Gp h hb) (wT f (m+1) n))
theorem Gt(f:Nat->Nat)(n i:Nat){m:Nat}(hm:m<=15):pt m∣kT f n m i:=
 Nat.dvd_add (AJ f n hm (m-1) (by omega)) (wT f m i)
theorem Gu{f:Nat->Nat}{n i:Nat}(hp:0<f i)(h:f i<=15):iO f n i*pt (f i)=kT f n (f i) i:=by
 unfold iO;rw[if_neg (by omega)];exact Nat.div_mul_cancel (Gt f n i h)
def pR(f:Nat->Nat)(n:Nat)(gy:Int):Bool:=decide (∃j,j<n/\gy<(f j:Int))
def pS(all used:Nat):Int:=if 32768<all then 30 else if all=32768\/used=0\/(used=1/\all=16384)then 0 else 31
def jP(f:Nat->Nat)(n:Nat)(gy:Int):Int:=
 if gy<1\/15<gy then 2 else if 320<n then 4 else if pR f n gy=true then 2 else pS (Pz f n) (kS f n)
theorem Gv{f:Nat->Nat}{n:Nat}{gy:Int}(h:pR f n gy=false):∀j,j<n->(f j:Int)<=gy:=by
 intro j hj;have:=of_decide_eq_false h;have h2:¬(gy<(f j:Int)):=fun g=>this ⟨j,hj,g⟩
 omega
theorem tc{f:Nat->Nat}{n:Nat}{gy:Int}(h:jP f n gy=0):
  1<=gy/\gy<=15/\n<=320/\(∀j,j<n->(f j:Int)<=gy)/\Pz f n<=32768/\(Pz f n=32768\/kS f n=0\/(kS f n=1/\Pz f n=16384)):=by
 unfold jP at h
 by_cases h1:gy<1\/15<gy
 ·rw[if_pos h1]at h;cases h
 ·rw[if_neg h1]at h;by_cases h2:320<n
  ·rw[if_pos h2]at h;cases h
  ·rw[if_neg h2]at h;cases h3:pR f n gy with
   |true=>rw[h3,if_pos rfl]at h;cases h
   |false=>
    rw[h3,if_neg (by decide)]at h;unfold pS at h;by_cases h4:32768<Pz f n
    ·rw[if_pos h4]at h;cases h
    ·rw[if_neg h4]at h;by_cases h5:Pz f n=32768\/kS f n=0\/(kS f n=1/\Pz f n=16384)
     ·exact⟨by omega,by omega,by omega,Gv h3,by omega,h5⟩
     ·rw[if_neg h5]at h;cases h
theorem wU{f:Nat->Nat}{n i:Nat}(hi:i<n)(h:∀j,j<n->f j<=15)(ha:Pz f n<=32768):iO f n i<2^f i:=by
 by_cases h0:0<f i
 ·have h1:=Gs hi h h0;have h2:=Gu (n:=n) h0 (h i hi);have h3:=sj (h i hi) (Nat.le_refl 15);have h4:pt (f i)*2^f i=32768:=by
   rw[h3,show pt 15=1 from rfl,Nat.one_mul,<-Nat.pow_add,show 15-f i+f i=15 by have:=h i hi;omega]
  have hp:=wS (h i hi);rw[<-h2]at h1;refine Nat.lt_of_mul_lt_mul_right (a:=pt (f i)) ?_;rw[Nat.mul_comm (2^f i),h4];omega
 ·have:f i=0:=by omega
  unfold iO;rw[if_pos this,this];decide
theorem Gw{f:Nat->Nat}{n:Nat}{gy:Int}(h:∀j,j<n->(f j:Int)<=gy):pR f n gy=false:=by
 apply decide_eq_false;rintro⟨j,hj,hl⟩;have:=h j hj;omega
theorem Gx{f:Nat->Nat}{n k:Nat}{gy:Int}(hk:k<n)(h:gy<(f k:Int)):pR f n gy=true:=decide_eq_true ⟨k,hk,h⟩
def qs(f:Nat->Nat)(n:Nat)(gy:Int):Nat:=if jP f n gy=0 then n else 0
theorem Gy{f:Nat->Nat}{n:Nat}{gy:Int}(h:jP f n gy=0)(j:Nat)(hj:j<n):iO f n j<4294967296:=by
 obtain⟨_,ad,_,hb,ha,_⟩:=tc h;have:=wU hj (fun j hj=>by have:=hb j hj;omega) ha;have h2:(2:Nat)^f j<=2^15:=Nat.pow_le_pow_right (by omega) (by have:=hb j hj;omega);have h3:(2:Nat)^15=32768:=rfl;omega
def wV(f:Nat->Nat)(n:Nat)(gy:Int)(j:Nat):Nat:=if jP f n gy=0/\j<n then iO f n j else 0
theorem AL{f:Nat->Nat}{n:Nat}{gy:Int}(h:jP f n gy=0)(j:Nat)(hj:j<n):wV f n gy j=iO f n j:=by
 unfold wV;rw[if_pos ⟨h,hj⟩]
def AN(l:List Int)(f:Nat->Nat)(gy:Int)(k:Nat):Bool:=decide (∃j,j<k/\(gy<(f j:Int)\/(f j=0/\0<l.getD j 0)))
def Gz(l:List Int)(n:Nat)(f:Nat->Nat)(gy:Int):Bool:=decide (n=l.length/\AN l f gy n=false/\nm 15 f n<=32768)
theorem GC{l:List Int}{f:Nat->Nat}{gy:Int}{k:Nat}(h:∀j,j<k->¬(gy<(f j:Int)\/(f j=0/\0<l.getD j 0))):AN l f gy k=false:=decide_eq_false fun⟨j,hj,h2⟩=>h j hj h2
theorem AO{f:Nat->Nat}{L:Nat}(hL:L<=15):∀n,(∀i,i<n->f i<=L)->nm 15 f n=nm L f n*2^(15-L)
 |0,_=>by simp[nm,PH]
 |n+1,h=>by
  have ih:=AO hL n (fun i hi=>h i (by omega));have e1:nm 15 f (n+1)=nm 15 f n+if 0<f n then 2^(15-f n)else 0:=rfl
  have e2:nm L f (n+1)=nm L f n+if 0<f n then 2^(L-f n)else 0:=rfl
  have hn:=h n (by omega);rw[e1,e2,ih,Nat.add_mul];split
  ·rw[<-Nat.pow_add,show L-f n+(15-L)=15-f n by omega]
  ·rw[Nat.zero_mul]
theorem AS{f:Nat->Nat}:∀n,(∀i,i<n->f i<=15)->Pz f n=nm 15 f n
 |0,_=>rfl
 |n+1,h=>by
  have ih:=AS n (fun i hi=>h i (by omega));have e1:nm 15 f (n+1)=nm 15 f n+if 0<f n then 2^(15-f n)else 0:=rfl
  have hn:=h n (by omega);have hp:pt (f n)=2^(15-f n):=by rw[sj hn (Nat.le_refl 15),show pt 15=1 from rfl,Nat.one_mul]
  simp only[Pz];rw[ih,e1,hp]
theorem AT{F f:Nat->Nat}:∀n,(∀i,i<n->(0<f i↔0<F i))->kS f n=nI F n
 |0,_=>rfl
 |n+1,h=>by
  have ih:=AT n (fun i hi=>h i (by omega));have hn:=h n (by omega);have e:nI F (n+1)=nI F n+if 0<F n then 1 else 0:=rfl
  simp only[kS];rw[ih,e];by_cases g:0<F n
  ·rw[if_pos g,if_pos (hn.2 g)]
  ·rw[if_neg g,if_neg (fun x=>g (hn.1 x))]
theorem AU{l:List Int}{gy:Int}(h:mP l gy=0):Gz l l.length (nx l gy) gy=true/\jP (nx l gy) l.length gy=0/\(∀j,j<l.length->nx l gy j=iM (gB l) l.length gy.toNat j):=by
 obtain⟨h1,h2,h3,h4,h5⟩:=AA h;obtain⟨L,rfl⟩:=Int.eq_ofNat_of_zero_le (show 0<=gy by omega);rw[Int.toNat_natCast]at h5;have e:nx l (L:Int)=iM (gB l) l.length L:=by funext j;unfold nx;rw[if_pos h,Int.toNat_natCast]
 rw[e];have hle:∀i,iM (gB l) l.length L i<=L:=fun i=>wO (gB l) (n:=l.length) (L:=L) (by omega) i
 have hz:∀i,gB l i=0->iM (gB l) l.length L i=0:=fun i hi=>by unfold iM;rw[if_pos hi]
 have ad:∀i,i<l.length->(0<iM (gB l) l.length L i↔0<gB l i):=fun i hi=>by
  constructor
  ·intro g;rcases Nat.eq_zero_or_pos (gB l i)with h0|h0
   ·rw[hz i h0]at g;omega
   ·exact h0
  ·intro g;exact(wN (F:=gB l) (by omega) h5 hi g).1
 have hc:=FU (F:=gB l) (n:=l.length) (L:=L) (by omega) h5;have aS:=AO (f:=iM (gB l) l.length L) (L:=L) (by omega) l.length (fun i _=>hle i);have hp:(2:Nat)^L*2^(15-L)=32768:=by rw[<-Nat.pow_add,show L+(15-L)=15 by omega]
 have aT:(2:Nat)^(L-1)*2^(15-L)=16384:=by rw[<-Nat.pow_add,show L-1+(15-L)=14 by omega]
 have al:=AS (f:=iM (gB l) l.length L) l.length (fun i _=>Nat.le_trans (hle i) (by omega));have aU:=AT (F:=gB l) (f:=iM (gB l) l.length L) l.length ad;have av:nm 15 (iM (gB l) l.length L) l.length=if 2<=nI (gB l) l.length then 32768 else if nI (gB l) l.length=1 then 16384 else 0:=by
  rw[aS,hc];split
  ·exact hp
  ·split
   ·exact aT
   ·exact Nat.zero_mul _
 refine⟨?_,?_,fun j _=>by rw[Int.toNat_natCast]⟩
 ·refine decide_eq_true ⟨rfl,GC fun j hj g=>?_,by rw[av];split<;>(try split)<;>omega⟩;have h6:=hle j;have h7:=ad j hj;have hf:gB l j=(l.getD j 0).toNat:=rfl;rcases g with g|⟨g1,g2⟩
  ·omega
  ·omega
 ·unfold jP;rw[if_neg (by omega),if_neg (by omega)];have hb:pR (iM (gB l) l.length L) l.length (L:Int)=false:=decide_eq_false fun⟨j,_,hl⟩=>by have:=hle j;omega
  rw[hb,if_neg (by decide),al,aU,av];unfold pS;by_cases g2:2<=nI (gB l) l.length
  ·rw[if_pos g2,if_neg (by omega),if_pos (.inl rfl)]
  ·rw[if_neg g2];by_cases g1:nI (gB l) l.length=1
   ·rw[if_pos g1,if_neg (by omega),if_pos (.inr (.inr ⟨g1,rfl⟩))]
   ·rw[if_neg g1,if_neg (by omega),if_pos (.inr (.inl (by omega)))]
def PK(x:Nat):List Nat->Nat
 |[]=>0
 |y::l=>if y=x then PK x l+1 else 0
theorem wW(x:Nat):∀l,PK x l<=l.length
 |[]=>Nat.le_refl _
 |y::l=>by
  have:=wW x l;simp only[PK,List.length_cons];split<;>omega
theorem AV(x:Nat):∀l k,k<=PK x l->l.take k=List.replicate k x
 |[],k,h=>by simp[PK]at h;subst h;rfl
 |y::l,0,_=>rfl
 |y::l,k+1,h=>by
  simp only[PK]at h;by_cases e:y=x
  ·rw[if_pos e]at h;rw[List.take_succ_cons,List.replicate_succ,AV x l k (by omega),e]
  ·rw[if_neg e]at h;omega
def j7(prev:Option Nat)(x:Nat)(n:Nat):(Int×Int)×Nat:=
 if x=0/\11<=n then((18,(min n 138-11:Nat)),min n 138)
 else if x=0/\3<=n then((17,(n-3:Nat)),n)
 else if x≠0/\prev=some x/\3<=n then((16,(min n 6-3:Nat)),min n 6)
 else((((x:Nat):Int),0),1)
def ofR:Nat->Option Nat->List Nat->List (Int×Int)
 |0,_,_=>[]
 |_+1,_,[]=>[]
 |d+1,prev,x::l=>(j7 prev x (PK x l+1)).1::ofR d (some x) ((x::l).drop (j7 prev x (PK x l+1)).2)
def j8(s:Int):Nat:=if s=16 then 2 else if s=17 then 3 else if s=18 then 7 else 0
def tf(s x:Int):Nat:=if s=16\/s=17 then x.toNat+3 else if s=18 then x.toNat+11 else 1
theorem ur(prev:Option Nat)(x n:Nat)(hx:x<=15)(hn:1<=n):1<=(j7 prev x n).2/\(j7 prev x n).2<=n/\tf (j7 prev x n).1.1 (j7 prev x n).1.2=(j7 prev x n).2/\
  ¬((j7 prev x n).1.1<0\/18<(j7 prev x n).1.1\/(j7 prev x n).1.2<0\/(2^j8 (j7 prev x n).1.1:Nat)<=(j7 prev x n).1.2)/\
  ((j7 prev x n).1.1=16->prev=some x)/\((j7 prev x n).1.1≠16->(if(j7 prev x n).1.1<16 then(j7 prev x n).1.1.toNat else 0)=x):=by
 unfold j7
 by_cases h1:x=0/\11<=n
 ·rw[if_pos h1];simp only[tf,j8];refine⟨by omega,by omega,by simp;omega,by simp;omega,by simp,by simp;omega⟩
 ·rw[if_neg h1];by_cases h2:x=0/\3<=n
  ·rw[if_pos h2];simp only[tf,j8];refine⟨by omega,by omega,by simp;omega,by simp;omega,by simp,by simp;omega⟩
  ·rw[if_neg h2];by_cases h3:x≠0/\prev=some x/\3<=n
   ·rw[if_pos h3];simp only[tf,j8];refine⟨by omega,by omega,by simp;omega,by simp;omega,fun _=>h3.2.1,by simp⟩
   ·rw[if_neg h3];simp only[tf,j8];refine⟨by omega,by omega,?_,?_,fun h=>by omega,fun _=>?_⟩
    ·rw[if_neg (by omega),if_neg (by omega)]
    ·rw[if_neg (by omega),if_neg (by omega),if_neg (by omega)];simp;omega
    ·rw[if_pos (by omega)];omega
def j9(f:Nat->Nat)(n a:Nat):List Nat:=((List.range n).map f).drop a
theorem uu{f:Nat->Nat}{n a:Nat}(h:a<n):j9 f n a=f a::j9 f n (a+1):=by
 unfold j9;rw[List.drop_eq_getElem_cons (by simpa using h)];simp
theorem GD{f:Nat->Nat}{n a:Nat}(h:n<=a):j9 f n a=[]:=List.drop_eq_nil_of_le (by simpa using h)
theorem uv(f:Nat->Nat)(n a:Nat):(j9 f n a).length=n-a:=by simp[j9]
theorem GG(f:Nat->Nat)(n a k:Nat):(j9 f n a).drop k=j9 f n (a+k):=by unfold j9;rw[List.drop_drop]
def l8(f:Nat->Nat)(n a:Nat):Nat:=PK (f a) (j9 f n (a+1))+1
theorem wY{f:Nat->Nat}{n a x:Nat}(h:a<n)(hx:f a=x):PK x (j9 f n a)=PK x (j9 f n (a+1))+1:=by
 rw[uu h];simp only[PK];rw[if_pos hx]
theorem uw{f:Nat->Nat}{n a x:Nat}(h:n<=a\/f a≠x):PK x (j9 f n a)=0:=by
 rcases Nat.lt_or_ge a n with g|g
 ·rw[uu g];simp only[PK];rw[if_neg (by omega)]
 ·rw[GD g];rfl
theorem tg{f:Nat->Nat}{n a:Nat}(h:a<n):1<=l8 f n a/\a+l8 f n a<=n:=by
 have:=wW (f a) (j9 f n (a+1));rw[uv]at this;unfold l8;omega
theorem GH{f:Nat->Nat}{n a:Nat}(h:a<n):∀i,i<l8 f n a->f (a+i)=f a:=by
 intro i hi;have h1:=AV (f a) (j9 f n a) (l8 f n a) (by unfold l8;rw[wY h rfl];exact Nat.le_refl _);have h2:=congrArg (fun l=>l[i]?) h1;simp only[List.getElem?_take,if_pos hi,List.getElem?_replicate]at h2;have hl:=(tg (f:=f) h).2;unfold j9 at h2;rw[List.getElem?_drop]at h2;simp[show a+i<n by omega]at h2;exact h2
def l9(f:Nat->Nat)(a:Nat):Option Nat:=if a=0 then none else some (f (a-1))
def lS(f:Nat->Nat)(n a:Nat):(Int×Int)×Nat:=j7 (l9 f a) (f a) (l8 f n a)
theorem AW:∀d d' prev l,l.length<=d->l.length<=d'->(∀x∈l,x<=15)->ofR d prev l=ofR d' prev l
 |0,d',prev,l,h,_,_=>by
  have:l=[]:=List.length_eq_zero_iff.1 (by omega);subst this;cases d'<;>rfl
 |d+1,0,prev,l,_,h,_=>by
  have:l=[]:=List.length_eq_zero_iff.1 (by omega);subst this;rfl
 |d+1,d'+1,prev,[],_,_,_=>rfl
 |d+1,d'+1,prev,x::l,h1,h2,ad=>by
  simp only[ofR];have hs:=ur prev x (PK x l+1) (ad x List.mem_cons_self) (by omega);simp only[List.length_cons]at h1 h2;rw[AW d d' (some x) _ (by rw[List.length_drop,List.length_cons];omega) (by rw[List.length_drop,List.length_cons];omega) (fun y hy=>ad y (List.mem_of_mem_drop hy))]
def kU(f:Nat->Nat)(n a:Nat):List (Int×Int):=ofR (n-a) (l9 f a) (j9 f n a)
theorem AX{f:Nat->Nat}{n a:Nat}(h:n<=a):kU f n a=[]:=by unfold kU;rw[show n-a=0 by omega];rfl
theorem AY{f:Nat->Nat}{n a:Nat}(h:a<n)(ad:∀i,i<n->f i<=15):kU f n a=(lS f n a).1::kU f n (a+(lS f n a).2)/\1<=(lS f n a).2/\a+(lS f n a).2<=n:=by
 obtain⟨g1,g2,_⟩:=ur (l9 f a) (f a) (l8 f n a) (ad a h) (tg (f:=f) h).1;have hl:=(tg (f:=f) h).2;have e:j7 (l9 f a) (f a) (l8 f n a)=lS f n a:=rfl;rw[e]at g1 g2;refine⟨?_,g1,by omega⟩;unfold kU;rw[show n-a=(n-(a+1))+1 by omega,uu h];simp only[ofR];have e2:j7 (l9 f a) (f a) (PK (f a) (j9 f n (a+1))+1)=lS f n a:=rfl;rw[e2,<-uu h,GG];have hp:l9 f (a+(lS f n a).2)=some (f a):=by
  unfold l9;rw[if_neg (by omega)];have:=GH (f:=f) h ((lS f n a).2-1) (by omega);rw[show a+(lS f n a).2-1=a+((lS f n a).2-1) by omega,this]
 rw[hp,AW (n-(a+1)) (n-(a+(lS f n a).2)) _ _ (by rw[uv];omega) (by rw[uv];omega)];intro x hx;unfold j9 at hx;have hx:=List.mem_of_mem_drop hx;rw[List.mem_map]at hx;obtain⟨i,hi,rfl⟩:=hx;exact ad i (List.mem_range.1 hi)
def qZ(f:Nat->Nat)(n:Nat):Int:=if 320<n then 4 else if∀i,i<n->f i<=15 then 0 else 2
def ux(f:Nat->Nat)(n:Nat):List (Int×Int):=if qZ f n=0 then kU f n 0 else[]
def jX(s:Int):Int:=if 0<=s/\s<=18 then 0 else 2
def iU(s:Int):Int:=if 0<=s/\s<=18 then(j8 s:Nat)else 0
def atN(T:Nat->Nat)(n:Nat):Nat->Nat
 |0=>0
 |k+1=>if T k<=n then k else atN T n k
theorem sk{T:Nat->Nat}{n:Nat}(h0:T 0<=n):∀k,0<k->atN T n k<k/\T (atN T n k)<=n/\∀j,atN T n k<j->j<k->n<T j
 |0,h=>absurd h (by omega)
 |k+1,_=>by
  simp only[atN];by_cases h:T k<=n
  ·rw[if_pos h];exact⟨by omega,h,fun j h1 h2=>by omega⟩
  ·rw[if_neg h];rcases Nat.eq_zero_or_pos k with e|e
   ·subst e;exact absurd h0 h
   ·obtain⟨h1,h2,h3⟩:=sk h0 k e;refine⟨by omega,h2,fun j g1 g2=>?_⟩;rcases Nat.eq_or_lt_of_le (Nat.le_of_lt_succ g2)with e2|e2
    ·subst e2;omega
    ·exact h3 j g1 e2
theorem GI{T:Nat->Nat}{n i k:Nat}(hk:i<k)(h1:T i<=n)(h2:∀j,i<j->j<k->n<T j):atN T n k=i:=by
 induction k with
 |zero=>omega
 |succ k ih=>
  simp only[atN];rcases Nat.eq_or_lt_of_le (Nat.le_of_lt_succ hk)with e|e
  ·subst e;rw[if_pos h1]
  ·rw[if_neg (by have:=h2 k e (by omega);omega)];exact ih e (fun j g1 g2=>h2 j g1 (by omega))
structure o8 (T X:Nat->Nat) (N hi:Nat):Prop where
 pos:0<N
 up:∀i,i+1<N->T i<T (i+1)/\T (i+1)<=T i+2^X i
 last:T (N-1)<=hi/\hi<T (N-1)+2^X (N-1)
theorem o8.mono{T X:Nat->Nat}{N hi:Nat}(h:o8 T X N hi){i:Nat}:∀d,i+d<N->T i+d<=T (i+d)
 |0,_=>Nat.le_refl _
 |d+1,hd=>by
  have:=h.mono (i:=i) d (by omega);have:=(h.up (i+d) (by omega)).1;rw[Nat.add_assoc]at this;omega
theorem o8.lt{T X:Nat->Nat}{N hi:Nat}(h:o8 T X N hi){i j:Nat}(ad:i<j)(hj:j<N):T i<T j:=by
 have:=h.mono (i:=i) (j-i) (by omega);rw[show i+(j-i)=j by omega]at this;omega
theorem o8.at{T X:Nat->Nat}{N hi n:Nat}(h:o8 T X N hi)(h0:T 0<=n)(hn:n<=hi):atN T n N<N/\T (atN T n N)<=n/\n-T (atN T n N)<2^X (atN T n N):=by
 obtain⟨h1,h2,h3⟩:=sk h0 N h.pos;refine⟨h1,h2,?_⟩;rcases Nat.lt_or_ge (atN T n N+1) N with g|g
 ·have:=h3 (atN T n N+1) (by omega) g;have:=(h.up _ g).2;omega
 ·have e:atN T n N=N-1:=by omega
  have:=h.last.2;rw[<-e]at this;omega
theorem o8.back{T X:Nat->Nat}{N hi i x:Nat}(h:o8 T X N hi)(ad:i<N)(hx:∀j,i+1=j->j<N->T i+x<T j):atN T (T i+x) N=i:=by
 refine GI ad (by omega) fun j h1 h2=>?_
 rcases Nat.eq_or_lt_of_le (show i+1<=j by omega)with e|e
 ·exact hx j e h2
 ·have:=hx (i+1) rfl (by omega);have:=h.lt e h2;omega
def ib(i:Nat):Nat:=[3,4,5,6,7,8,9,10,11,13,15,17,19,23,27,31,35,43,51,59,67,83,99,115,131,163,195,227,258].getD i 0
def kB(i:Nat):Nat:=[0,0,0,0,0,0,0,0,1,1,1,1,2,2,2,2,3,3,3,3,4,4,4,4,5,5,5,5,0].getD i 0
def il(i:Nat):Nat:=[1,2,3,4,5,7,9,13,17,25,33,49,65,97,129,193,257,385,513,769,1025,1537,2049,3073,4097,6145,8193,12289,16385,24577].getD i 0
def kK(i:Nat):Nat:=[0,0,0,0,1,1,2,2,3,3,4,4,5,5,6,6,7,7,8,8,9,9,10,10,11,11,12,12,13,13].getD i 0
theorem o9{P:Nat->Prop}[DecidablePred P]{n:Nat}(h:((List.range n).all fun i=>decide (P i))=true):∀i,i<n->P i:=fun i hi=>by
 have:=List.all_eq_true.1 h i (List.mem_range.2 hi);exact of_decide_eq_true this
theorem AZ:o8 ib kB 29 258 where
 pos:=by omega
 up:=fun i hi=>o9 (P:=fun i=>ib i<ib (i+1)/\ib (i+1)<=ib i+2^kB i) (n:=28) (by decide+kernel) i (by omega)
 last:=by decide
theorem Bc:o8 il kK 30 32768 where
 pos:=by omega
 up:=fun i hi=>o9 (P:=fun i=>il i<il (i+1)/\il (i+1)<=il i+2^kK i) (n:=29) (by decide+kernel) i (by omega)
 last:=by decide
theorem GJ:∀i,i<28->i≠27->ib (i+1)=ib i+2^kB i:=fun i hi hn=>
 o9 (P:=fun i=>i≠27->ib (i+1)=ib i+2^kB i) (n:=28) (by decide+kernel) i hi hn
theorem GK:∀i,i<29->il (i+1)=il i+2^kK i:=fun i hi=>o9 (P:=fun i=>il (i+1)=il i+2^kK i) (n:=29) (by decide+kernel) i hi
theorem GL{i x:Nat}(hi:i<29)(hx:x<2^kB i)(hn:¬(i=27/\x=31)):atN ib (ib i+x) 29=i/\3<=ib i+x/\ib i+x<=258:=by
 have h3:3<=ib i/\ib i<=258:=o9 (P:=fun i=>3<=ib i/\ib i<=258) (n:=29) (by decide+kernel) i hi;have ad:∀j,i+1=j->j<29->ib i+x<ib j:=fun j e hj=>by
  subst e;by_cases al:i=27
  ·subst al;have e1:ib 27=227:=rfl;have e2:ib (27+1)=258:=rfl;have e3:(2:Nat)^kB 27=32:=rfl;omega
  ·rw[GJ i (by omega) al];omega
 refine⟨AZ.back hi ad,by omega,?_⟩;rcases Nat.lt_or_ge (i+1) 29 with g|g
 ·have h1:=ad (i+1) rfl g;have h2:ib (i+1)<=258:=(o9 (P:=fun i=>3<=ib i/\ib i<=258) (n:=29) (by decide+kernel) (i+1) g).2;omega
 ·obtain rfl:i=28:=by omega
  have e1:ib 28=258:=rfl;have e3:(2:Nat)^kB 28=1:=rfl;omega
theorem GM{i x:Nat}(hi:i<30)(hx:x<2^kK i):atN il (il i+x) 30=i/\1<=il i+x/\il i+x<=32768:=by
 have h3:1<=il i/\il i<=32768:=o9 (P:=fun i=>1<=il i/\il i<=32768) (n:=30) (by decide+kernel) i hi;have ad:∀j,i+1=j->j<30->il i+x<il j:=fun j e hj=>by
  subst e;rw[GK i (by omega)];omega
 refine⟨Bc.back hi ad,by omega,?_⟩;rcases Nat.lt_or_ge (i+1) 30 with g|g
 ·have h1:=ad (i+1) rfl g;have h2:il (i+1)<=32768:=(o9 (P:=fun i=>1<=il i/\il i<=32768) (n:=30) (by decide+kernel) (i+1) g).2;omega
 ·obtain rfl:i=29:=by omega
  have e1:il 29=24577:=rfl;have e3:(2:Nat)^kK 29=8192:=rfl;omega
def pf(n:Int):Nat:=atN ib n.toNat 29
def ny(n:Int):Int:=if 3<=n/\n<=258 then 0 else 2
def ji(n:Int):Int:=if 3<=n/\n<=258 then((257+pf n:Nat):Int)else 0
def kq(n:Int):Int:=if 3<=n/\n<=258 then((kB (pf n):Nat):Int)else 0
def kC(n:Int):Int:=if 3<=n/\n<=258 then((n.toNat-ib (pf n):Nat):Int)else 0
def Bd(s:Int):Int:=if 257<=s/\s<=285 then 0 else 90
def Be(s:Int):Int:=if 257<=s/\s<=285 then((kB (s-257).toNat:Nat):Int)else 0
def uy(s x:Int):Int:=if 257<=s/\s<=285 then(if x<0\/((2^kB (s-257).toNat:Nat):Int)<=x then 2 else if s=284/\x=31 then 90 else 0)else 90
def Bf(s x:Int):Int:=if uy s x=0 then((ib (s-257).toNat:Nat):Int)+x else 0
def pg(n:Int):Nat:=atN il n.toNat 30
def nz(n:Int):Int:=if 1<=n/\n<=32768 then 0 else 2
def iV(n:Int):Int:=if 1<=n/\n<=32768 then((pg n:Nat):Int)else 0
def kr(n:Int):Int:=if 1<=n/\n<=32768 then((kK (pg n):Nat):Int)else 0
def kL(n:Int):Int:=if 1<=n/\n<=32768 then((n.toNat-il (pg n):Nat):Int)else 0
def Bg(s:Int):Int:=if 0<=s/\s<=29 then 0 else 90
def Bi(s:Int):Int:=if 0<=s/\s<=29 then((kK s.toNat:Nat):Int)else 0
def uz(s x:Int):Int:=if 0<=s/\s<=29 then(if x<0\/((2^kK s.toNat:Nat):Int)<=x then 2 else 0)else 90
def Bj(s x:Int):Int:=if uz s x=0 then((il s.toNat:Nat):Int)+x else 0
theorem GN(i:Nat):kB i<=5:=by
 rcases Nat.lt_or_ge i 29 with h|h
 ·exact o9 (P:=fun i=>kB i<=5) (n:=29) (by decide+kernel) i h
 ·unfold kB;rw[List.getD_eq_getElem?_getD,List.getElem?_eq_none (by simpa using h)];exact Nat.zero_le _
theorem GQ(i:Nat):kK i<=13:=by
 rcases Nat.lt_or_ge i 30 with h|h
 ·exact o9 (P:=fun i=>kK i<=13) (n:=30) (by decide+kernel) i h
 ·unfold kK;rw[List.getD_eq_getElem?_getD,List.getElem?_eq_none (by simpa using h)];exact Nat.zero_le _
theorem wZ{n:Int}(h:ny n=0):3<=n/\n<=258:=by
 unfold ny at h;split at h<;>omega
theorem xc{n:Int}(h:nz n=0):1<=n/\n<=32768:=by
 unfold nz at h;split at h<;>omega
theorem rf{n:Int}(h:ny n=0):uy (ji n) (kC n)=0/\Bf (ji n) (kC n)=n/\Bd (ji n)=0/\Be (ji n)=kq n/\0<=kC n/\kC n<((2^(kq n).toNat:Nat):Int)/\0<=kq n/\kq n<=5:=by
 have hn:=wZ h;obtain⟨m,rfl⟩:=Int.eq_ofNat_of_zero_le (show 0<=n by omega);obtain⟨h1,h2,h3⟩:=AZ.at (n:=m) (show 3<=m by omega) (by omega);have eI:pf (m:Int)=atN ib m 29:=rfl;obtain⟨i,hi⟩:=fY (atN ib m 29);rw[<-hi]at h1 h2 h3 eI;have eS:ji (m:Int)=((257+i:Nat):Int):=by unfold ji;rw[if_pos hn,eI]
 have eB:kq (m:Int)=((kB i:Nat):Int):=by unfold kq;rw[if_pos hn,eI]
 have eX:kC (m:Int)=((m-ib i:Nat):Int):=by unfold kC;rw[if_pos hn,eI];rfl
 have et:(ji (m:Int)-257).toNat=i:=by rw[eS];omega
 have ad:¬(ji (m:Int)=284/\kC (m:Int)=31):=by
  rw[eS,eX];rintro⟨a,b⟩;have al:i=27:=by omega
  subst al;have e1:ib 27=227:=rfl;have hm:m=258:=by omega
  subst hm;exact absurd hi (by decide)
 have hE:uy (ji (m:Int)) (kC (m:Int))=0:=by
  unfold uy;rw[et,if_pos ⟨by rw[eS];omega,by rw[eS];omega⟩,if_neg (by rw[eX];omega),if_neg ad]
 have av:=GN i;refine⟨hE,?_,?_,?_,by rw[eX];omega,by rw[eX,eB,Int.toNat_natCast];omega,by rw[eB];omega,by rw[eB];omega⟩
 ·unfold Bf;rw[if_pos hE,et,eX];omega
 ·unfold Bd;rw[if_pos ⟨by rw[eS];omega,by rw[eS];omega⟩]
 ·unfold Be;rw[if_pos ⟨by rw[eS];omega,by rw[eS];omega⟩,et,eB]
theorem rh{n:Int}(h:nz n=0):uz (iV n) (kL n)=0/\Bj (iV n) (kL n)=n/\Bg (iV n)=0/\Bi (iV n)=kr n/\0<=kL n/\kL n<((2^(kr n).toNat:Nat):Int)/\0<=kr n/\kr n<=13:=by
 have hn:=xc h;obtain⟨m,rfl⟩:=Int.eq_ofNat_of_zero_le (show 0<=n by omega);obtain⟨h1,h2,h3⟩:=Bc.at (n:=m) (show 1<=m by omega) (by omega);have eI:pg (m:Int)=atN il m 30:=rfl;obtain⟨i,hi⟩:=fY (atN il m 30);rw[<-hi]at h1 h2 h3 eI;have eS:iV (m:Int)=((i:Nat):Int):=by unfold iV;rw[if_pos hn,eI]
 have eB:kr (m:Int)=((kK i:Nat):Int):=by unfold kr;rw[if_pos hn,eI]
 have eX:kL (m:Int)=((m-il i:Nat):Int):=by unfold kL;rw[if_pos hn,eI];rfl
 have et:(iV (m:Int)).toNat=i:=by rw[eS];omega
 have hE:uz (iV (m:Int)) (kL (m:Int))=0:=by
  unfold uz;rw[et,if_pos ⟨by rw[eS];omega,by rw[eS];omega⟩,if_neg (by rw[eX];omega)]
 have ad:=GQ i;refine⟨hE,?_,?_,?_,by rw[eX];omega,by rw[eX,eB,Int.toNat_natCast];omega,by rw[eB];omega,by rw[eB];omega⟩
 ·unfold Bj;rw[if_pos hE,et,eX];omega
 ·unfold Bg;rw[if_pos ⟨by rw[eS];omega,by rw[eS];omega⟩]
 ·unfold Bi;rw[if_pos ⟨by rw[eS];omega,by rw[eS];omega⟩,et,eB]
def PN(f:Nat->Nat)(L a p:Nat):Nat->Nat->Nat
 |0,n=>n
 |d+1,n=>if a+n<L/\f (p+n)=f (a+n)then PN f L a p d (n+1)else n
def jk(f:Nat->Nat)(L a p:Nat):Nat:=PN f L a p 258 0
theorem Bk(f:Nat->Nat)(L a p:Nat):∀d n,n<=PN f L a p d n/\PN f L a p d n<=n+d/\(∀i,n<=i->i<PN f L a p d n->a+i<L/\f (p+i)=f (a+i))/\
  (PN f L a p d n=n+d\/¬(a+PN f L a p d n<L/\f (p+PN f L a p d n)=f (a+PN f L a p d n)))
 |0,n=>by
  simp only[PN];exact⟨Nat.le_refl _,Nat.le_refl _,fun i h1 h2=>by omega,.inl rfl⟩
 |d+1,n=>by
  simp only[PN];by_cases h:a+n<L/\f (p+n)=f (a+n)
  ·rw[if_pos h];obtain⟨h1,h2,h3,h4⟩:=Bk f L a p d (n+1);refine⟨by omega,by omega,fun i hi ad=>?_,?_⟩
   ·rcases Nat.eq_or_lt_of_le hi with e|e
    ·subst e;exact h
    ·exact h3 i (by omega) ad
   ·rcases h4 with h4|h4
    ·left;omega
    ·exact .inr h4
  ·rw[if_neg h];exact⟨Nat.le_refl _,by omega,fun i h1 h2=>by omega,.inr h⟩
theorem sn(f:Nat->Nat)(L a p:Nat):jk f L a p<=258/\(∀i,i<jk f L a p->a+i<L/\f (p+i)=f (a+i))/\(jk f L a p=258\/¬(a+jk f L a p<L/\f (p+jk f L a p)=f (a+jk f L a p))):=by
 obtain⟨_,h2,h3,h4⟩:=Bk f L a p 258 0;exact⟨by unfold jk;omega,fun i hi=>h3 i (Nat.zero_le _) hi,by
  unfold jk;rcases h4 with h|h
  ·exact .inl (by omega)
  ·exact .inr h⟩
theorem Bl{f:Nat->Nat}{L a p:Nat}(h:a<=L):a+jk f L a p<=L:=by
 obtain⟨_,h3,_⟩:=sn f L a p;rcases Nat.eq_zero_or_pos (jk f L a p)with e|e
 ·omega
 ·have:=(h3 (jk f L a p-1) (by omega)).1;omega
def Pr(f:Nat->Nat)(L a size:Nat):Nat->Nat->Nat->Nat->Nat×Nat
 |0,_,d,n=>(d,n)
 |p+1,c,d,n=>if a-p<=size/\0<c then
   (if jk f L a p<3 then Pr f L a size p c d n else if n<jk f L a p then Pr f L a size p (c-1) (a-p) (jk f L a p)else Pr f L a size p (c-1) d n)
  else(d,n)
def Bm(f:Nat->Nat)(L a size d n:Nat):Prop:=(d=0/\n=0)\/(1<=d/\d<=size/\d<=a/\3<=n/\n=jk f L a (a-d))
theorem sr{f:Nat->Nat}{L a size:Nat}:∀p c d n,p<=a->Bm f L a size d n->Bm f L a size (Pr f L a size p c d n).1 (Pr f L a size p c d n).2
 |0,_,_,_,_,h=>h
 |p+1,c,d,n,hp,h=>by
  simp only[Pr];split
  ·rename_i hc;split
   ·exact sr p c d n (by omega) h
   ·rename_i hm;split
    ·refine sr p (c-1) _ _ (by omega) (.inr ⟨by omega,hc.1,by omega,by omega,?_⟩);rw[show a-(a-p)=p by omega]
    ·exact sr p (c-1) d n (by omega) h
  ·exact h
structure gA where
 x:Nat
 d:Int
 n:Int
def gS(t:gA):Bool:=decide ((t.n=0/\t.d=0)\/(t.n≠0/\t.x=0/\3<=t.n/\t.n<=258/\1<=t.d/\t.d<=32768))
def pT(t:gA):Nat:=if t.n=0 then 1 else t.n.toNat
def oR(f:Nat->Nat)(L size chain:Nat)(lazy:Bool)(a:Nat):Nat:=if lazy=true/\a+1<L then(Pr f L (a+1) size (a+1) chain 0 0).2 else 0
def PV(f:Nat->Nat)(L size chain:Nat)(lazy:Bool):Nat->Nat->List gA
 |0,_=>[]
 |k+1,a=>if L<=a then[]else
   if(Pr f L a size a chain 0 0).2=0\/(Pr f L a size a chain 0 0).2<oR f L size chain lazy a then⟨f a,0,0⟩::PV f L size chain lazy k (a+1)
   else⟨0,((Pr f L a size a chain 0 0).1:Nat),((Pr f L a size a chain 0 0).2:Nat)⟩::PV f L size chain lazy k (a+(Pr f L a size a chain 0 0).2)
def kD(f:Nat->Nat)(a:Nat):List Nat:=(List.range a).map f
theorem uA(f:Nat->Nat)(a:Nat):(kD f a).length=a:=by simp[kD]
theorem Bn(f:Nat->Nat){a i:Nat}(h:i<a):(kD f a).getD i 0=f i:=by simp[kD,h]
theorem qt{f:Nat->Nat}{L a size chain:Nat}(h:(Pr f L a size a chain 0 0).2≠0):1<=(Pr f L a size a chain 0 0).1/\(Pr f L a size a chain 0 0).1<=size/\(Pr f L a size a chain 0 0).1<=a/\3<=(Pr f L a size a chain 0 0).2/\(Pr f L a size a chain 0 0).2<=258/\
  (∀i,i<(Pr f L a size a chain 0 0).2->a+i<L/\f (a-(Pr f L a size a chain 0 0).1+i)=f (a+i)):=by
 rcases sr (f:=f) (L:=L) (size:=size) a chain 0 0 fZ (.inl ⟨rfl,rfl⟩)with⟨_,h2⟩|⟨h1,h2,h3,h4,h5⟩
 ·exact absurd h2 h
 ·obtain⟨g1,g2,_⟩:=sn f L a (a-(Pr f L a size a chain 0 0).1);rw[<-h5]at g1 g2;exact⟨h1,h2,h3,h4,g1,g2⟩
theorem uB{f:Nat->Nat}{L size chain:Nat}(lazy:Bool)(hs:size<=32768):∀k a,a<=L->(PV f L size chain lazy k a).length<=L-a/\∀t∈PV f L size chain lazy k a,gS t=true/\t.d<=size/\(chain=0->t.n=0)
 |0,a,_=>by simp[PV]
 |k+1,a,h1=>by
  simp only[PV];by_cases h:L<=a
  ·rw[if_pos h];simp
  ·rw[if_neg h];split
   ·obtain⟨i1,i2⟩:=uB (f:=f) (L:=L) (size:=size) (chain:=chain) lazy hs k (a+1) (by omega);refine⟨by rw[List.length_cons];omega,fun t ht=>?_⟩;rcases List.mem_cons.1 ht with rfl|ht
    ·exact⟨by simp[gS],by show(0:Int)<=size;omega,fun _=>rfl⟩
    ·exact i2 t ht
   ·rename_i hc;obtain⟨b1,b2,b3,b4,b5,b6⟩:=qt (f:=f) (L:=L) (a:=a) (size:=size) (chain:=chain) (by omega);have h0:chain=0->(Pr f L a size a chain 0 0).2=0:=fun e=>by
     subst e;cases a with
     |zero=>rfl
     |succ a=>simp only[Pr];rw[if_neg (by omega)]
    obtain⟨d,hd⟩:=fY ((Pr f L a size a chain 0 0).1);obtain⟨n,hn⟩:=fY ((Pr f L a size a chain 0 0).2);rw[<-hd]at b1 b2 b3 b6⊢;rw[<-hn]at b4 b5 b6 h0 hc⊢;have ad:=(b6 (n-1) (by omega)).1;obtain⟨i1,i2⟩:=uB (f:=f) (L:=L) (size:=size) (chain:=chain) lazy hs k (a+n) (by omega);refine⟨by rw[List.length_cons];omega,fun t ht=>?_⟩;rcases List.mem_cons.1 ht with rfl|ht
    ·exact⟨by simp[gS];omega,by show(d:Int)<=size;omega,fun e=>by have:=h0 e;show(n:Int)=0;omega⟩
    ·exact i2 t ht
structure ka (n:Nat) (U:aq) where
 w:aq
 h:aR n U w
instance ka.some(n:Nat)(U:aq):Inhabited (ka n U):=⟨⟨U,Below.refl n U⟩⟩
theorem th{P:az}{id:Nat}{Q:Exit->Act->aq->Prop}{a:Act}{w:aq}{l:List aA}(n:Nat)(U:aq)(hU:aR n U w)(hm:P.follows .mixedOrders=true)(hB:Region.lexB .any l.toArray=true)
  (h:wpQuiet P l.toArray (fun V=>∃p:ka n U,V=p.w) (fun a'=>∀V,(∃p:ka n U,V=p.w)->Q .normal a' V) l a):(Code.region id l.toArray true).wp P Q a w:=
 wp_region_quiet (C:=fun V=>∃p:ka n U,V=p.w) hm hB ⟨⟨_,hU.drew⟩,rfl⟩ (by simpa using h)
theorem mR{P:az}{f:FuncId}{args:Array ax}{n:Nat}{U:aq}{v:ax}(h:∀V,aR n U V->aw P f args V fun e V'=>e=ao v/\aR n U V')(p:ka n U):
  aw P f args p.w fun e ad=>e=ao v/\∃q:ka n U,ad=q.w:=
 (h p.w p.h).mono fun _ _ ⟨he,hb⟩=>⟨he,⟨_,hb⟩,rfl⟩
theorem oh{P:az}{C:aq->Prop}{K:Act->Prop}{a:Act}{o:aA}(ty:aB)(x:Operand)(ho:o.op=.load ty x)(b k:Nat)(hx:a.eval x=.pointer (some ⟨b,k,none⟩))(cs:List ax)(d:TypeDesc)
  (hS:∀V,C V->V.rangeAt b k cs) (hu:P.underlying ty=some d) (hd:d.isRow=true) (hi:(P.info? ty).map (·.size)=some cs.length) (hk:K (a.put o.dst (.agg cs.toArray))):o.quiet P a C K:=
 ⟨_,fun w hw=>by
  unfold Oper.quietAt execOp;simp only[ho,hx,Instr.loadAt,Instr.sureAddr,Sem.run_bind,Sem.run_pure,Result.andThen_ok,run_loadVar_mid w b k ty cs d (hS w hw) hu hd hi];exact⟨rfl,rfl⟩,hk⟩
def ri(v n:Int):Bool:=decide (0<=n/\n<=32/\v<2^n.toNat)
theorem GR{v n:Nat}:ri v n=true↔n<=32/\v<2^n:=by
 have e:((2:Int)^n)=((2^n:Nat):Int):=by rw[Int.natCast_pow];rfl
 simp only[ri,decide_eq_true_eq,Int.toNat_natCast];rw[e];constructor
 ·rintro⟨_,h1,h2⟩;exact⟨by omega,by exact_mod_cast h2⟩
 ·rintro⟨h1,h2⟩;exact⟨by omega,by omega,by exact_mod_cast h2⟩
theorem GU(v p:Int)(h0:0<=v)(hp:0<p):(v/p==0)=decide (v<p):=by
 rw[Bool.eq_iff_iff];simp;constructor
 ·intro h;have:=Int.emod_add_mul_ediv v p;rw[h]at this;have:=Int.emod_lt_of_pos v hp;omega
 ·intro h;exact Int.ediv_eq_zero_of_lt h0 h
theorem GV(v n:Int)(w:aq)(h0:0<=v)(_:v<4294967296)(ad: -9223372036854775808<=n)(al:n<=9223372036854775807):
  aw prog 141 #[ae .u32 v,ae aj n] w fun e w'=>e=ao (.bool (ri v n))/\w=w':=by
 by_cases ha:0<=n
 ·by_cases hb:n<=32
  ·go_enter func141,ntmps141
   go_wp2;go_ret;refine⟨sZ ?_,rfl⟩;rw[GU v _ h0 (Int.pow_pos (by omega))];simp[ri,ha,hb]
  ·go_enter func141,ntmps141
   go_wp2;go_ret;exact⟨sZ (by simp[ri];omega),rfl⟩
 ·go_enter func141,ntmps141
  go_wp2;go_ret;exact⟨sZ (by simp[ri];omega),rfl⟩
theorem uC(k:Nat)(w:aq)(h:k<=9223372036854775800):
  aw prog 53 #[ae aj (k:Int)] w fun e w'=>e=ao (ae aj (((k+7)/8:Nat):Int))/\w=w':=by
 go_enter func53,ntmps53
 go_wp2
 go_ret
 exact⟨rfl,rfl⟩
def PI(v:Nat):Nat->Nat
 |0=>0
 |i+1=>2*PI v i+v/2^i%2
theorem rj(v:Nat):∀i,PI v i<2^i
 |0=>by simp[PI]
 |i+1=>by
  have:=rj v i;have h2:v/2^i%2<2:=Nat.mod_lt _ (by omega);simp only[PI,Nat.pow_succ];omega
theorem GX(v n:Nat)(w:aq)(h1:v<4294967296)(al:n<=32)(hf:ri v n=true):
  aw prog 111 #[ae .u32 v,ae aj n] w fun e w'=>e=ao (.tuple #[ae .u32 (PI v n),ae aj 0])/\w=w':=by
 go_enter func111,ntmps111
 go_wp2_with (go_at_call 141;refine(GV _ _ _ (by omega) (by omega) (by omega) (by omega)).mono ?_;rintro e w' ⟨rfl,rfl⟩)
 go_loop [6,7,13] (fun t _ i=>∃k:Nat,k<=n/\i=ae aj k/\t=ae .u32 (PI v k)) (fun _ _ i=>n-(aP i).toNat)
 case atStart=>exact⟨0,Nat.zero_le _,rfl,rfl⟩
 case round=>
  obtain⟨k,hk,rfl,rfl⟩:=hrel;have hb:=rj v k;have av:PI v k<4294967296:=wy hb (by omega);by_cases ad:k<n
  ·go_wp2;refine⟨⟨k+1,ad,by go_num,kJ ?_⟩,by simp[aP];omega⟩;have h3:PI v k*2<4294967296:=by
    have:=wu (k:=k+1) (by omega);rw[Nat.pow_succ]at this;omega
   have h4:v/2^k%2<2:=Nat.mod_lt _ (by omega);rw[zG v k h1,show((PI v k:Int)*2%4294967296)=((PI v k*2:Nat):Int) by omega,
    FH _ _ 1 h3 (by omega) (by omega) (by omega)]
   simp only[PI];congr 1;omega
  ·go_wp2;go_ret2;exact⟨FI (by rw[show k=n by omega]) rfl,rfl⟩
def oo(f:Nat->Nat)(k:Nat):Nat:=f (k/8)/2^(k%8)%2
def P7(f:Nat->Nat)(at_:Nat):Nat->Nat
 |0=>0
 |i+1=>P7 f at_ i+oo f (at_+i)*2^i
def ks(v j:Nat):Nat:=v/2^j
theorem xd(v:Nat):ks v 0=v:=by simp[ks]
theorem xe(v j:Nat):ks v (j+1)=ks v j/2:=by unfold ks;rw[Nat.pow_succ,<-Nat.div_div_eq_div_mul]
theorem xf(v j:Nat):ks v j<=v:=Nat.div_le_self _ _
def kc(j:Nat):Nat:=2^j
theorem GY:kc 0=1:=rfl
theorem Bo(j:Nat):kc (j+1)=2*kc j:=by unfold kc;rw[Nat.pow_succ,Nat.mul_comm]
theorem GZ(j:Nat)(h:j<=63):kc j<=9223372036854775808:=by
 have:=Nat.pow_le_pow_right (n:=2) (by omega) h;simpa[kc]using this
theorem Bq(j:Nat):0<kc j:=Nat.two_pow_pos j
theorem G0(w:aq)(B:Nat)(A:Option au)(n c:Nat)(f:Nat->Nat)(k:Nat)(hr:gE w B A n f)(hk:k<8*n)(hn:n<=1000000000000):
  aw prog 75 #[af A n c,ae aj (k:Int)] w fun e w'=>e=ao (ae .u32 (oo f k:Nat))/\w=w':=by
 obtain⟨hf,hc⟩:=hr
 obtain⟨b,o,rfl,hb,hc⟩:=hc (by omega)
 have al:=hc (k/8) (by omega)
 have ad:k/8<n:=by omega
 have av:=hf (k/8)
 clear hc hf
 go_enter func75,ntmps75
 go_wp2
 go_loop [5,6] (fun t i=>∃j:Nat,j<=k%8/\i=ae aj j/\t=ae aj (ks (f (k/8)) j:Nat)) (fun _ i=>8-(aP i).toNat)
 case atStart=>exact⟨0,Nat.zero_le _,rfl,by rw[xd]⟩
 case round=>
  obtain⟨j,hj,rfl,rfl⟩:=hrel;have h5:=xf (f (k/8)) j;have h6:=xe (f (k/8)) j;have H6:=fX h6;clear h6;by_cases ad:j<k%8
  ·go_wp2;refine⟨⟨j+1,ad,by go_num,kJ ?_⟩,by simp[aP];omega⟩;rw[H6.out];omega
  ·go_wp2;go_ret;obtain rfl:j=k%8:=by omega
   refine⟨nj ?_,rfl⟩;show _=((ks (f (k/8)) (k%8)%2:Nat):Int)
   omega
theorem Br(w:aq)(n:Nat)(hn:n<64):
  aw prog 113 #[ae aj (n:Int)] w fun e w'=>e=ao (ae .u64 (kc n:Nat))/\w=w':=by
 go_enter func113,ntmps113
 go_wp2
 go_loop [3,4] (fun t i=>∃j:Nat,j<=n/\i=ae aj j/\t=ae .u64 (kc j:Nat)) (fun _ i=>n-(aP i).toNat)
 case atStart=>exact⟨0,Nat.zero_le _,rfl,by rw[GY];rfl⟩
 case round=>
  obtain⟨j,hj,rfl,rfl⟩:=hrel;by_cases ad:j<n
  ·have hp:=GZ (j+1) (by omega);rw[Bo]at hp;have H:=fX (Bo j);go_wp2;refine⟨⟨j+1,ad,by go_num,kJ ?_⟩,by simp[aP];omega⟩;rw[H.out];omega
  ·go_wp2;go_ret;obtain rfl:j=n:=by omega
   exact⟨rfl,rfl⟩
theorem G4(v n:Nat)(w:aq)(h1:v<4294967296)(al:n<=32):
  aw prog 143 #[ae .u32 v,ae aj n] w fun e w'=>e=ao (ae .u32 (PI v n))/\w=w':=by
 go_enter func143,ntmps143
 go_wp2
 go_loop [0,5,6] (fun x t i=>∃k:Nat,k<=n/\i=ae aj k/\t=ae .u32 (PI v k)/\x=ae .u32 (ks v k:Nat)) (fun _ _ i=>n-(aP i).toNat)
 case atStart=>exact⟨0,Nat.zero_le _,rfl,rfl,by rw[xd]⟩
 case round=>
  obtain⟨k,hk,rfl,rfl,rfl⟩:=hrel;have hb:=rj v k;have av:PI v k<4294967296:=wy hb (by omega);have h5:=xf v k;have h6:=xe v k;have H6:=fX h6;clear h6;by_cases ad:k<n
  ·have h3:PI v k*2<4294967296:=by
    have:=wu (k:=k+1) (by omega);rw[Nat.pow_succ]at this;omega
   have h7:=rj v (k+1);have h8:=wy h7 (by omega);clear h7 hb;have h9:PI v (k+1)=2*PI v k+ks v k%2:=rfl;have H9:=fX h9;clear h9;go_wp2;refine⟨⟨k+1,ad,by go_num,kJ ?_,kJ ?_⟩,by simp[aP];omega⟩
   ·have:=H9.out;omega
   ·have:=H6.out;omega
  ·go_wp2;go_ret;exact⟨nj (by rw[show k=n by omega]),rfl⟩
open Go.ChangeMaps (open_string shut_string)
theorem Bt:(prog.info? 5).map (fun i=>(i.zero,i.size,i.bytes))=some (some (ae .u8 0),1,1):=by kernel_rfl
end Go.Proofs.YtokpcpjnihinfaaGreat
