/-
  Words and walks.
-/
import Derived.Deep.MidRow
import Derived.Laws.StructEq
import Derived.WalkKit
import Derived.ProofKit
import Derived.Lib.Hide
import Derived.Handy
import Derived.OpenShut
import Derived.Maps.AppendAt
import Derived.Laws.BytesArg
import Derived.Deep.AppendLies
import Derived.Deep.QuietTactic
import Derived.BigQuiet
import Derived.Laws.CopyOwn
import Derived.StillTailTactics
import Derived.Laws.Rows
import Derived.BigRegion
import Derived.Lib.AppendZeros
import Derived.LoopN
import Derived.Deep.SlicePairs
import Derived.Lib.SmallJoins
import Derived.Deep.RegionLaw
import Derived.Shelf.Abstract
import Derived.Great.BuildSlice
import Derived.Laws.Tables
import Derived.Test.YtgokdgcmkcmjeaaGreatpbaa
set_option maxRecDepth 100000
set_option maxHeartbeats 16000000
namespace Go.Proofs.YtgokdgcmkcmjeaaGreat
open Go.RowKit
structure After (n:Nat) (U:World) where
 w:World
 h:Below n U w
instance After.some(n:Nat)(U:World):Inhabited (After n U):=⟨⟨U,Below.refl n U⟩⟩
theorem wp_region_after{P:Program}{id:Nat}{Q:Exit→Act→World→Prop}{a:Act}{w:World}{l:List Oper}(n:Nat)(U:World)(hU:Below n U w)(hm:P.follows .mixedOrders=true)(hB:Region.lexB .any l.toArray=true)
  (h:wpQuiet P l.toArray (fun V=>∃p:After n U,V=p.w) (fun a'=>∀V,(∃p:After n U,V=p.w)→Q .normal a' V) l a):(Code.region id l.toArray true).wp P Q a w:=
 wp_region_quiet (C:=fun V=>∃p:After n U,V=p.w) hm hB ⟨⟨_,hU.drew⟩,rfl⟩ (by simpa using h)
theorem call_after{P:Program}{f:FuncId}{args:Array Value}{n:Nat}{U:World}{v:Value}(h:∀V,Below n U V→Calls P f args V fun e V'=>e=.returned v∧Below n U V')(p:After n U):
  Calls P f args p.w fun e w''=>e=.returned v∧∃q:After n U,w''=q.w:=
 (h p.w p.h).mono fun _ _ ⟨he,hb⟩=>⟨he,⟨_,hb⟩,rfl⟩
theorem quiet_load_row{P:Program}{C:World→Prop}{K:Act→Prop}{a:Act}{o:Oper}(ty:TypeId)(x:Operand)(ho:o.op=.load ty x)(b k:Nat)(hx:a.eval x=.pointer (some ⟨b,k,none⟩))(cs:List Value)(d:TypeDesc)
  (hS:∀V,C V→V.rangeAt b k cs) (hu:P.underlying ty=some d) (hd:d.isRow=true) (hi:(P.info? ty).map (·.size)=some cs.length) (hk:K (a.put o.dst (.agg cs.toArray))):o.quiet P a C K:=
 ⟨_,fun w hw=>by
  unfold Oper.quietAt execOp
  simp only[ho,hx,Instr.loadAt,Instr.sureAddr,Sem.run_bind,Sem.run_pure,Result.andThen_ok,run_loadVar_mid w b k ty cs d (hS w hw) hu hd hi]
  exact⟨rfl,rfl⟩,hk⟩
theorem quiet_neq{P:Program}{C:World→Prop}{K:Act→Prop}{a:Act}{o:Oper}(ty:TypeId)(x y:Operand)(ho:o.op=.binOp .neq ty x y ty)(u v:Value)(b:Bool)(hx:a.eval x=u)(hy:a.eval y=v)
  (hg:∀w,(eqGuard .neq ty x y u v).run P w=.ok () w) (hrun:∀w,(binOp .neq ty u v).run P w=.ok (.bool b) w) (hk:K (a.put o.dst (.bool b))):o.quiet P a C K:=
 ⟨_,fun w hw=>by
  unfold Oper.quietAt execOp
  simp only[ho,hx,hy,Sem.run_bind,hg,hrun,Result.andThen_ok]
  exact⟨rfl,rfl⟩,hk⟩
end Go.Proofs.YtgokdgcmkcmjeaaGreat
namespace Go.Proofs.YtgokdgcmkcmjeaaGreat
open Go.RowKit
def fitsB(v n:Int):Bool:=decide (0≤n∧n≤32∧v<2^n.toNat)
theorem fitsB_nat{v n:Nat}:fitsB v n=true↔n≤32∧v<2^n:=by
 have e:((2:Int)^n)=((2^n:Nat):Int):=by rw[Int.natCast_pow];rfl
 simp only[fitsB,decide_eq_true_eq,Int.toNat_natCast]
 rw[e]
 constructor
 ·rintro⟨_,h1,h2⟩;exact⟨by omega,by exact_mod_cast h2⟩
 ·rintro⟨h1,h2⟩;exact⟨by omega,by omega,by exact_mod_cast h2⟩
theorem div_zero_iff(v p:Int)(h0:0≤v)(hp:0<p):(v/p==0)=decide (v<p):=by
 rw[Bool.eq_iff_iff];simp
 constructor
 ·intro h
  have:=Int.emod_add_mul_ediv v p
  rw[h]at this
  have:=Int.emod_lt_of_pos v hp
  omega
 ·intro h
  exact Int.ediv_eq_zero_of_lt h0 h
theorem fits_any(v n:Int)(w:World)(h0:0≤v)(_h1:v<4294967296)(hn0: -9223372036854775808≤n)(hn1:n≤9223372036854775807):
  Calls Tryz.prog 134 #[.int .u32 v,.int .i64 n] w fun e w'=>e=.returned (.bool (fitsB v n))∧w=w':=by
 by_cases ha:0≤n
 ·by_cases hb:n≤32
  ·go_enter Tryz.func134,Tryz.ntmps134
   go_wp2
   go_ret
   refine⟨ret_bool ?_,rfl⟩
   rw[div_zero_iff v _ h0 (Int.pow_pos (by omega))]
   simp[fitsB,ha,hb]
  ·go_enter Tryz.func134,Tryz.ntmps134
   go_wp2
   go_ret
   exact⟨ret_bool (by simp[fitsB];omega),rfl⟩
 ·go_enter Tryz.func134,Tryz.ntmps134
  go_wp2
  go_ret
  exact⟨ret_bool (by simp[fitsB];omega),rfl⟩
theorem need_any(k:Nat)(w:World)(h:k≤9223372036854775800):
  Calls Tryz.prog 82 #[.int .i64 (k:Int)] w fun e w'=>e=.returned (.int .i64 (((k+7)/8:Nat):Int))∧w=w':=by
 go_enter Tryz.func82,Tryz.ntmps82
 go_wp2
 go_ret
 exact⟨rfl,rfl⟩
def turnN(v:Nat):Nat→Nat
 |0=>0
 |i+1=>2*turnN v i+v/2^i%2
theorem turnN_lt(v:Nat):∀i,turnN v i<2^i
 |0=>by simp[turnN]
 |i+1=>by
  have:=turnN_lt v i
  have h2:v/2^i%2<2:=Nat.mod_lt _ (by omega)
  simp only[turnN,Nat.pow_succ];omega
theorem turn_ok(v n:Nat)(w:World)(h1:v<4294967296)(hn1:n≤32)(hf:fitsB v n=true):
  Calls Tryz.prog 93 #[.int .u32 v,.int .i64 n] w fun e w'=>e=.returned (.tuple #[.int .u32 (turnN v n),.int .i64 0])∧w=w':=by
 go_enter Tryz.func93,Tryz.ntmps93
 go_wp2_with (go_at_call 134;refine(fits_any _ _ _ (by omega) (by omega) (by omega) (by omega)).mono ?_;rintro e w' ⟨rfl,rfl⟩)
 go_loop [6,7,13] (fun t _ i=>∃k:Nat,k≤n∧i=.int .i64 k∧t=.int .u32 (turnN v k)) (fun _ _ i=>n-(intOf i).toNat)
 case atStart=>exact⟨0,Nat.zero_le _,rfl,rfl⟩
 case round=>
  obtain⟨k,hk,rfl,rfl⟩:=hrel
  have hb:=turnN_lt v k
  have hb2:turnN v k<4294967296:=lt_32 hb (by omega)
  by_cases hlt:k<n
  ·go_wp2
   refine⟨⟨k+1,hlt,by go_num,val_int ?_⟩,by simp[intOf];omega⟩
   have h3:turnN v k*2<4294967296:=by
    have:=pow_le_32 (k:=k+1) (by omega)
    rw[Nat.pow_succ]at this;omega
   have h4:v/2^k%2<2:=Nat.mod_lt _ (by omega)
   rw[bit_cast v k h1,show((turnN v k:Int)*2%4294967296)=((turnN v k*2:Nat):Int) by omega,
    u32_or_add _ _ 1 h3 (by omega) (by omega) (by omega)]
   simp only[turnN];congr 1;omega
  ·go_wp2
   go_ret2
   exact⟨ret_two (by rw[show k=n by omega]) rfl,rfl⟩
end Go.Proofs.YtgokdgcmkcmjeaaGreat
namespace Go.Proofs.YtgokdgcmkcmjeaaGreat
open Go.RowKit
def bitAt(f:Nat→Nat)(k:Nat):Nat:=f (k/8)/2^(k%8)%2
theorem bitAt_lt(f:Nat→Nat)(k:Nat):bitAt f k<2:=Nat.mod_lt _ (by omega)
def numN(f:Nat→Nat)(at_:Nat):Nat→Nat
 |0=>0
 |i+1=>numN f at_ i+bitAt f (at_+i)*2^i
theorem numN_lt(f:Nat→Nat)(at_:Nat):∀i,numN f at_ i<2^i
 |0=>by simp[numN]
 |i+1=>by
  have:=numN_lt f at_ i
  have h2:=bitAt_lt f (at_+i)
  have:bitAt f (at_+i)*2^i≤1*2^i:=Nat.mul_le_mul_right _ (by omega)
  simp only[numN,Nat.pow_succ];omega
theorem bit_any(w:World)(B:Nat)(A:Option Addr)(n c:Nat)(f:Nat→Nat)(k:Nat)(hr:RdB w B A n f)(hk:k<8*n)(hn:n≤9223372036854775807/8):
  Calls Tryz.prog 135 #[.slice A n c,.int .i64 (k:Int)] w fun e w'=>e=.returned (.int .u32 (bitAt f k:Nat))∧w=w':=by
 obtain⟨hf,hc⟩:=hr
 obtain⟨b,o,rfl,hb,hc⟩:=hc (by omega)
 have hcell:=hc (k/8) (by omega)
 have hlt:k/8<n:=by omega
 have hf8:=hf (k/8)
 clear hc
 go_enter Tryz.func135,Tryz.ntmps135
 go_wp2
 go_ret
 refine⟨ret_int ?_,rfl⟩
 have h5:f (k/8)/2^(k%8)<256:=Nat.lt_of_le_of_lt (Nat.div_le_self _ _) hf8
 rw[cast_shr,emod_u32 _ (by omega),u32_and_one _ (by omega)]
 rfl
theorem take_arg(w:World)(A:Option Addr)(l c:Nat)(a n:Int)(h:a<0∨n<0∨32<n):
  Calls Tryz.prog 94 #[.slice A l c,.int .i64 a,.int .i64 n] w fun e w'=>e=.returned (.tuple #[.int .u32 0,.int .i64 2])∧w=w':=by
 by_cases h1:a<0
 ·go_enter Tryz.func94,Tryz.ntmps94
  go_wp2
  go_ret2
  exact⟨rfl,rfl⟩
 ·by_cases h2:n<0
  ·go_enter Tryz.func94,Tryz.ntmps94
   go_wp2
   go_ret2
   exact⟨rfl,rfl⟩
  ·have h3:32<n:=by omega
   clear h
   go_enter Tryz.func94,Tryz.ntmps94
   go_wp2
   go_ret2
   exact⟨rfl,rfl⟩
theorem take_end(w:World)(A:Option Addr)(l c:Nat)(a n:Nat)(ha:a≤9223372036854775807)(hn:n≤32)(hl:l≤1000000000000)(h:8*l<a+n):
  Calls Tryz.prog 94 #[.slice A l c,.int .i64 (a:Int),.int .i64 (n:Int)] w fun e w'=>e=.returned (.tuple #[.int .u32 0,.int .i64 10])∧w=w':=by
 go_enter Tryz.func94,Tryz.ntmps94
 go_wp2
 go_ret2
 exact⟨rfl,rfl⟩
theorem take_ok(w:World)(B:Nat)(A:Option Addr)(l c:Nat)(f:Nat→Nat)(a n:Nat)(hr:RdB w B A l f)(hn:n≤32)(hl:l≤1000000000000)(h:a+n≤8*l):
  Calls Tryz.prog 94 #[.slice A l c,.int .i64 (a:Int),.int .i64 (n:Int)] w fun e w'=>e=.returned (.tuple #[.int .u32 (numN f a n:Nat),.int .i64 0])∧w=w':=by
 have HR:=Lib.hid hr
 clear hr
 go_enter Tryz.func94,Tryz.ntmps94
 go_wp2
 go_loop [8,9,31] (fun t _ i=>∃k:Nat,k≤n∧i=.int .i64 k∧t=.int .u32 (numN f a k:Nat)) (fun _ _ i=>n-(intOf i).toNat)
 case atStart=>exact⟨0,Nat.zero_le _,rfl,rfl⟩
 case round=>
  obtain⟨k,hk,rfl,rfl⟩:=hrel
  have hb:=numN_lt f a k
  have hb2:numN f a k<4294967296:=lt_32 hb (by omega)
  have h4:=bitAt_lt f (a+k)
  by_cases hlt:k<n
  ·go_wp2_with (go_at_call 135;refine(bit_any _ B _ _ _ f (a+k) HR.out (by omega) (by omega)).mono ?_;rintro e w' ⟨rfl,rfl⟩)
   refine⟨⟨k+1,hlt,by go_num,val_int ?_⟩,by simp[intOf];omega⟩
   have h6:bitAt f (a+k)*2^k≤1*2^k:=Nat.mul_le_mul_right _ (by omega)
   have h7:=pow_le_32 (k:=k+1) (by omega)
   rw[Nat.pow_succ]at h7
   have h8:bitAt f (a+k)*2^k<4294967296:=by omega
   rw[cast_shl,emod_u32 _ h8,u32_or_add' _ _ k hb2 h8 hb (Nat.dvd_mul_left _ _)]
   rfl
  ·go_wp2
   go_ret2
   exact⟨ret_two (by rw[show k=n by omega]) rfl,rfl⟩
def shrN(v j:Nat):Nat:=v/2^j
end Go.Proofs.YtgokdgcmkcmjeaaGreat
namespace Go.Proofs.YtgokdgcmkcmjeaaGreat
open Go.RowKit Go.ChangeShapes Go.WideShapes Go.ChangeAt
open Go.ChangeMaps (open_string shut_string)
def takeV(f:Nat→Nat)(l:Nat)(a n:Int):Nat:=if a<0∨n<0∨32<n then 0 else if 8*(l:Int)<a+n then 0 else numN f a.toNat n.toNat
def takeE(l:Nat)(a n:Int):Int:=if a<0∨n<0∨32<n then 2 else if 8*(l:Int)<a+n then 10 else 0
theorem take_cases{P:Int→Int→Prop}(f:Nat→Nat)(l:Nat)(a n:Int)
  (h1:a<0∨n<0∨32<n→P 0 2) (h2:∀x y:Nat,a=x→n=y→y≤32→8*l<x+y→P 0 10)
  (h3:∀x y:Nat,a=x→n=y→y≤32→x+y≤8*l→P (numN f x y:Nat) 0):P (takeV f l a n:Nat) (takeE l a n):=by
 unfold takeV takeE
 by_cases c1:a<0∨n<0∨32<n
 ·rw[if_pos c1,if_pos c1];exact h1 c1
 ·rw[if_neg c1,if_neg c1]
  obtain⟨x,rfl⟩:=Int.eq_ofNat_of_zero_le (show 0≤a by omega)
  obtain⟨y,rfl⟩:=Int.eq_ofNat_of_zero_le (show 0≤n by omega)
  by_cases c2:8*(l:Int)<(x:Int)+(y:Int)
  ·rw[if_pos c2,if_pos c2];exact h2 x y rfl rfl (by omega) (by omega)
  ·rw[if_neg c2,if_neg c2];exact h3 x y rfl rfl (by omega) (by omega)
theorem take_any(w:World)(B:Nat)(A:Option Addr)(l c:Nat)(f:Nat→Nat)(a n:Int)(hr:RdB w B A l f)(hl:l≤1000000000000)(ha:a≤9223372036854775807):
  Calls Tryz.prog 94 #[.slice A l c,.int .i64 a,.int .i64 n] w fun e w'=>e=.returned (.tuple #[.int .u32 (takeV f l a n:Nat),.int .i64 (takeE l a n)])∧w=w':=by
 refine take_cases (P:=fun x y=>Calls Tryz.prog 94 #[.slice A l c,.int .i64 a,.int .i64 n] w fun e w'=>e=.returned (.tuple #[.int .u32 x,.int .i64 y])∧w=w') f l a n ?_ ?_ ?_
 ·intro h;exact take_arg w A l c a n h
 ·rintro x y rfl rfl h1 h2;exact take_end w A l c x y (by omega) h1 hl h2
 ·rintro x y rfl rfl h1 h2;exact take_ok w B A l c f x y hr h1 hl h2
end Go.Proofs.YtgokdgcmkcmjeaaGreat
namespace Go.Proofs.YtgokdgcmkcmjeaaGreat
open Go.RowKit
theorem sz5:(Tryz.prog.info? 5).map (·.size)=some 1:=by kernel_rfl
def zext(n:Nat)(f:Nat→Nat)(j:Nat):Nat:=if j<n then f j else 0
end Go.Proofs.YtgokdgcmkcmjeaaGreat
namespace Go.Proofs.YtgokdgcmkcmjeaaGreat
open Go.RowKit
def stepF(f:Nat→Nat)(k b:Nat):Nat→Nat:=upd f (k/8) (f (k/8)+b*2^(k%8))
def putF(f:Nat→Nat)(k v:Nat):Nat→(Nat→Nat)
 |0=>f
 |i+1=>stepF (putF f k v i) (k+i) (v/2^i%2)
def Clean(f:Nat→Nat)(k:Nat):Prop:=(∀j,f j<256)∧(∀j,k/8<j→f j=0)∧f (k/8)<2^(k%8)
theorem Clean.step{f:Nat→Nat}{k b:Nat}(h:Clean f k)(hb:b<2):Clean (stepF f k b) (k+1):=by
 obtain⟨h1,h2,h3⟩:=h
 have h8:k%8<8:=Nat.mod_lt _ (by omega)
 have hp:2^(k%8)*2≤256:=by
  have:=Nat.pow_le_pow_right (n:=2) (by omega) (show k%8+1≤8 by omega)
  rw[Nat.pow_succ]at this;simpa using this
 have hq:b*2^(k%8)≤1*2^(k%8):=Nat.mul_le_mul_right _ (by omega)
 refine⟨fun j=>?_,fun j hj=>?_,?_⟩
 ·unfold stepF upd;split
  ·omega
  ·exact h1 j
 ·unfold stepF upd
  rw[if_neg (by omega)]
  exact h2 j (by omega)
 ·unfold stepF upd
  by_cases e:k%8=7
  ·rw[if_neg (by omega),h2 _ (by omega)];exact Nat.two_pow_pos _
  ·rw[if_pos (by omega),show(k+1)%8=k%8+1 by omega,Nat.pow_succ];omega
theorem Clean.put{f:Nat→Nat}{k:Nat}(h:Clean f k)(v:Nat):∀i,Clean (putF f k v i) (k+i)
 |0=>h
 |i+1=>(Clean.put h v i).step (Nat.mod_lt _ (by omega))
end Go.Proofs.YtgokdgcmkcmjeaaGreat
namespace Go.Proofs.YtgokdgcmkcmjeaaGreat
def bitsT:List (Nat×Nat)→Nat
 |[]=>0
 |x::l=>x.2+bitsT l
def putsF(f:Nat→Nat)(k:Nat):List (Nat×Nat)→Nat→Nat
 |[]=>f
 |x::l=>putsF (putF f k x.1 x.2) (k+x.2) l
theorem bitsT_app:∀a b,bitsT (a++b)=bitsT a+bitsT b
 |[],b=>by simp[bitsT]
 |x::a,b=>by simp only[List.cons_append,bitsT,bitsT_app a b];omega
theorem putsF_app(f:Nat→Nat)(k:Nat):∀a b,putsF f k (a++b)=putsF (putsF f k a) (k+bitsT a) b
 |[],b=>by simp[bitsT,putsF]
 |x::a,b=>by
  simp only[List.cons_append,bitsT,putsF]
  rw[putsF_app _ _ a b,Nat.add_assoc]
theorem Clean.puts{f:Nat→Nat}{k:Nat}(h:Clean f k):∀l,Clean (putsF f k l) (k+bitsT l)
 |[]=>h
 |x::l=>by
  have:=(h.put x.1 x.2).puts l
  simp only[putsF,bitsT]
  rwa[Nat.add_assoc]at this
def codP(F:Nat→Nat)(n i:Nat):Nat×Nat:=(turnN (codeB F n i) (F i),F i)
def symA(t:Tok):Nat:=if t.n=0 then t.x else(lgS t.n).toNat
def symB(t:Tok):Nat:=(frS t.d).toNat
def tokP(F:Nat→Nat)(n:Nat)(G:Nat→Nat)(m:Nat)(t:Tok):List (Nat×Nat):=
 if t.n=0 then[codP F n t.x]else[codP F n (lgS t.n).toNat,((lgX t.n).toNat,(lgB t.n).toNat),codP G m (frS t.d).toNat,((frX t.d).toNat,(frB t.d).toNat)]
def toksP(F:Nat→Nat)(n:Nat)(G:Nat→Nat)(m:Nat)(l:List Tok):List (Nat×Nat):=l.flatMap (tokP F n G m)++[codP F n 256]
def fixA(i:Nat):Nat:=if 256≤i∧i≤279 then 7 else if 144≤i∧i≤255 then 9 else 8
def fixB(_:Nat):Nat:=5
def ordN(i:Nat):Nat:=[16,17,18,0,8,7,9,6,10,5,11,4,12,3,13,2,14,1,15].getD i 0
def cntA(l:List Tok)(i:Nat):Nat:=(if i=256 then 1 else 0)+l.countP fun t=>decide (symA t=i)
def cntB(l:List Tok)(i:Nat):Nat:=l.countP fun t=>decide (t.n≠0∧symB t=i)
theorem cntB_one(l:List Tok)(t:Tok)(i:Nat):cntB (l++[t]) i=cntB l i+if t.n≠0∧symB t=i then 1 else 0:=by
 unfold cntB;rw[List.countP_append,List.countP_singleton];simp only[decide_eq_true_eq]
theorem cntA_le(l:List Tok)(i:Nat):cntA l i≤l.length+1:=by
 have:=List.countP_le_length (p:=fun t=>decide (symA t=i)) (l:=l)
 unfold cntA;split<;>omega
theorem cntB_le(l:List Tok)(i:Nat):cntB l i≤l.length:=List.countP_le_length
theorem cntA_pos{l:List Tok}{t:Tok}(h:t∈l):0<cntA l (symA t):=by
 have:0<l.countP fun u=>decide (symA u=symA t):=List.countP_pos_iff.2 ⟨t,h,by simp⟩
 unfold cntA;omega
theorem cntB_pos{l:List Tok}{t:Tok}(h:t∈l)(hn:t.n≠0):0<cntB l (symB t):=List.countP_pos_iff.2 ⟨t,h,by simp[hn]⟩
theorem cntA_end(l:List Tok):0<cntA l 256:=by unfold cntA;rw[if_pos rfl];omega
def frqL(c:Nat→Nat)(n:Nat):List Int:=(List.range n).map fun i=>((c i:Nat):Int)
theorem frqL_length(c:Nat→Nat)(n:Nat):(frqL c n).length=n:=by simp[frqL]
theorem frqL_get(c:Nat→Nat){n i:Nat}(h:i<n):(frqL c n).getD i 0=((c i:Nat):Int):=by
 unfold frqL;rw[List.getD_eq_getElem?_getD];simp[h]
theorem freq_frq(c:Nat→Nat){n i:Nat}(h:i<n):freqN (frqL c n) i=c i:=by unfold freqN;rw[frqL_get c h];rfl
theorem ask_frq{c:Nat→Nat}{n:Nat}{most:Nat}(h1:1≤most)(h2:most≤15)(hn:n≤320)(hn2:n≤2^most)(hc:∀i,c i≤1073741824):askE (frqL c n) (most:Int)=0:=by
 unfold askE
 rw[frqL_length,if_neg (by omega),if_neg (by omega),if_neg,if_neg]
 ·have:=nI_le (freqN (frqL c n)) n
  rw[Int.toNat_natCast];omega
 ·unfold badL
  simp only[decide_eq_true_eq]
  rintro⟨j,hj,hb⟩
  rw[frqL_get c hj]at hb
  unfold badI at hb
  simp only[decide_eq_true_eq]at hb
  have:=hc j
  omega
def lenM(c:Nat→Nat)(n most:Nat):Nat→Nat:=outL (frqL c n) (most:Int)
theorem lenM_may{c:Nat→Nat}{n:Nat}{most:Nat}(h1:1≤most)(h2:most≤15)(hn:n≤320)(hn2:n≤2^most)(hc:∀i,c i≤1073741824):
  (∀i,lenM c n most i≤most)∧allN (lenM c n most) n≤32768∧(∀i,i<n→(0<lenM c n most i↔0<c i))∧lenM c n most=lenB (freqN (frqL c n)) n most∧nI (freqN (frqL c n)) n≤2^most:=by
 have ha:=ask_frq h1 h2 hn hn2 hc
 obtain⟨h3,h4,h5⟩:=out_may ha
 rw[frqL_length]at h4 h5
 obtain⟨_,_,_,_,g5,_⟩:=check_ok h4
 have hnI:nI (freqN (frqL c n)) n≤2^most:=Nat.le_trans (nI_le _ _) hn2
 have e:lenM c n most=lenB (freqN (frqL c n)) n most:=by
  funext i;unfold lenM outL;rw[if_pos ha,frqL_length,Int.toNat_natCast]
 refine⟨fun i=>by rw[e];exact lenB_le _ (by omega) i,g5,fun i hi=>?_,e,hnI⟩
 rw[e]
 constructor
 ·intro g
  rcases Nat.eq_zero_or_pos (c i)with h0|h0
  ·unfold lenB at g;rw[freq_frq c hi,if_pos h0]at g;omega
  ·exact h0
 ·intro g;exact(lenB_bd (by omega) hnI hi (by rw[freq_frq c hi];exact g)).1
def cutN(f:Nat→Nat)(least:Nat):Nat→Nat
 |0=>least
 |k+1=>if least≤k∧f k≠0 then k+1 else cutN f least k
theorem cutN_ge(f:Nat→Nat)(least:Nat):∀n,least≤cutN f least n
 |0=>Nat.le_refl _
 |k+1=>by
  simp only[cutN]
  split
  ·omega
  ·exact cutN_ge f least k
theorem cutN_le(f:Nat→Nat)(least:Nat):∀n,least≤n→cutN f least n≤n
 |0,h=>h
 |k+1,h=>by
  simp only[cutN]
  split
  ·omega
  ·rename_i g
   rcases Nat.eq_or_lt_of_le h with e|e
   ·have:∀j,j≤k→cutN f least j=least:=by
     intro j
     induction j with
     |zero=>intro _;rfl
     |succ j ih=>intro hj;simp only[cutN];rw[if_neg (by omega)];exact ih (by omega)
    rw[this k (Nat.le_refl _)];omega
   ·exact Nat.le_trans (cutN_le f least k (by omega)) (by omega)
theorem cutN_in(f:Nat→Nat)(least:Nat):∀n i,i<n→f i≠0→i<cutN f least n
 |0,i,h,_=>absurd h (by omega)
 |k+1,i,h,hf=>by
  simp only[cutN]
  split
  ·omega
  ·rename_i g
   rcases Nat.eq_or_lt_of_le (Nat.le_of_lt_succ h)with e|e
   ·subst e
    have:=cutN_ge f least i
    have:¬least≤i:=fun h2=>g ⟨h2,hf⟩
    omega
   ·exact cutN_in f least k i e hf
theorem allN_mono(f:Nat→Nat){a b:Nat}(h:a≤b):allN f a≤allN f b:=by
 induction b with
 |zero=>rw[show a=0 by omega];exact Nat.le_refl _
 |succ b ih=>
  rcases Nat.eq_or_lt_of_le h with h|h
  ·subst h;exact Nat.le_refl _
  ·exact Nat.le_trans (ih (by omega)) (Nat.le_add_right _ _)
def lnA(l:List Tok):Nat→Nat:=lenM (cntA l) 286 15
def lnB(l:List Tok):Nat→Nat:=lenM (cntB l) 30 15
def nA(l:List Tok):Nat:=cutN (lnA l) 257 286
def nB(l:List Tok):Nat:=cutN (lnB l) 1 30
def allF(l:List Tok):Nat→Nat:=cat (lnA l) (nA l) (lnB l)
def runD(l:List Tok):List (Int×Int):=ofU (allF l) (nA l+nB l) 0
def cntR(l:List (Int×Int))(i:Nat):Nat:=l.countP fun r=>decide (r.1=(i:Int))
theorem cntR_one(l:List (Int×Int))(r:Int×Int)(i:Nat):cntR (l++[r]) i=cntR l i+if r.1=(i:Int)then 1 else 0:=by
 unfold cntR;rw[List.countP_append,List.countP_singleton];simp only[decide_eq_true_eq]
theorem cntR_le(l:List (Int×Int))(i:Nat):cntR l i≤l.length:=List.countP_le_length
def lnR(l:List Tok):Nat→Nat:=lenM (cntR (runD l)) 19 7
def rowR(l:List Tok)(i:Nat):Nat:=lnR l (ordN i)
def nR(l:List Tok):Nat:=cutN (rowR l) 4 19
def runP(F:Nat→Nat)(r:Int×Int):List (Nat×Nat):=[codP F 19 r.1.toNat,(r.2.toNat,(bitV r.1).toNat)]
def dynP(l:List Tok):List (Nat×Nat):=
 [(nA l-257,5),(nB l-1,5),(nR l-4,4)]++((List.range (nR l)).map fun i=>(rowR l i,3))++(runD l).flatMap (runP (lnR l))
def padN(a:Nat):Nat:=(8-(a+3)%8)%8
def stoP(a n:Nat)(r:Nat→Nat):List (Nat×Nat):=List.replicate (padN a) (0,1)++[(n,16),(65535-n,16)]++((List.range n).map fun i=>(r i,8))
def blkP(a kind n:Nat)(r:Nat→Nat)(l:List Tok)(last:Bool):List (Nat×Nat):=
 [(if last then 1 else 0,1),(kind,2)]++(if kind=1 then toksP fixA 288 fixB 32 l else if kind=2 then dynP l++toksP (lnA l) (nA l) (lnB l) (nB l) l else stoP a n r)
def askW(kind n:Nat)(l:List Tok):Int:=if 2<kind then 2 else if 65535<n∨65535<l.length then 4 else if l.all mayT then 0 else 8
theorem sym_lt{t:Tok}(h:mayT t=true)(hx:t.x<256):symA t<286∧(t.n=0→symA t=t.x)∧(t.n≠0→lgE t.n=0∧frE t.d=0∧257≤symA t∧symB t<30):=by
 unfold mayT at h
 simp only[decide_eq_true_eq]at h
 unfold symA symB
 by_cases h0:t.n=0
 ·rw[if_pos h0];exact⟨by omega,fun _=>rfl,fun g=>absurd h0 g⟩
 ·rw[if_neg h0]
  obtain⟨_,_,h3,h4,h5,h6⟩:t.n≠0∧t.x=0∧3≤t.n∧t.n≤258∧1≤t.d∧t.d≤32768:=by
   rcases h with⟨a,_⟩|h
   ·exact absurd a h0
   ·exact h
  have e1:lgE t.n=0:=if_pos ⟨h3,h4⟩
  have e2:frE t.d=0:=if_pos ⟨h5,h6⟩
  have a1:=(atN_spec (T:=longT) (n:=t.n.toNat) (show 3≤t.n.toNat by omega) 29 (by omega)).1
  have a2:=(atN_spec (T:=farT) (n:=t.d.toNat) (show 1≤t.d.toNat by omega) 30 (by omega)).1
  have s1:lgS t.n=((257+lgI t.n:Nat):Int):=if_pos ⟨h3,h4⟩
  have s2:frS t.d=((frI t.d:Nat):Int):=if_pos ⟨h5,h6⟩
  have b1:lgI t.n<29:=a1
  have b2:frI t.d<30:=a2
  refine⟨by omega,fun g=>absurd g h0,fun _=>⟨e1,e2,by omega,by omega⟩⟩
theorem dyn_ok(l:List Tok)(hl:l.length≤1000000):
  (∀i,lnA l i≤15)∧(∀i,lnB l i≤15)∧allN (lnA l) (nA l)≤32768∧allN (lnB l) (nB l)≤32768∧257≤nA l∧nA l≤286∧1≤nB l∧nB l≤30∧
  (∀i,i<286→0<cntA l i→i<nA l∧0<lnA l i)∧(∀i,i<30→0<cntB l i→i<nB l∧0<lnB l i):=by
 obtain⟨a1,a2,a3,_,_⟩:=lenM_may (c:=cntA l) (n:=286) (most:=15) (by omega) (by omega) (by omega) (by decide) (fun i=>by have:=cntA_le l i;omega)
 obtain⟨b1,b2,b3,_,_⟩:=lenM_may (c:=cntB l) (n:=30) (most:=15) (by omega) (by omega) (by omega) (by decide) (fun i=>by have:=cntB_le l i;omega)
 have c1:=cutN_ge (lnA l) 257 286
 have c2:=cutN_le (lnA l) 257 286 (by omega)
 have d1:=cutN_ge (lnB l) 1 30
 have d2:=cutN_le (lnB l) 1 30 (by omega)
 refine⟨a1,b1,Nat.le_trans (allN_mono _ c2) a2,Nat.le_trans (allN_mono _ d2) b2,c1,c2,d1,d2,fun i hi h=>?_,fun i hi h=>?_⟩
 ·have:=(a3 i hi).2 h
  exact⟨cutN_in _ _ _ i hi (by unfold lnA;omega),this⟩
 ·have:=(b3 i hi).2 h
  exact⟨cutN_in _ _ _ i hi (by unfold lnB;omega),this⟩
theorem all_le(l:List Tok)(hl:l.length≤1000000)(i:Nat):allF l i≤15:=by
 obtain⟨h1,h2,_⟩:=dyn_ok l hl
 unfold allF cat;split
 ·exact h1 _
 ·exact h2 _
end Go.Proofs.YtgokdgcmkcmjeaaGreat
namespace Go.Proofs.YtgokdgcmkcmjeaaGreat
open Go.RowKit
def ByR(w:World)(B:Nat)(A:Option Addr)(n c:Nat)(f:Nat→Nat):Prop:=RdB w B A n f∧(A=none→c=0)∧n≤c∧c≤maxLen
theorem ByR.below{w w':World}{B B' n c:Nat}{A:Option Addr}{f:Nat→Nat}(h:ByR w B A n c f)(hb:Below B' w w')(hB:B≤B'):ByR w' B A n c f:=⟨h.1.below hb hB,h.2⟩
theorem ByR.more{w:World}{B B' n c:Nat}{A:Option Addr}{f:Nat→Nat}(h:ByR w B A n c f)(hB:B≤B'):ByR w B' A n c f:=⟨h.1.more hB,h.2⟩
theorem ByR.nil(w:World)(B:Nat)(f:Nat→Nat)(hf:∀j,f j<256):ByR w B none 0 0 f:=⟨⟨hf,fun h=>by omega⟩,fun _=>rfl,Nat.le_refl _,by unfold maxLen;omega⟩
theorem ByR.of_own{w:World}{base n c:Nat}{A:Option Addr}{f:Nat→Nat}(h:w.ownsRow base 5 1 (.slice A n c) n (bytesL n f))(hf:∀j,f j<256):ByR w w.heap.size A n c f:=by
 refine⟨RdB.of_own h hf,?_⟩
 rcases h.2 with⟨hv,h0⟩|⟨g,cap,cur,hv,_,_,h1,h2,_⟩
 ·injection hv with h3 h4 h5
  exact⟨fun _=>h5,by omega,by unfold maxLen;omega⟩
 ·injection hv with h3 h4 h5
  exact⟨(fun h=>by rw[h]at h3;cases h3),by omega,by omega⟩
theorem RdB.ext{w:World}{B n:Nat}{A:Option Addr}{f g:Nat→Nat}(h:RdB w B A n f)(hg:∀j,g j<256)(e:∀j,j<n→f j=g j):RdB w B A n g:=by
 refine⟨hg,fun hn=>?_⟩
 obtain⟨b,o,rfl,hlt,hc⟩:=h.2 hn
 exact⟨b,o,rfl,hlt,fun j hj=>by rw[←e j hj];exact hc j hj⟩
theorem ByR.ext{w:World}{B n c:Nat}{A:Option Addr}{f g:Nat→Nat}(h:ByR w B A n c f)(hg:∀j,g j<256)(e:∀j,j<n→f j=g j):ByR w B A n c g:=⟨h.1.ext hg e,h.2⟩
theorem open_byr{H:Type}{enc:TypeId×Value→H}{W:World}{base:Nat}{sp:Nat→Bool}{hd:Bool}{a:Option Addr}{len cap:Nat}{d:DataW H}{p:List MemPlace}
  (h:∃fuel,DataW.trod enc Tryz.prog W base sp hd fuel 22 (Value.slice a len cap).cells.toList=some (d,p)):∃f,ByR W W.heap.size a len cap f:=by
 obtain⟨f,h1,h2,h3,h4⟩:=open_bytes h
 exact⟨f,h1,h2,h3,h4⟩
theorem ByR.drop{w:World}{B n c p:Nat}{a:Addr}{A2:Option Addr}{f:Nat→Nat}(h:ByR w B (some a) n c f)(hp:p≤n)(hA:(if c=p then some a else some (a.add p))=A2):ByR w B A2 (n-p) (c-p) (fun j=>f (j+p)):=by
 obtain⟨h1,h2,h3,h4⟩:=h
 refine⟨⟨fun j=>h1.1 _,fun hn=>?_⟩,fun h=>?_,by omega,by omega⟩
 ·obtain⟨b,o,e,hb,hcc⟩:=h1.2 (by omega)
  cases e
  rw[if_neg (by omega)]at hA
  have e:(⟨b,o,none⟩:Addr).add p=⟨b,o+p,none⟩:=by unfold Addr.add;split<;>simp_all
  rw[e]at hA
  refine⟨b,o+p,hA.symm,hb,fun j hj=>?_⟩
  have:=hcc (j+p) (by omega)
  rw[show o+p+j=o+(j+p) by omega]
  exact this
 ·rw[h]at hA;split at hA<;>cases hA
theorem bytesL_ext{n:Nat}{f g:Nat→Nat}(h:∀j,j<n→f j=g j):bytesL n f=bytesL n g:=by
 unfold bytesL
 exact List.map_congr_left fun j hj=>by rw[h j (List.mem_range.1 hj)]
theorem run_oneB(w:World)(base:Nat)(A:Option Addr)(n c:Nat)(F:Nat→Nat)(hF:∀j,F j<256)(hown:w.ownsRow base 5 1 (.slice A n c) n (bytesL n F))(x:Nat)(hx:x=F n)(hn:n≤1000000000)(hbase:base≤w.heap.size):
  ∃A' c' w',(Builtin.append_ #[22,22] 22 #[.slice A n c,.slice (some ⟨w.heap.size,0,none⟩) 1 1]).run Tryz.prog (w.alloc (.cells #[.int .u8 (x:Int)] 5))=.ok (.slice A' (n+1) c') w'∧
   w'.ownsRow base 5 1 (.slice A' (n+1) c') (n+1) (bytesL (n+1) F)∧Below base w w':=by
 subst hx
 have hb1:Below base w (w.alloc (.cells #[.int .u8 (F n:Int)] 5)):=(Below.refl base w).alloc hbase _
 have hr:RdB (w.alloc (.cells #[.int .u8 (F n:Int)] 5)) (w.alloc (.cells #[.int .u8 (F n:Int)] 5)).heap.size (some ⟨w.heap.size,0,none⟩) 1 (fun _=>F n):=
  ⟨fun _=>hF n,fun _=>⟨w.heap.size,0,rfl,by simp,fun j hj=>by
   obtain rfl:j=0:=by omega
   rw[cell_of_row _ _ _ _ _ (0,0) (heap_alloc_new w _)];rfl⟩⟩
 obtain⟨A',c',w',h1,h2,h3⟩:=run_more (w.alloc (.cells #[.int .u8 (F n:Int)] 5)) base _ (.slice A n c) n F (hown.alloc _) (some ⟨w.heap.size,0,none⟩) 1 1 (fun _=>F n) hr (by omega) 22 (fun h=>by cases h) (Nat.le_trans hbase hb1.size)
 refine⟨A',c',w',h1,?_,hb1.trans h3⟩
 rw[←bytesL_ext (f:=cat F n (fun _=>F n)) (g:=F)]
 ·exact h2
 ·intro j hj
  unfold cat
  split
  ·rfl
  ·rw[show j=n by omega]
theorem make_cap8(n:Nat)(h:n≤1000000000):∀u:World,(Instr.makeSlice 22 (.int .i64 0) (.int .i64 (n:Int))).run Tryz.prog u=
   .ok (.slice (some ⟨u.heap.size,0,none⟩) 0 n) (u.alloc (.cells (madeCells #[.int .u8 0] n) 5)):=fun u=>by
 obtain⟨i0,hi,hz0,hz1,hz2⟩:=info_parts infoU8
 have h:=run_make (P:=Tryz.prog) u 22 5 i0 _ Tryz.underlying22 hi hz0 .i64 .i64 0 (n:Int) (by omega) (by omega) (by rw[hz2];omega) (by omega)
 rw[Int.toNat_natCast,hz1,Nat.mul_one]at h
 exact h
theorem own_madeB(u:World)(n:Nat)(h:n≤1000000000)(F:Nat→Nat):(u.alloc (.cells (madeCells #[.int .u8 0] n) 5)).ownsRow u.heap.size 5 1 (.slice (some ⟨u.heap.size,0,none⟩) 0 n) 0 (bytesL 0 F):=
 World.ownsRow_made u _ n (Nat.le_refl _) (by unfold maxLen;omega) (by simp[madeCells])
def sumU(n:Nat→Nat):Nat→Nat
 |0=>0
 |k+1=>sumU n k+n k
def catU(n:Nat→Nat)(f:Nat→Nat→Nat):Nat→Nat→Nat
 |0,_=>0
 |k+1,j=>cat (catU n f k) (sumU n k) (f k) j
theorem sumU_mono(n:Nat→Nat){a b:Nat}(h:a≤b):sumU n a≤sumU n b:=by
 induction h with
 |refl=>exact Nat.le_refl _
 |step _ ih=>exact Nat.le_trans ih (Nat.le_add_right _ _)
def RowsB(w:World)(B:Nat)(A:Option Addr)(k:Nat)(n:Nat→Nat)(f:Nat→Nat→Nat):Prop:=
 0<k→∃b o,A=some ⟨b,o,none⟩∧b<B∧∀i,i<k→∃Ai ci,w.cell? ⟨b,o+i,none⟩=some (.slice Ai (n i) ci)∧RdB w B Ai (n i) (f i)∧(Ai=none→ci=0)
theorem RowsB.below{w w':World}{B B' k:Nat}{A:Option Addr}{n:Nat→Nat}{f:Nat→Nat→Nat}(h:RowsB w B A k n f)(hb:Below B' w w')(hB:B≤B'):RowsB w' B A k n f:=fun hk=>by
 obtain⟨b,o,h1,h2,h3⟩:=h hk
 refine⟨b,o,h1,h2,fun i hi=>?_⟩
 obtain⟨Ai,ci,q1,q2,q3⟩:=h3 i hi
 exact⟨Ai,ci,by rw[hb.cell (p:=⟨b,o+i,none⟩) (by show b<B';omega)];exact q1,q2.below hb hB,q3⟩
end Go.Proofs.YtgokdgcmkcmjeaaGreat
namespace Go.Proofs.YtgokdgcmkcmjeaaGreat
open Go.RowKit Go.ChangeShapes Go.WideShapes Go.ChangeAt Go.Joins
def num0:Nat×Nat:=(0,0)
def numC(r:Nat×Nat):List Value:=[.int .u32 (r.1:Int),.int .i64 (r.2:Int)]
def numsL:List (Nat×Nat)→List Value
 |[]=>[]
 |r::l=>numC r++numsL l
theorem numsL_length:∀l,(numsL l).length=l.length*2
 |[]=>rfl
 |r::l=>by simp only[numsL,List.length_append,List.length_cons,numsL_length l];simp[numC];omega
theorem numsL_get:∀(l:List (Nat×Nat)) (j i:Nat),j<l.length→i<2→(numsL l)[j*2+i]?=(numC (l.getD j num0))[i]?
 |[],j,i,h,_=>absurd h (by simp)
 |r::l,0,i,_,hi=>by
  simp only[numsL,Nat.zero_mul,Nat.zero_add]
  rw[List.getElem?_append_left (by simpa[numC]using hi)]
  rfl
 |r::l,j+1,i,h,hi=>by
  simp only[numsL]
  rw[List.getElem?_append_right (by simp[numC];omega)]
  have e:(j+1)*2+i-(numC r).length=j*2+i:=by simp[numC];omega
  rw[e,numsL_get l j i (by simpa using h) hi]
  rfl
def RdN(w:World)(B:Nat)(A:Option Addr)(l:List (Nat×Nat)):Prop:=SrcL w B 2 A l.length (numsL l)
theorem RdN.at{w:World}{B:Nat}{A:Option Addr}{l:List (Nat×Nat)}(h:RdN w B A l){k:Nat}(hk:k<l.length):∃b o,A=some ⟨b,o,none⟩∧b<B∧∀j,j<l.length→
  w.cell? ⟨b,o+j*2,none⟩=some (.int .u32 ((l.getD j num0).1:Int))∧w.cell? ⟨b,o+j*2+1,none⟩=some (.int .i64 ((l.getD j num0).2:Int)):=by
 obtain⟨b,o,h1,h2,h3⟩:=h.2 (by omega)
 refine⟨b,o,h1,h2,fun j hj=>⟨?_,?_⟩⟩
 ·have:=h3 (j*2+0) _ ((numsL_get l j 0 hj (by omega)).trans rfl)
  simpa using this
 ·have:=h3 (j*2+1) _ ((numsL_get l j 1 hj (by omega)).trans rfl)
  rw[show o+j*2+1=o+(j*2+1) by omega];exact this
theorem RdN.range{w:World}{B:Nat}{A:Option Addr}{l:List (Nat×Nat)}(h:RdN w B A l){b o:Nat}(hA:A=some ⟨b,o,none⟩){j:Nat}(hj:j<l.length):w.rangeAt b (o+j*2) (numC (l.getD j num0)):=by
 obtain⟨b',o',h1,_,h3⟩:=h.at hj
 rw[hA]at h1
 injection h1 with h1
 injection h1 with hb ho _
 subst hb;subst ho
 obtain⟨c0,c1⟩:=h3 j hj
 intro i v hv
 rcases i with _|_|i
 ·simp[numC]at hv;subst hv;exact c0
 ·simp[numC]at hv;subst hv;exact c1
 ·simp[numC]at hv
theorem own_keepG{w w':World}{base:Nat}{e:TypeId}{sz:Nat}{v:Value}{n:Nat}{xs:List Value}(h:w.ownsRow base e sz v n xs)(hb:Below w.heap.size w w'):w'.ownsRow base e sz v n xs:=by
 obtain⟨h1,h2⟩:=h
 refine⟨h1,?_⟩
 rcases h2 with h2|⟨g,cap,cur,hv,hg,hh,r⟩
 ·exact .inl h2
 ·exact .inr ⟨g,cap,cur,hv,hg,(hb.block g (Array.getElem?_eq_some_iff.1 hh).1).trans hh,r⟩
end Go.Proofs.YtgokdgcmkcmjeaaGreat
namespace Go.Proofs.YtgokdgcmkcmjeaaGreat
open Go.RowKit
theorem step_call{ops:Array Oper}{o:Oper}{a:Act}{w:World}{K:Act→World→Prop}{Q:Exit→Act→World→Prop}{E:Prop}(hgd:o.guard=none)(f:FuncId)(xs:Array Operand)(ts:Array TypeId)
  (ho:o.op=.call {callee:=.value (.func f),args:=xs,argTypes:=ts}) (eg:∀args w,(callFunc f args).run Tryz.prog w=.ok (.enter f args) w) (args:Array Value) (hx:xs.map a.eval=args) {R:Ending→World→Prop} (hc:Calls Tryz.prog f args w R)
  (h:∀e w',R e w'→∃v,e=.returned v∧K (a.put o.dst v) w'):
  if Region.wanted o (yielded ops a.tmps)=true then Oper.wp Tryz.prog o a w K Q else E:=by
 have hw:Region.wanted o (yielded ops a.tmps)=true:=by simp[Region.wanted,hgd]
 rw[if_pos hw]
 unfold Oper.wp
 have hrun:(execOp a.eval o).run Tryz.prog w=.ok (.enter f args) w:=by
  simp[execOp,ho,resolve,invoke,hx,go_sem,eg,Deferred.ofValue]
 rw[hrun]
 refine hc.mono fun e w' hr=>?_
 obtain⟨v,rfl,hk⟩:=h e w' hr
 exact hk
theorem box_set2{w:World}{X:Nat}{x y p q:Value}(h0:w.cell? ⟨X,0,none⟩=some x)(h1:w.cell? ⟨X,1,none⟩=some y):
  ((w.setCell ⟨X,0,none⟩ p).setCell ⟨X,1,none⟩ q).cell? ⟨X,0,none⟩=some p∧((w.setCell ⟨X,0,none⟩ p).setCell ⟨X,1,none⟩ q).cell? ⟨X,1,none⟩=some q:=
 ⟨(World.cell?_setCell_other _ _ _ _ (by simp)).trans (World.cell?_setCell_same _ _ _ h0),World.cell?_setCell_same _ _ _ ((World.cell?_setCell_other _ _ _ _ (by simp)).trans h1)⟩
end Go.Proofs.YtgokdgcmkcmjeaaGreat
namespace Go.Proofs.YtgokdgcmkcmjeaaGreat
open Go.RowKit
theorem step_store_row{ops:Array Oper}{o:Oper}{a:Act}{w:World}{K:Act→World→Prop}{Q:Exit→Act→World→Prop}{E:Prop}(hgd:o.guard=none)(ty:TypeId)(x y:Operand)(ho:o.op=.store ty x y)(hdst:o.dst=none)
  (g:Nat) (cells:Array Value) (hx:a.eval x=.pointer (some ⟨g,0,none⟩)) (hy:a.eval y=.agg cells)
  (t:TypeId) (old:Array Value) (hg:w.heap[g]?=some (.cells old t (0,0))) (hi:(Tryz.prog.info? ty).map (·.size)=some cells.size) (hold:old.size=cells.size) (h1:cells.all (·.oneCell')=true) (h:K a (w.setRow g cells)):
  if Region.wanted o (yielded ops a.tmps)=true then Oper.wp Tryz.prog o a w K Q else E:=by
 rw[if_pos (by simp[Region.wanted,hgd])]
 unfold Oper.wp execOp
 have:=run_storeVar_row (P:=Tryz.prog) w g t ty old cells hg hi hold h1
 simp[ho,hx,hy,Instr.storeAt,Instr.sureAddr,this,Result.andThen]
 show K (a.put o.dst undef) (w.setRow g cells)
 rw[show a.put o.dst undef=a by rw[hdst];rfl]
 exact h
theorem results_tmp4{fn:Func}{t u v x:Tmp}(h:fn.results=#[.tmp t,.tmp u,.tmp v,.tmp x])(tmps:Array Value)(P:Program)(w:World):
  (results fn tmps).run P w=.ok (.tuple #[tmps.getD t undef,tmps.getD u undef,tmps.getD v undef,tmps.getD x undef]) w:=by
 simp[results,h,go_sem]
def tblL(T:Nat→Int)(n:Nat):List Value:=(List.range n).map fun i=>.int .i64 (T i)
def tblA(T:Nat→Int)(n:Nat):Array Value:=(tblL T n).toArray
theorem tblA_size(T:Nat→Int)(n:Nat):(tblA T n).size=n:=by simp[tblA,tblL]
theorem tblA_one(T:Nat→Int)(n:Nat):(tblA T n).all (·.oneCell')=true:=
 all_oneCell_toArray fun u hu=>by
  unfold tblL at hu
  obtain⟨i,_,rfl⟩:=List.mem_map.1 hu;rfl
theorem tblA_get(T:Nat→Int)(n i:Nat)(h:i<n):(tblA T n)[i]?=some (.int .i64 (T i)):=by simp[tblA,tblL,h]
theorem tbl_ext{T T':Nat→Int}{n:Nat}(h:∀i,i<n→T i=T' i):tblA T n=tblA T' n:=by
 unfold tblA tblL
 congr 1
 exact List.map_congr_left fun i hi=>by rw[h i (List.mem_range.1 hi)]
theorem tbl_set(T:Nat→Int)(n i:Nat)(x:Int):(tblA T n).setIfInBounds i (.int .i64 x)=tblA (fun k=>if k=i then x else T k) n:=by
 apply Array.ext_getElem?
 intro k
 rw[Array.getElem?_setIfInBounds,tblA_size]
 rcases Nat.lt_or_ge k n with h|h
 ·rw[tblA_get _ _ _ h]
  by_cases e:i=k
  ·subst e;rw[if_pos rfl,if_pos h,tblA_get _ _ _ h,if_pos rfl]
  ·rw[if_neg e,tblA_get _ _ _ h,if_neg (fun g:k=i=>e g.symm)]
 ·have h1:(tblA T n)[k]?=none:=Array.getElem?_eq_none (by rw[tblA_size];exact h)
  have h2:(tblA (fun k=>if k=i then x else T k) n)[k]?=none:=Array.getElem?_eq_none (by rw[tblA_size];exact h)
  rw[h1,h2]
  by_cases e:i=k
  ·subst e;rw[if_pos rfl,if_neg (by omega)]
  ·rw[if_neg e]
theorem tbl_cell{w:World}{g:Nat}{T:Nat→Int}{n:Nat}{t:TypeId}(hg:w.heap[g]?=some (.cells (tblA T n) t (0,0))){i:Nat}(h:i<n):w.cell? ⟨g,i,none⟩=some (.int .i64 (T i)):=
 (cell_of_row w g _ _ _ (0,0) hg).trans (tblA_get T n i h)
end Go.Proofs.YtgokdgcmkcmjeaaGreat
