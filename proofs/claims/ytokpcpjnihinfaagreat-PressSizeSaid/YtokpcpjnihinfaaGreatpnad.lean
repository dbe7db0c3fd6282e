/-
  Words and walks.
-/
import Derived.Deep.DeepCutAuto
import Derived.BigRegion
import Derived.BigQuiet
import Derived.Lib.SmallJoins
import Derived.Lib.Bytes
import Derived.RangeFuncFrom
import Derived.RangeFuncBox
import Derived.RangeFuncLeaves
import Derived.RangeFuncBound
import Derived.RangeFuncCalls
import Derived.Shelf.Abstract
import Derived.Shelf.RegionOpen
import Derived.OwnWalkIn
import Derived.TacticsInMore
import Derived.LoopNIn
import Derived.LoopIn
import Derived.Laws.Tables
import Derived.Sort.QuietIn
import Derived.Test.YtokpcpjnihinfaaGreatpnaa
import Derived.Test.YtokpcpjnihinfaaGreatpnab
import Derived.Test.YtokpcpjnihinfaaGreatpnac
set_option maxRecDepth 100000
set_option maxHeartbeats 16000000
namespace Go.Proofs.YtokpcpjnihinfaaGreat
open Go.RowKit
theorem tab_row{l:List Oper}{o:Oper}{a:Act}{w:World}{T:Value→World→Prop}{K:Act→World→Prop}{Q:Exit→Act→World→Prop}{E:Prop}(hw:Region.wanted o (yielded l.toArray a.tmps)=true)(ty:TypeId)(x:Operand)(ho:o.op=.load ty x)(b k:Nat)(hx:a.eval x=.pointer (some ⟨b,k,none⟩))(cs:List Value)(d:TypeDesc)
  (hS:w.rangeAt b k cs) (hu:Tryz.prog.underlying ty=some d) (hd:d.isRow=true) (hi:(Tryz.prog.info? ty).map (·.size)=some cs.length)
  (hT:Up T (.agg cs.toArray) w) (hK:∀v w',Below w.heap.size w w'→Up T v w'→K (a.put o.dst v) w'):if Region.wanted o (yielded l.toArray a.tmps)=true then Oper.wp Tryz.prog o a w K Q else E:=
 tab_val hw _ (by
  unfold execOp
  simp only[ho,hx,Instr.loadAt,Instr.sureAddr,Sem.run_bind,Sem.run_pure,Result.andThen_ok,run_loadVar_mid w b k ty cs d hS hu hd hi]) hT hK
theorem tab_load{l:List Oper}{o:Oper}{a:Act}{w:World}{T:Value→World→Prop}{K:Act→World→Prop}{Q:Exit→Act→World→Prop}{E:Prop}(hw:Region.wanted o (yielded l.toArray a.tmps)=true)(ty:TypeId)(x:Operand)(ho:o.op=.load ty x)(u v:Value)(hx:a.eval x=u)
  (hr:(Instr.loadAt ty u).run Tryz.prog w=.ok v w)
  (hT:Up T v w) (hK:∀v w',Below w.heap.size w w'→Up T v w'→K (a.put o.dst v) w'):if Region.wanted o (yielded l.toArray a.tmps)=true then Oper.wp Tryz.prog o a w K Q else E:=
 tab_val hw v (by unfold execOp;simp only[ho,hx,Sem.run_bind,hr,Result.andThen_ok];rfl) hT hK
theorem tab_field{l:List Oper}{o:Oper}{a:Act}{w:World}{T:Value→World→Prop}{K:Act→World→Prop}{Q:Exit→Act→World→Prop}{E:Prop}(hw:Region.wanted o (yielded l.toArray a.tmps)=true)(ty:TypeId)(x:Operand)(f:Nat)(ho:o.op=.fieldAddr ty x f)(u v:Value)(hx:a.eval x=u)
  (hr:(Instr.fieldAt ty u f).run Tryz.prog w=.ok v w)
  (hT:Up T v w) (hK:∀v w',Below w.heap.size w w'→Up T v w'→K (a.put o.dst v) w'):if Region.wanted o (yielded l.toArray a.tmps)=true then Oper.wp Tryz.prog o a w K Q else E:=
 tab_val hw v (by unfold execOp;simp only[ho,hx,Sem.run_bind,hr,Result.andThen_ok];rfl) hT hK
theorem eqg_no(P:Program)(b:BinOp)(t:TypeId)(x y:Operand)(u v:Value)(hb:b≠.eql)(hb2:b≠.neq)(w:World):(eqGuard b t x y u v).run P w=.ok () w:=by
 unfold eqGuard
 cases b<;>first|exact absurd rfl hb|exact absurd rfl hb2|simp[go_sem]
theorem tab_extract{P:Program}{l:List Oper}{o:Oper}{a:Act}{w:World}{T:Value→World→Prop}{K:Act→World→Prop}{Q:Exit→Act→World→Prop}{E:Prop}(hw:Region.wanted o (yielded l.toArray a.tmps)=true)(x:Operand)(i:Nat)(ho:o.op=.extract x i)(u v:Value)(hx:a.eval x=u)(hr:(Instr.extract u i).run P w=.ok v w)
  (hT:Up T v w) (hK:∀v w',Below w.heap.size w w'→Up T v w'→K (a.put o.dst v) w'):if Region.wanted o (yielded l.toArray a.tmps)=true then Oper.wp P o a w K Q else E:=
 tab_val hw v (by unfold execOp;simp only[ho,hx,Sem.run_bind,hr,Result.andThen_ok];rfl) hT hK
theorem tab_make{P:Program}{l:List Oper}{o:Oper}{a:Act}{w w':World}{T:Value→World→Prop}{K:Act→World→Prop}{Q:Exit→Act→World→Prop}{E:Prop}(hw:Region.wanted o (yielded l.toArray a.tmps)=true)(v:Value)
  (hr:(execOp a.eval o).run P w=.ok (.value v) w') (hb:Below w.heap.size w w') (hT:Up T v w') (hK:∀v w',Below w.heap.size w w'→Up T v w'→K (a.put o.dst v) w'):if Region.wanted o (yielded l.toArray a.tmps)=true then Oper.wp P o a w K Q else E:=by
 rw[if_pos hw]
 unfold Oper.wp
 rw[hr]
 exact hK v w' hb hT
theorem tab_app{P:Program}{l:List Oper}{o:Oper}{a:Act}{w w':World}{T:Value→World→Prop}{K:Act→World→Prop}{Q:Exit→Act→World→Prop}{E:Prop}(hw:Region.wanted o (yielded l.toArray a.tmps)=true)(x y:Operand)(t:TypeId)(ho:o.op=.call {callee:=.builtin .append,args:=#[x,y],argTypes:=#[t,t]})(u z v:Value)(hx:a.eval x=u)(hy:a.eval y=z)
  (hr:(Builtin.append_ #[t,t] o.type #[u,z]).run P w=.ok v w') (hb:Below w.heap.size w w') (hT:Up T v w') (hK:∀v w',Below w.heap.size w w'→Up T v w'→K (a.put o.dst v) w'):if Region.wanted o (yielded l.toArray a.tmps)=true then Oper.wp P o a w K Q else E:=
 tab_make hw v (by simp[execOp,ho,resolve,invoke,builtin,hx,hy,hr,Result.andThen]) hb hT hK
theorem rem_nat(P:Program)(t:TypeId)(k:IntKind)(x y:Nat)(hy:0<y)(w:World):(binOp .rem t (.int k (x:Int)) (.int k (y:Int))).run P w=.ok (.int k ((x%y:Nat):Int)) w:=by
 have h0:¬(y:Int)=0:=by omega
 have e:(x:Int).tmod (y:Int)=((x%y:Nat):Int):=by rw[Int.tmod_eq_emod_of_nonneg (by omega)];simp
 unfold binOp
 simp only[ne_eq,not_true_eq_false,if_false,Op.intDiv,if_neg h0,e]
 rfl
theorem tab_slice{P:Program}{l:List Oper}{o:Oper}{a:Act}{w:World}{T:Value→World→Prop}{K:Act→World→Prop}{Q:Exit→Act→World→Prop}{E:Prop}(hw:Region.wanted o (yielded l.toArray a.tmps)=true)(t:TypeId)(x:Operand)(lo hi mx:Option Operand)(ho:o.op=.slice t x lo hi mx)(u v:Value)(lo' hi' mx':Option Value)(hx:a.eval x=u)(h1:lo.map a.eval=lo')(h2:hi.map a.eval=hi')(h3:mx.map a.eval=mx')
  (hr:(Instr.sliceAt t u lo' hi' mx').run P w=.ok v w)
  (hT:Up T v w) (hK:∀v w',Below w.heap.size w w'→Up T v w'→K (a.put o.dst v) w'):if Region.wanted o (yielded l.toArray a.tmps)=true then Oper.wp P o a w K Q else E:=
 tab_val hw v (by unfold execOp;simp only[ho,hx,h1,h2,h3,Sem.run_bind,hr,Result.andThen_ok];rfl) hT hK
theorem tab_build{P:Program}{l:List Oper}{o:Oper}{a:Act}{w:World}{T:Value→World→Prop}{K:Act→World→Prop}{Q:Exit→Act→World→Prop}{E:Prop}(hw:Region.wanted o (yielded l.toArray a.tmps)=true)(t:TypeId)(parts:Array (Nat×Operand))(ho:o.op=.build t parts)(cells:Array Value)(hf:P.built t (parts.map fun(i,x)=>(i,a.eval x)).toList=some cells)
  (hT:Up T (.agg cells) w) (hK:∀v w',Below w.heap.size w w'→Up T v w'→K (a.put o.dst v) w'):if Region.wanted o (yielded l.toArray a.tmps)=true then Oper.wp P o a w K Q else E:=
 tab_val hw (.agg cells) (by unfold execOp;simp only[ho,Sem.run_bind,run_build w t _ cells hf,Result.andThen_ok];rfl) hT hK
theorem wrap_i64(q:Nat)(h:q≤9223372036854775807):IntKind.i64.wrap (q:Int)=(q:Int):=by
 show(let m:=(q:Int)%(2^64:Int);if(true&&decide (m≥(2^63:Int)))=true then m-(2^64:Int)else m)=_
 have h1:(2:Int)^64=18446744073709551616:=rfl
 have h2:(2:Int)^63=9223372036854775808:=rfl
 have e1:(q:Int)%(2^64:Int)=(q:Int):=Int.emod_eq_of_lt (by omega) (by omega)
 simp only[e1]
 rw[if_neg (by simp;omega)]
theorem run_from(A A2:Option Addr)(L c k:Nat)(hk:k≤L)(hA:(if c=k then A else A.map (·.add k))=A2)(w:World):(Instr.sliceAt 22 (.slice A L c) (some (.int .i64 (k:Int))) none none).run Tryz.prog w=.ok (.slice A2 (L-k) (c-k)) w:=by
 obtain⟨i0,hi,hz0,hz1,hz2⟩:=info_parts infoU8
 have hs:(sizeOf 5).run Tryz.prog w=.ok 1 w:=by simp[sizeOf,typeInfo,hi,hz1,go_sem]
 rw[run_sliceAt_slice (h:=Tryz.underlying22),run_slice_l (ht:=Tryz.underlying22) (h0:=by omega) (h1:=by omega)]
 have he:Tryz.prog.elem 22=5:=by kernel_rfl
 rw[he,hs]
 simp[sliced,←hA,Result.andThen]
theorem run_to(A:Option Addr)(L c k:Nat)(hk:k≤c)(w:World):(Instr.sliceAt 22 (.slice A L c) none (some (.int .i64 (k:Int))) none).run Tryz.prog w=.ok (.slice A k c) w:=by
 obtain⟨i0,hi,hz0,hz1,hz2⟩:=info_parts infoU8
 have hs:(sizeOf 5).run Tryz.prog w=.ok 1 w:=by simp[sizeOf,typeInfo,hi,hz1,go_sem]
 rw[run_sliceAt_slice (h:=Tryz.underlying22),run_slice_h (ht:=Tryz.underlying22) (h0:=by omega) (h2:=by omega)]
 have he:Tryz.prog.elem 22=5:=by kernel_rfl
 rw[he,hs]
 have h0:(if c=0 then A else A.map fun x=>x.add 0)=A:=by
  split
  ·rfl
  ·cases A with
   |none=>rfl
   |some a=>simp[Addr.add]
 simp[sliced,Result.andThen,h0]
end Go.Proofs.YtokpcpjnihinfaaGreat
namespace Go.Proofs.YtokpcpjnihinfaaGreat
open Go.RowKit Go.ChangeShapes Go.WideShapes Go.ChangeAt Go.Joins
theorem samN_go{f:Nat→Nat}{L a p k:Nat}(hk:k<258)(h:a+k<L)(he:f (p+k)=f (a+k)):samN f L a p (258-k) k=samN f L a p (258-(k+1)) (k+1):=by
 rw[show 258-k=(258-(k+1))+1 by omega,samN,if_pos ⟨h,he⟩]
theorem samN_stop{f:Nat→Nat}{L a p k:Nat}(h:258≤k∨L≤a+k∨f (p+k)≠f (a+k)):samN f L a p (258-k) k=k:=by
 rcases Nat.lt_or_ge k 258 with hk|hk
 ·rw[show 258-k=(258-(k+1))+1 by omega,samN,if_neg (by omega)]
 ·rw[show 258-k=0 by omega,samN]
def Drw(w u:World):Prop:=∃t,u=w.drewN t
theorem Drw.refl(w:World):Drw w w:=⟨0,rfl⟩
theorem Drw.more{w u:World}(h:Drw w u)(n:Nat):Drw w (u.drewN n):=by
 obtain⟨t,rfl⟩:=h
 exact⟨t+n,by rw[World.drewN_drewN]⟩
theorem Drw.rd{w u:World}(h:Drw w u){B n:Nat}{A:Option Addr}{f:Nat→Nat}(hr:RdB w B A n f):RdB u B A n f:=by
 obtain⟨t,rfl⟩:=h
 exact hr
theorem most_any(w:World)(A:Option Addr)(n c a:Nat)(ha:a≤n)(hn:n≤1000000):
  Calls Tryz.prog 177 #[.slice A n c,.int .i64 (a:Int)] w fun e w'=>e=.returned (.int .i64 ((min (n-a) 258:Nat):Int))∧w=w':=by
 obtain⟨d,rfl⟩:∃d,n=a+d:=⟨n-a,by omega⟩
 have e1:(((a+d:Nat):Int))-(a:Int)=(d:Int):=by omega
 have e2:a+d-a=d:=by omega
 rw[e2]
 go_enter Tryz.func177,Tryz.ntmps177
 go_wp2
 all_goals(go_ret;exact⟨ret_int (by omega),rfl⟩)
theorem same7_any(w:World)(B:Nat)(A:Option Addr)(n c:Nat)(f:Nat→Nat)(a p:Nat)(hr:RdB w B A n f)(hp:p<a)(ha:a≤n)(hn:n≤1000000):
  Calls Tryz.prog 176 #[.slice A n c,.int .i64 (a:Int),.int .i64 (p:Int)] w fun e w'=>e=.returned (.int .i64 ((matN f n a p:Nat):Int))∧Drw w w':=by
 have HR:=Lib.hid hr
 obtain⟨M,hM⟩:∃M,M=min (n-a) 258:=⟨_,rfl⟩
 have hmost:∀u,Calls Tryz.prog 177 #[.slice A n c,.int .i64 (a:Int)] u fun e w'=>e=.returned (.int .i64 (M:Int))∧u=w':=fun u=>by rw[hM];exact most_any u A n c a ha hn
 have HM:=Lib.hid hM;have HMO:=Lib.hid hmost
 clear hr hM hmost
 go_enter Tryz.func176,Tryz.ntmps176
 go_wp2
 go_loopw [7] (fun kv wr=>∃k:Nat,k≤M∧kv=.int .i64 (k:Int)∧Hid (samN f n a p (258-k) k=matN f n a p)∧Hid (Drw w wr)) (fun kv _=>M-(intOf kv).toNat)
 case atStart=>exact⟨0,Nat.zero_le _,rfl,Lib.hid rfl,Lib.hid (Drw.refl w)⟩
 case round=>
  obtain⟨k,hk,rfl,HK,HD⟩:=hrel
  by_cases hlt:k<M
  ·have hlti:(k:Int)<(M:Int):=by omega
   obtain⟨b,o,rfl,_,hc⟩:=(HD.out.rd HR.out).2 (by omega)
   have hMM:=HM.out
   have c1:=hc (p+k) (by omega)
   have c2:=hc (a+k) (by omega)
   have e1:(p:Int)+(k:Int)=((p+k:Nat):Int):=by omega
   have e2:(a:Int)+(k:Int)=((a+k:Nat):Int):=by omega
   obtain⟨P,hP⟩:∃P,P=p+k:=⟨_,rfl⟩
   obtain⟨Q,hQ⟩:∃Q,Q=a+k:=⟨_,rfl⟩
   have hPn:(P:Int)<(n:Int):=by omega
   have hQn:(Q:Int)<(n:Int):=by omega
   have hPn':P<n:=by omega
   have hQn':Q<n:=by omega
   have hP0:(0:Int)≤(P:Int):=by omega
   have hQ0:(0:Int)≤(Q:Int):=by omega
   rw[←hP]at c1 e1
   rw[←hQ]at c2 e2
   clear hc
   by_cases he:f P=f Q
   ·have hee:((f P:Int)==(f Q:Int))=true:=by simp[he]
    have hst:=samN_go (f:=f) (L:=n) (a:=a) (p:=p) (k:=k) (by omega) (by omega) (by rw[←hP,←hQ];exact he)
    have HST:=Lib.hid (hst.symm.trans HK.out)
    clear hst hMM hP hQ he
    go_wp2
    go_quiet ((go_at_call 177;exact Calls.quiet_of_same ((HMO.out _).mono fun _ _ ⟨a,b⟩=>⟨a,b.symm⟩)))
    go_wp2
    go_roundw
    case rel=>exact⟨k+1,by omega,by go_num,HST,Lib.hid (HD.out.more _)⟩
    case measure=>simp[intOf];omega
   ·have hee:((f P:Int)==(f Q:Int))=false:=by simp;omega
    have hst:=samN_stop (f:=f) (L:=n) (a:=a) (p:=p) (k:=k) (.inr (.inr (by rw[←hP,←hQ];exact he)))
    have HST:=Lib.hid (hst.symm.trans HK.out)
    clear hst hMM hP hQ he
    go_wp2
    go_quiet ((go_at_call 177;exact Calls.quiet_of_same ((HMO.out _).mono fun _ _ ⟨a,b⟩=>⟨a,b.symm⟩)))
    go_wp2
    go_ret
    exact⟨(by rw[←HST.out];rfl),HD.out.more _⟩
  ·obtain rfl:k=M:=by omega
   have hlti:decide ((k:Int)<(k:Int))=false:=by simp
   have hlti2:¬(k:Int)<(k:Int):=by simp
   have hMM:=HM.out
   have hst:=samN_stop (f:=f) (L:=n) (a:=a) (p:=p) (k:=k) (by omega)
   have HST:=Lib.hid (hst.symm.trans HK.out)
   clear hst hMM
   go_wp2
   go_quiet ((go_at_call 177;exact Calls.quiet_of_same ((HMO.out _).mono fun _ _ ⟨a,b⟩=>⟨a,b.symm⟩)))
   go_wp2
   go_ret
   exact⟨(by rw[←HST.out];rfl),HD.out.more _⟩
end Go.Proofs.YtokpcpjnihinfaaGreat
namespace Go.Proofs.YtokpcpjnihinfaaGreat
open Go.RowKit Go.ChangeShapes Go.WideShapes Go.ChangeAt Go.Joins
theorem strB_same{n:Nat}{f g:Nat→Nat}(h:∀j,j<n→f j=g j):strB n f=strB n g:=by
 unfold strB
 rw[List.map_congr_left fun j hj=>by rw[h j (List.mem_range.1 hj)]]
theorem strB_inj{n:Nat}{f g:Nat→Nat}(hf:∀j,f j<256)(hg:∀j,g j<256)(h:strB n f=strB n g):∀j,j<n→f j=g j:=by
 intro j hj
 have h2:=congrArg (fun b:ByteArray=>b.data.toList[j]?) h
 simp[strB,strOfNums,hj]at h2
 have h3:=congrArg UInt8.toNat h2
 simp at h3
 have:=hf j;have:=hg j
 omega
def lstI(f:Nat→Nat)(x:Nat):Nat→Int
 |0=> -1
 |n+1=>if f n=x then(n:Int)else lstI f x n
theorem lstI_spec(f:Nat→Nat)(x:Nat):∀n,(lstI f x n= -1∧∀j,j<n→f j≠x)∨(∃m:Nat,lstI f x n=(m:Int)∧m<n∧f m=x∧∀j:Nat,m<j→j<n→f j≠x)
 |0=>.inl ⟨rfl,fun j h=>by omega⟩
 |n+1=>by
  by_cases h:f n=x
  ·right
   refine⟨n,?_,by omega,h,fun j h1 h2=>by omega⟩
   simp only[lstI];rw[if_pos h]
  ·have e:lstI f x (n+1)=lstI f x n:=by simp only[lstI];rw[if_neg h]
   rw[e]
   rcases lstI_spec f x n with⟨h1,h2⟩|⟨m,h1,h2,h3,h4⟩
   ·left
    refine⟨h1,fun j hj=>?_⟩
    rcases Nat.lt_or_ge j n with q|q
    ·exact h2 j q
    ·rw[show j=n by omega];exact h
   ·right
    refine⟨m,h1,by omega,h3,fun j hj hj2=>?_⟩
    rcases Nat.lt_or_ge j n with q|q
    ·exact h4 j hj q
    ·rw[show j=n by omega];exact h
theorem lastix_any(w:World)(B:Nat)(A:Option Addr)(n c:Nat)(f:Nat→Nat)(x:Nat)(hr:RdB w B A n f)(hn:n≤1000000):
  Calls Tryz.prog 188 #[.slice A n c,.int .u8 (x:Int)] w fun e w'=>e=.returned (.int .i64 (lstI f x n))∧w'=w:=by
 have HR:=Lib.hid hr
 clear hr
 go_enter Tryz.func188,Tryz.ntmps188
 go_wp2
 go_loopw [5] (fun kv wr=>∃m:Nat,m≤n∧kv=.int .i64 ((m:Int)-1)∧Hid (lstI f x n=lstI f x m)∧wr=w) (fun kv _=>(intOf kv+1).toNat)
 case atStart=>exact⟨n,Nat.le_refl _,by go_num,Lib.hid rfl,rfl⟩
 case round=>
  obtain⟨m,hm,rfl,HK,rfl⟩:=hrel
  rcases Nat.eq_zero_or_pos m with h0|h0
  ·subst h0
   have HST:=Lib.hid (HK.out.trans (show lstI f x 0= -1 from rfl))
   go_wp2
   go_ret
   exact⟨(by rw[HST.out];rfl),rfl⟩
  ·obtain⟨k,rfl⟩:∃k,m=k+1:=⟨m-1,by omega⟩
   obtain⟨b,o,rfl,_,hc⟩:=HR.out.2 (by omega)
   have c1:=hc k (by omega)
   have e1:((k+1:Nat):Int)-1=(k:Int):=by omega
   have hk0:(0:Int)≤(k:Int):=by omega
   have hkn:(k:Int)<(n:Int):=by omega
   rw[e1]
   clear hc e1
   by_cases he:f k=x
   ·have hee:((f k:Int)==(x:Int))=true:=by simp[he]
    have hst:lstI f x (k+1)=(k:Int):=by simp only[lstI];rw[if_pos he]
    have HST:=Lib.hid (HK.out.trans hst)
    clear hst he
    go_wp2
    go_ret
    exact⟨(by rw[HST.out];rfl),rfl⟩
   ·have hee:((f k:Int)==(x:Int))=false:=by simp;omega
    have hst:lstI f x (k+1)=lstI f x k:=by simp only[lstI];rw[if_neg he]
    have HST:=Lib.hid (HK.out.trans hst)
    clear hst he
    go_wp2
    go_roundw
    case rel=>exact⟨k,by omega,rfl,HST,trivial⟩
    case measure=>simp[intOf]
theorem lastb_any(w:World)(B:Nat)(A:Option Addr)(n c:Nat)(f:Nat→Nat)(x:Nat)(hr:RdB w B A n f)(hn:n≤1000000):
  Calls Tryz.prog 184 #[.slice A n c,.int .u8 (x:Int)] w fun e w'=>e=.returned (.int .i64 (lstI f x n))∧w'=w:=by
 have HL:=Lib.hid (lastix_any w B A n c f x hr hn)
 clear hr
 go_enter Tryz.func184,Tryz.ntmps184
 go_wp2_with fail
 refine HL.out.mono ?_
 rintro e w' ⟨rfl,rfl⟩
 go_wp2
 go_ret
 exact⟨rfl,rfl⟩
theorem equalb_any(w:World)(B:Nat)(A A2:Option Addr)(n c m c2:Nat)(f g:Nat→Nat)(hr:RdB w B A n f)(hr2:RdB w B A2 m g):
  Calls Tryz.prog 43 #[.slice A n c,.slice A2 m c2] w fun e w'=>e=.returned (.bool ((strB n f).toList==(strB m g).toList))∧w'=w:=by
 have s1:=run_str hr c
 have s2:=run_str hr2 c2
 go_enter Tryz.func43,Tryz.ntmps43
 go_wp2
 go_ret
 exact⟨rfl,rfl⟩
theorem strL_yes{n:Nat}{f g:Nat→Nat}(h:∀j,j<n→f j=g j):((strB n f).toList==(strB n g).toList)=true:=by rw[strB_same h];simp
theorem strL_no{n:Nat}{f g:Nat→Nat}(hf:∀j,f j<256)(hg:∀j,g j<256)(h:¬∀j,j<n→f j=g j):((strB n f).toList==(strB n g).toList)=false:=by
 rw[Bool.eq_false_iff]
 intro hh
 refine h (strB_inj hf hg ?_)
 have h2:=eq_of_beq hh
 unfold strB at h2⊢
 rw[Lib.strOfNums_toList,Lib.strOfNums_toList]at h2
 apply ByteArray.ext
 apply Array.toList_inj.1
 rw[strOfNums_data,strOfNums_data]
 exact h2
theorem hasp_any(w:World)(B:Nat)(A A2:Option Addr)(n c m c2:Nat)(f g:Nat→Nat)(hr:RdB w B A n f)(hr2:RdB w B A2 m g)(hnm:m≤n)(hnc:n≤c):
  Calls Tryz.prog 185 #[.slice A n c,.slice A2 m c2] w fun e w'=>e=.returned (.bool ((strB m f).toList==(strB m g).toList))∧w'=w:=by
 have hrm:RdB w B A m f:=⟨hr.1,fun h=>by
  obtain⟨b,o,h1,h2,h3⟩:=hr.2 (by omega)
  exact⟨b,o,h1,h2,fun j hj=>h3 j (by omega)⟩⟩
 have HL:=Lib.hid (fun(c:Nat)=>equalb_any w B A A2 m c m c2 f g hrm hr2)
 have hd:decide ((m:Int)≤(n:Int))=true:=by simp;omega
 have hd2:decide (m≤n)=true:=by simp;omega
 have hi:(m:Int)≤(c:Int):=by omega
 clear hr hr2 hrm
 go_enter Tryz.func185,Tryz.ntmps185
 go_wp2_with fail
 refine(HL.out _).mono ?_
 rintro e w' ⟨rfl,rfl⟩
 go_wp2
 go_ret
 exact⟨rfl,rfl⟩
end Go.Proofs.YtokpcpjnihinfaaGreat
namespace Go.Proofs.YtokpcpjnihinfaaGreat
open Go.RowKit
def SeqTied(F:Fence)(n:Nat)(P:Program)(g:Nat)(lb:Array Value)(encs:Nat→Array Value)(Kp:World→World→Prop)(L:Nat)(w:World):Prop:=
 ∀(l:Nat) (J:Nat→World→Prop) (W:World),Below w.heap.size w W→
  (∀j W1,J j W1→j<L→YieldAt F (n-1) P l (encs j) W1 fun e W'=>e=.returned (.bool true)∧J (j+1) W'∧Kp W1 W')→
  J 0 W→CallsIn F n P g (#[.func (.yield l) #[] #[]]++lb) W fun e W'=>(∃v,e=.returned v)∧J L W'
theorem wpIn_range_tied{F:Fence}{n:Nat}{P:Program}{g:Operand}{ps:Array Tmp}{assign body:Code}{Q:Exit→Act→World→Prop}{a:Act}{w:World}
  (hro:F.round=none) (h1:1≤n) {gf:Nat} {lb:Array Value} (hg:a.eval g=.func (.func gf) #[] lb) (hFg:F.fn gf) (eg:∀args w,(callFunc gf args).run P w=.ok (.enter gf args) w)
  {encs:Nat→Array Value} {Kp:World→World→Prop} {L:Nat} (hseq:SeqTied F (n-1) P gf lb encs Kp L w)
  (hKt:∀{A B C:World},Kp A B→Kp B C→Kp A C) (hKb:∀(W:World) (l:Nat) (o o':Obj),w.heap.size≤l→W.heap[l]?=some o→o.isCells=false→o.isWalk=false→Kp W (W.putObj l o')) (hps:∀j,(encs j).size=ps.size)
  (I:Nat→World→Prop) (hI:OwnFrom w.heap.size I) (h0:I 0 w) (a₁:Nat→Act)
  (hassign:∀(l j:Nat) (W:World) (K:Act→World→Prop),K (a₁ j) W→
   assign.wpIn (F.inRound l) (n-1-1) P (Exit.then K (fun _ _ _=>False)) {tmps:=(ps.zip (encs j)).foldl (fun t (p,v)=>t.setIfInBounds p v) a.tmps,defers:=[]} W)
  (hbody:∀(l j:Nat) (W:World),I j W→j<L→body.wpIn (F.inRound l) (n-1-1) P (fun e _ W'=>e=.normal∧KeepsOthers W W'∧Kp W W'∧I (j+1) W') (a₁ j) W)
  (hdone:∀(D:Nat) (W:World),w.heap.size≤D→I L W→W.heap[D]?=some (.deferred (some []))→Q .normal {a with defers:={target:=.collected D,args:=#[]}::a.defers} W):
  (Code.rangeFunc g ps assign body).wpIn F n P Q a w:=by
 refine wpIn_rangeFunc fun fn hfn=>?_
 rw[hro]
 obtain⟨rec,hrec⟩:∃rec:LoopState→Loop,rec=fun st=>{state:=st,pending:=none,fn,tmps:=a.tmps,params:=ps,assign,body,defers:=w.heap.size}:=⟨_,rfl⟩
 obtain⟨D,hD⟩:∃D,D=w.heap.size:=⟨_,rfl⟩
 obtain⟨W1,hW1⟩:∃W1,W1=(w.alloc (.deferred (some []))).alloc (.loop (rec .ready)):=⟨_,rfl⟩
 have hL1:W1.heap[D+1]?=some (.loop (rec .ready)):=by
  rw[hW1,hD];have h:=World.alloc_heap_new (w.alloc (.deferred (some []))) (.loop (rec .ready));rwa[World.size_alloc]at h
 have hK1:W1.heap[D]?=some (.deferred (some [])):=by
  rw[hW1,hD];exact(Below.heap_alloc _ _ _ (by simp)).trans (World.alloc_heap_new w _)
 have hI1:I 0 W1:=by rw[hW1];exact hI.alloc _ (hI.alloc _ h0)
 have hb1:Below w.heap.size w W1:=by
  rw[hW1];exact((Below.refl _ w).alloc (Nat.le_refl _) _).alloc (by simp) _
 refine⟨D+1,[{target:=.collected D,args:=#[]}],W1,{target:=.fn (.func gf) lb,args:=#[.func (.yield (D+1)) #[] #[]]},W1,gf,#[.func (.yield (D+1)) #[] #[]]++lb,W1,?_,?_,?_,?_,fun _=>h1,?_⟩
 ·rw[hW1,hrec,hD];exact run_enterLoop_outer _ _ _ _ _
 ·simp only[resolve,hg]
  simp[go_sem]
 ·intro f' hf';simp[Target.leads]at hf';subst hf';exact hFg
 ·simp[invoke,go_sem,eg]
 ·refine(hseq (D+1) (fun j W=>I j W∧W.heap[D+1]?=some (.loop (rec .ready))∧W.heap[D]?=some (.deferred (some []))) W1 hb1 ?_ ⟨hI1,hL1,hK1⟩).mono ?_
  ·rintro j W ⟨hi,hl,hk⟩ hj
   have hlt:D+1<W.heap.size:=(Array.getElem?_eq_some_iff.1 hl).1
   have hy:=run_yield (P:=P) (args:=encs j) hl (by rw[hrec];exact hps j)
   rw[hrec]at hy
   refine⟨fn,_,assign,body,hy,roundIn_of_wpIn hfn (hassign _ j W _ ⟨_,run_beginRound hl (by rw[hrec]),?_⟩)⟩
   have hl2:(W.putObj (D+1) (.loop {rec .ready with state:=.busy})).heap[D+1]?=some (.loop {rec .ready with state:=.busy}):=World.putObj_heap_same hlt
   have hk2:(W.putObj (D+1) (.loop {rec .ready with state:=.busy})).heap[D]?=some (.deferred (some [])):=(World.putObj_heap_other (by omega)).trans hk
   have hp2:Kp W (W.putObj (D+1) (.loop {rec .ready with state:=.busy})):=hKb W _ _ _ (by omega) hl rfl rfl
   refine wpIn_mono (hbody _ j _ (hI.putObj _ hi (by omega) hl rfl) hj) ?_
   rintro e a3 W3 ⟨rfl,hk3,hp3,hi3⟩
   have hl3:=hk3.same _ _ hl2 rfl
   have hr:=run_endRound (P:=P) none hl3
   rw[hrec]at hr hl3
   refine⟨_,_,hr,rfl,⟨hI.putObj _ hi3 (by omega) hl3 rfl,?_,(World.putObj_heap_other (by omega)).trans (hk3.same _ _ hk2 rfl)⟩,hKt (hKt hp2 hp3) (hKb W3 _ _ _ (by omega) hl3 rfl rfl)⟩
   rw[World.putObj_heap_same (Array.getElem?_eq_some_iff.1 hl3).1,hrec];rfl
  ·rintro e W2 ⟨⟨v,rfl⟩,hi,hl,hk⟩
   refine⟨none,_,by have h:=run_endLoop (P:=P) hl (by rw[hrec];simp);rw[hrec]at h;exact h,?_⟩
   exact hdone D _ (by omega) (hI.putObj _ hi (by omega) hl rfl) ((World.putObj_heap_other (by omega)).trans hk)
end Go.Proofs.YtokpcpjnihinfaaGreat
namespace Go.Proofs.YtokpcpjnihinfaaGreat
open Go.RowKit
def SeqSome(F:Fence)(n:Nat)(P:Program)(g:Nat)(lb:Array Value)(encs:Nat→Array Value)(ok:Nat→Prop)(Kp:World→World→Prop)(L:Nat)(w:World):Prop:=
 ∀(l:Nat) (J Jx:Nat→World→Prop) (W:World),Below w.heap.size w W→
  (∀j W1,J j W1→j<L→¬ok j→J (j+1) W1)→
  (∀j W1,J j W1→j<L→ok j→YieldAt F (n-1) P l (encs j) W1 fun e W'=>(e=.returned (.bool true)∧J (j+1) W'∧Kp W1 W')∨(e=.returned (.bool false)∧Jx j W'))→
  (∀W1 W2 j,J j W1→(∃t,W2=W1.drewN t)→J j W2)→
  (∀W1 W2 j,Jx j W1→(∃t,W2=W1.drewN t)→Jx j W2)→
  J 0 W→CallsIn F n P g (#[.func (.yield l) #[] #[]]++lb) W fun e W'=>(∃v,e=.returned v)∧(J L W'∨∃j,j<L∧Jx j W')
theorem wpIn_range_some{F:Fence}{n:Nat}{P:Program}{g:Operand}{ps:Array Tmp}{assign body:Code}{Q:Exit→Act→World→Prop}{a:Act}{w:World}
  (hro:F.round=none) (h1:1≤n) {gf:Nat} {lb:Array Value} (hg:a.eval g=.func (.func gf) #[] lb) (hFg:F.fn gf) (eg:∀args w,(callFunc gf args).run P w=.ok (.enter gf args) w)
  {encs:Nat→Array Value} {ok:Nat→Prop} {Kp:World→World→Prop} {L:Nat} (hseq:SeqSome F (n-1) P gf lb encs ok Kp L w)
  (hKt:∀{A B C:World},Kp A B→Kp B C→Kp A C) (hKb:∀(W:World) (l:Nat) (o o':Obj),w.heap.size≤l→W.heap[l]?=some o→o.isCells=false→o.isWalk=false→Kp W (W.putObj l o')) (hps:∀j,(encs j).size=ps.size)
  (je:Exit) (jc:Code) (hje:(je=.ret∧jc=.ret)∨∃id,je=.exit id∧jc=.exit id)
  (I Ix:Nat→World→Prop) (hI:OwnFrom w.heap.size I) (hIx:OwnFrom w.heap.size Ix) (h0:I 0 w) (a₁:Nat→Act)
  (hskip:∀(j:Nat) (W:World),I j W→j<L→¬ok j→I (j+1) W)
  (hassign:∀(l j:Nat) (W:World) (K:Act→World→Prop),K (a₁ j) W→
   assign.wpIn (F.inRound l) (n-1-1) P (Exit.then K (fun _ _ _=>False)) {tmps:=(ps.zip (encs j)).foldl (fun t (p,v)=>t.setIfInBounds p v) a.tmps,defers:=[]} W)
  (hbody:∀(l j:Nat) (W:World),I j W→j<L→ok j→body.wpIn (F.inRound l) (n-1-1) P (fun e _ W'=>KeepsOthers W W'∧((e=.normal∧Kp W W'∧I (j+1) W')∨(e=je∧Ix j W'))) (a₁ j) W)
  (hdone:∀(D:Nat) (W:World),w.heap.size≤D→I L W→W.heap[D]?=some (.deferred (some []))→Q .normal {a with defers:={target:=.collected D,args:=#[]}::a.defers} W)
  (hstop:∀(D j:Nat) (W:World),w.heap.size≤D→j<L→Ix j W→W.heap[D]?=some (.deferred (some []))→jc.wpIn F n P Q {a with defers:={target:=.collected D,args:=#[]}::a.defers} W):
  (Code.rangeFunc g ps assign body).wpIn F n P Q a w:=by
 refine wpIn_rangeFunc fun fn hfn=>?_
 rw[hro]
 obtain⟨rec,hrec⟩:∃rec:LoopState→Option Code→Loop,rec=fun st pe=>{state:=st,pending:=pe,fn,tmps:=a.tmps,params:=ps,assign,body,defers:=w.heap.size}:=⟨_,rfl⟩
 obtain⟨D,hD⟩:∃D,D=w.heap.size:=⟨_,rfl⟩
 obtain⟨W1,hW1⟩:∃W1,W1=(w.alloc (.deferred (some []))).alloc (.loop (rec .ready none)):=⟨_,rfl⟩
 have hL1:W1.heap[D+1]?=some (.loop (rec .ready none)):=by
  rw[hW1,hD];have h:=World.alloc_heap_new (w.alloc (.deferred (some []))) (.loop (rec .ready none));rwa[World.size_alloc]at h
 have hK1:W1.heap[D]?=some (.deferred (some [])):=by
  rw[hW1,hD];exact(Below.heap_alloc _ _ _ (by simp)).trans (World.alloc_heap_new w _)
 have hI1:I 0 W1:=by rw[hW1];exact hI.alloc _ (hI.alloc _ h0)
 have hb1:Below w.heap.size w W1:=by
  rw[hW1];exact((Below.refl _ w).alloc (Nat.le_refl _) _).alloc (by simp) _
 have hdr:∀(W:World) (t:Nat),W.grownBy (W.drewN t) none:=fun W t=>⟨rfl,rfl,rfl,Nat.le_refl _,fun _ _ _=>rfl⟩
 refine⟨D+1,[{target:=.collected D,args:=#[]}],W1,{target:=.fn (.func gf) lb,args:=#[.func (.yield (D+1)) #[] #[]]},W1,gf,#[.func (.yield (D+1)) #[] #[]]++lb,W1,?_,?_,?_,?_,fun _=>h1,?_⟩
 ·rw[hW1,hrec,hD];exact run_enterLoop_outer _ _ _ _ _
 ·simp only[resolve,hg]
  simp[go_sem]
 ·intro f' hf';simp[Target.leads]at hf';subst hf';exact hFg
 ·simp[invoke,go_sem,eg]
 ·refine(hseq (D+1) (fun j W=>I j W∧W.heap[D+1]?=some (.loop (rec .ready none))∧W.heap[D]?=some (.deferred (some [])))
   (fun j W=>Ix j W∧W.heap[D+1]?=some (.loop (rec .done (some jc)))∧W.heap[D]?=some (.deferred (some []))) W1 hb1 ?_ ?_ ?_ ?_ ⟨hI1,hL1,hK1⟩).mono ?_
  ·rintro j W ⟨hi,hl,hk⟩ hj hno
   exact⟨hskip j W hi hj hno,hl,hk⟩
  ·rintro j W ⟨hi,hl,hk⟩ hj hok
   have hlt:D+1<W.heap.size:=(Array.getElem?_eq_some_iff.1 hl).1
   have hy:=run_yield (P:=P) (args:=encs j) hl (by rw[hrec];exact hps j)
   rw[hrec]at hy
   refine⟨fn,_,assign,body,hy,roundIn_of_wpIn hfn (hassign _ j W _ ⟨_,run_beginRound hl (by rw[hrec]),?_⟩)⟩
   have hl2:(W.putObj (D+1) (.loop {rec .ready none with state:=.busy})).heap[D+1]?=some (.loop {rec .ready none with state:=.busy}):=World.putObj_heap_same hlt
   have hk2:(W.putObj (D+1) (.loop {rec .ready none with state:=.busy})).heap[D]?=some (.deferred (some [])):=(World.putObj_heap_other (by omega)).trans hk
   have hp2:Kp W (W.putObj (D+1) (.loop {rec .ready none with state:=.busy})):=hKb W _ _ _ (by omega) hl rfl rfl
   refine wpIn_mono (hbody _ j _ (hI.putObj _ hi (by omega) hl rfl) hj hok) ?_
   have fin:∀(jump:Option Code) (W3:World),KeepsOthers (W.putObj (D+1) (.loop {rec .ready none with state:=.busy})) W3→
     (Instr.endRound (D+1) jump).run P W3=.ok (.bool jump.isNone) (W3.putObj (D+1) (.loop (rec (if jump.isNone then .ready else .done) jump)))∧
     W3.heap[D+1]?=some (.loop {rec .ready none with state:=.busy})∧
     (W3.putObj (D+1) (.loop (rec (if jump.isNone then .ready else .done) jump))).heap[D+1]?=some (.loop (rec (if jump.isNone then .ready else .done) jump))∧
     (W3.putObj (D+1) (.loop (rec (if jump.isNone then .ready else .done) jump))).heap[D]?=some (.deferred (some [])):=fun jump W3 hk3=>by
    have hl3:=hk3.same _ _ hl2 rfl
    have:=run_endRound (P:=P) jump hl3
    rw[hrec]at this⊢
    exact⟨this,by rw[hrec]at hl3;exact hl3,World.putObj_heap_same (Array.getElem?_eq_some_iff.1 hl3).1,(World.putObj_heap_other (by omega)).trans (hk3.same _ _ hk2 rfl)⟩
   rintro e a3 W3 ⟨hk3,h⟩
   rcases h with⟨rfl,hp3,hi3⟩|⟨rfl,hi3⟩
   ·obtain⟨hr,hl3,hl4,hk4⟩:=fin none W3 hk3
    exact⟨_,_,hr,.inl ⟨rfl,⟨hI.putObj _ hi3 (by omega) hl3 rfl,hl4,hk4⟩,hKt (hKt hp2 hp3) (hKb W3 _ _ _ (by omega) hl3 rfl rfl)⟩⟩
   ·obtain⟨hr,hl3,hl4,hk4⟩:=fin (some jc) W3 hk3
    rcases hje with⟨rfl,rfl⟩|⟨id,rfl,rfl⟩
    ·exact⟨_,_,hr,.inr ⟨rfl,hIx.putObj _ hi3 (by omega) hl3 rfl,hl4,hk4⟩⟩
    ·exact⟨_,_,hr,.inr ⟨rfl,hIx.putObj _ hi3 (by omega) hl3 rfl,hl4,hk4⟩⟩
  ·rintro A B j ⟨hi,hl,hk⟩ ⟨t,rfl⟩
   exact⟨hI _ _ _ none hi (hdr A t) (fun r e=>by cases e),hl,hk⟩
  ·rintro A B j ⟨hi,hl,hk⟩ ⟨t,rfl⟩
   exact⟨hIx _ _ _ none hi (hdr A t) (fun r e=>by cases e),hl,hk⟩
  ·rintro e W2 ⟨⟨v,rfl⟩,⟨hi,hl,hk⟩|⟨j,hj,hi,hl,hk⟩⟩
   ·refine⟨none,_,by have h:=run_endLoop (P:=P) hl (by rw[hrec];simp);rw[hrec]at h;exact h,?_⟩
    exact hdone D _ (by omega) (hI.putObj _ hi (by omega) hl rfl) ((World.putObj_heap_other (by omega)).trans hk)
   ·refine⟨some jc,_,by have h:=run_endLoop (P:=P) hl (by rw[hrec];simp);rw[hrec]at h;exact h,?_⟩
    exact hstop D j _ (by omega) hj (hIx.putObj _ hi (by omega) hl rfl) ((World.putObj_heap_other (by omega)).trans hk)
end Go.Proofs.YtokpcpjnihinfaaGreat
namespace Go.Proofs.YtokpcpjnihinfaaGreat
open Go.RowKit
def KpB(S:Nat→Prop)(W W':World):Prop:=∀k,S k→W'.heap[k]?=W.heap[k]?
theorem KpB.refl(S:Nat→Prop)(W:World):KpB S W W:=fun _ _=>rfl
theorem KpB.tr{S:Nat→Prop}{A B C:World}(h:KpB S A B)(k:KpB S B C):KpB S A C:=fun i hi=>(k i hi).trans (h i hi)
theorem KpB.cell{S:Nat→Prop}{W W':World}(h:KpB S W W'){p:Addr}(hp:S p.block):W'.cell? p=W.cell? p:=by
 simp only[World.cell?,h _ hp]
theorem RdB.kept{S:Nat→Prop}{w w':World}{B n:Nat}{A:Option Addr}{f:Nat→Nat}(h:RdB w B A n f)(hk:KpB S w w')(hS:∀k,k<B→S k):RdB w' B A n f:=by
 refine⟨h.1,fun hn=>?_⟩
 obtain⟨b,o,rfl,hlt,hc⟩:=h.2 hn
 exact⟨b,o,rfl,hlt,fun j hj=>by rw[hk.cell (p:=⟨b,o+j,none⟩) (hS b hlt)];exact hc j hj⟩
end Go.Proofs.YtokpcpjnihinfaaGreat
namespace Go.Proofs.YtokpcpjnihinfaaGreat
open Go.RowKit
theorem wpListIn_append_run{F:Fence}{n:Nat}{P:Program}{w:World}{ops:Array Oper}{rest:List Oper}{o:Oper}{a:Act}{Q:Exit→Act→World→Prop}(hg:o.guard=none)(s x:Operand)(t:TypeId)
  (hop:o.op=.call {callee:=.builtin .append,args:=#[s,x],argTypes:=#[t,t]}) (v u v':Value) (w':World) (hs:a.eval s=v) (hx:a.eval x=u)
  (hrun:(Builtin.append_ #[t,t] o.type #[v,u]).run P w=.ok v' w') (h:wpListIn F n P ops Q rest (a.put o.dst v') w'):wpListIn F n P ops Q (o::rest) a w:=by
 refine wpListIn_plain hg fun K hK'=>?_
 unfold Oper.wpIn
 refine⟨?_,?_⟩
 ·simp[Oper.about,hop,resolve,Target.leads,Sem.run_pure]
 ·rw[Oper.semAt_plain F _ _ (by rw[hop];intro c hc';cases hc')]
  simp[execOp,hop,resolve,invoke,builtin,hs,hx,hrun,Result.andThen]
  exact hK' _ _ h
theorem wpListIn_load_row{F:Fence}{n:Nat}{P:Program}{ops:Array Oper}{rest:List Oper}{o:Oper}{a:Act}{w:World}{Q:Exit→Act→World→Prop}(hgd:o.guard=none)(ty:TypeId)(x:Operand)(ho:o.op=.load ty x)
  (g:Nat) (hx:a.eval x=.pointer (some ⟨g,0,none⟩)) (t:TypeId) (cs:Array Value) (fr:Nat×Nat) (d:TypeDesc) (hg:w.heap[g]?=some (.cells cs t fr))
  (hu:P.underlying ty=some d) (hd:(match d with| .struct _| .array _ _=>true|_=>false)=true) (hi:(P.info? ty).map (·.size)=some cs.size)
  (h:wpListIn F n P ops Q rest (a.put o.dst (.agg cs)) w):wpListIn F n P ops Q (o::rest) a w:=by
 refine wpListIn_plain hgd fun K hK'=>?_
 unfold Oper.wpIn
 refine⟨?_,?_⟩
 ·simp[Oper.about,ho]
 ·rw[Oper.semAt_plain F _ _ (by rw[ho];intro c hc';cases hc')]
  have:=run_loadVar_row (P:=P) w g t ty cs fr d hg hu hd hi
  simp[execOp,ho,hx,Instr.loadAt,Instr.sureAddr,this,Result.andThen]
  exact hK' _ _ h
end Go.Proofs.YtokpcpjnihinfaaGreat
namespace Go.Proofs.YtokpcpjnihinfaaGreat
open Go.RowKit Go.Shelf
attribute [local go_sem] Oper.semAt_some
theorem wide_fn(f:FuncId):Fence.wide.fn f=True:=rfl
attribute [local simp] wide_fn
theorem rd_part{w:World}{B n c lo hi:Nat}{ad:Addr}{A2:Option Addr}{f:Nat→Nat}(h:RdB w B (some ad) n f)(hlo:lo≤hi)(hhi:hi≤n)(hc:n≤c)(hA:(if c=lo then(some ad:Option Addr)else some (ad.add lo))=A2):RdB w B A2 (hi-lo) (fun k=>f (k+lo)):=by
 refine⟨fun j=>h.1 _,fun hn=>?_⟩
 obtain⟨b,o,e,hb,hcc⟩:=h.2 (by omega)
 cases e
 rw[if_neg (by omega)]at hA
 have e:(⟨b,o,none⟩:Addr).add lo=⟨b,o+lo,none⟩:=by unfold Addr.add;split<;>simp_all
 rw[e]at hA
 refine⟨b,o+lo,hA.symm,hb,fun j hj=>?_⟩
 have:=hcc (j+lo) (by omega)
 rw[show o+lo+j=o+(j+lo) by omega]
 exact this
theorem mat3{f:Nat→Nat}{L a q:Nat}(h:a+3≤L):3≤matN f L a q↔∀i,i<3→f (q+i)=f (a+i):=by
 obtain⟨h1,h2,h3⟩:=matN_spec f L a q
 constructor
 ·intro h i hi;exact(h2 i (by omega)).2
 ·intro hh
  rcases Nat.lt_or_ge (matN f L a q) 3 with g|g
  ·rcases h3 with h3|h3
   ·omega
   ·exact absurd ⟨by omega,hh _ g⟩ h3
  ·exact g
theorem mat_few{f:Nat→Nat}{L a q:Nat}(h:a≤L)(h3:L-a<3):¬3≤matN f L a q:=by
 have:=matN_end (f:=f) (p:=q) h;omega
theorem mat_first{f:Nat→Nat}{L a q:Nat}(h:f q≠f a):¬3≤matN f L a q:=by
 intro h3
 obtain⟨h1,h2,_⟩:=matN_spec f L a q
 exact h (h2 0 (by omega)).2
def okP(f:Nat→Nat)(n a j:Nat):Prop:=3≤matN f n a (a-1-j)
def encP(a j:Nat):Array Value:=#[.int .i64 ((a-1-j:Nat):Int)]
theorem skips{J:Nat→World→Prop}{ok:Nat→Prop}{L:Nat}(h:∀j W1,J j W1→j<L→¬ok j→J (j+1) W1){j:Nat}{W:World}(hJ:J j W):∀d,j+d≤L→(∀i,j≤i→i<j+d→¬ok i)→J (j+d) W
 |0,_,_=>hJ
 |d+1,h1,h2=>h (j+d) W (skips h hJ d (by omega) fun i hi hi2=>h2 i hi (by omega)) (by omega) (h2 (j+d) (by omega) (by omega))
theorem places1_in(fu:Nat)(hn:1≤fu)(l Bb Ba Bs B:Nat)(A:Option Addr)(n c a z:Nat)(f:Nat→Nat)(S:Nat→Prop)(hS:S Bb∧S Ba∧S Bs)(hS2:∀k,k<B→S k)(hlen:n≤1000000)(_hcm:c≤maxLen)(ha:a≤n)(hnc:n≤c)(hz:z≤1000000)
  (J Jx:Nat→World→Prop)
  (hsk:∀j W1,J j W1→j<min z a→¬okP f n a j→J (j+1) W1)
  (hY:∀j W1,J j W1→j<min z a→okP f n a j→YieldAt Fence.wide (fu-1) Tryz.prog l (encP a j) W1 fun e W'=>(e=.returned (.bool true)∧J (j+1) W'∧KpB S W1 W')∨(e=.returned (.bool false)∧Jx j W'))
  (hd:∀W1 W2 j,J j W1→(∃t,W2=W1.drewN t)→J j W2)
  (W:World) (hBb:W.cell? ⟨Bb,0,none⟩=some (.slice A n c)) (hBa:W.cell? ⟨Ba,0,none⟩=some (.int .i64 (a:Int))) (hBs:W.cell? ⟨Bs,0,none⟩=some (.int .i64 (z:Int))) (hr:RdB W B A n f) (h0:J 0 W):
  CallsIn Fence.wide fu Tryz.prog 183 #[.func (.yield l) #[] #[],.pointer (some ⟨Bb,0,none⟩),.pointer (some ⟨Ba,0,none⟩),.pointer (some ⟨Bs,0,none⟩)] W fun e W'=>(∃v,e=.returned v)∧(J (min z a) W'∨∃j,j<min z a∧Jx j W'):=by
 obtain⟨M,hM⟩:∃M,M=min (n-a) 258:=⟨_,rfl⟩
 have hmo:=most_any W A n c a ha hlen
 rw[←hM]at hmo
 have HMO:=Lib.hid hmo
 refine callsIn_of_wp Tryz.func183 rfl trivial ?_ rfl
 simp only[Tryz.ntmps183,List.size_toArray,List.length_cons,List.length_nil,Nat.reduceAdd,Nat.reduceSub,Array.replicate_succ,Array.replicate_zero,List.push_toArray,List.append_toArray,List.nil_append,List.cons_append]
 have HR:=Lib.hid hr;have HS:=Lib.hid hS2;have HM:=Lib.hid hM;have HY:=Lib.hid hY;have HSK:=Lib.hid hsk;have HD:=Lib.hid hd
 clear hr hS2 hM hmo hY hsk hd
 by_cases hm3:M<3
 ·have hfew:∀i,¬okP f n a i:=fun i=>mat_few ha (by have:=HM.out;omega)
  have hJL:=skips HSK.out h0 (min z a) (by omega) (fun i _ _=>hfew i)
  rw[Nat.zero_add]at hJL
  have HJL:=Lib.hid hJL
  have hmi:(M:Int)<3:=by omega
  clear hfew hJL
  gi_wp2_with (gi_at_call 177;refine(callsIn_wide.2 HMO.out).mono ?_;rintro e w' ⟨rfl,rfl⟩)
  refine bodyPost_ret (results_none rfl _ _ _) rfl ?_
  exact⟨⟨_,rfl⟩,.inl HJL.out⟩
 ·have hmi:¬(M:Int)<3:=by omega
  have ha3:a+3≤n:=by have:=HM.out;omega
  obtain⟨ad,rfl⟩:∃ad,A=some ad:=by
   obtain⟨b,o,h,_⟩:=HR.out.2 (by omega)
   exact⟨_,h⟩
  obtain⟨A1,hA1⟩:∃A1,(if c=a then(some ad:Option Addr)else some (ad.add a))=A1:=⟨_,rfl⟩
  have hbeg:=rd_part (hi:=a+3) HR.out (by omega) ha3 hnc hA1
  obtain⟨b1,o1,rfl,hb1,hc1⟩:=hbeg.2 (by omega)
  obtain⟨low,hlo⟩:∃low,low=a-z:=⟨_,rfl⟩
  obtain⟨L,hL⟩:∃L,L=min z a:=⟨_,rfl⟩
  have eL:L=a-low:=by omega
  have hla:low≤a:=by omega
  have hlow:(if(a:Int)-(z:Int)<0 then 0 else(a:Int)-(z:Int))=(low:Int):=by split<;>omega
  have e3:a+3-a=3:=by omega
  rw[e3]at hbeg
  rw[←hL]at HY HSK⊢
  have HBEG:=Lib.hid hbeg;have HA1:=Lib.hid hA1
  clear hbeg hc1 hb1 hL hlo
  gi_wp2_with (gi_at_call 177;refine(callsIn_wide.2 HMO.out).mono ?_;rintro e w' ⟨rfl,rfl⟩)
  gi_region
  simp only[e3]
  have hjd:=HD.out _ _ _ h0 ⟨1,rfl⟩
  change J 0 W.drew at hjd
  have hkd:KpB S W W.drew:=KpB.refl S W
  obtain⟨V,hV⟩:∃V,V=W.drew:=⟨_,rfl⟩
  rw[←hV]at hjd hkd⊢
  have vBa:=(hkd.cell (p:=⟨Ba,0,none⟩) hS.2.1).trans hBa
  have HJ0:=Lib.hid hjd;have HK0:=Lib.hid hkd
  clear hV hjd hkd h0 hlow e3 HMO hA1
  gi_wp2
  gi_loopw [7] (fun kv wr=>∃j:Nat,j≤L∧kv=.int .i64 ((a-j:Nat):Int)∧Hid (J j wr)∧Hid (KpB S W wr)) (fun kv _=>(intOf kv).toNat)
  case atStart=>exact⟨0,Nat.zero_le _,rfl,HJ0,HK0⟩
  case round=>
   obtain⟨j,hj,rfl,HJ,HK⟩:=hrel
   obtain⟨g,hg⟩:∃g,g=a-j:=⟨_,rfl⟩
   rw[←hg]
   have hgl:low≤g:=by omega
   have hga:g≤a:=by omega
   have c1:=(HK.out.cell (p:=⟨Bb,0,none⟩) hS.1).trans hBb
   have c2:=(HK.out.cell (p:=⟨Ba,0,none⟩) hS.2.1).trans hBa
   have HRW:=Lib.hid (HR.out.kept HK.out HS.out)
   have HBW:=Lib.hid (HBEG.out.kept HK.out HS.out)
   obtain⟨b2,o2,hb2,_,hc2⟩:=HBW.out.2 (by omega)
   injection hb2 with hb2
   injection hb2 with hb2 ho2 _
   subst hb2;subst ho2
   have c3:wr.cell? ⟨b1,o1,none⟩=some (.int .u8 (f a:Int)):=by have h:=hc2 0 (by omega);simpa using h
   have hpart:=rd_part (hi:=g) HRW.out hgl (by omega) hnc (if_neg (by omega))
   obtain⟨R,hR⟩:∃R,R=lstI (fun k=>f (k+low)) (f a) (g-low):=⟨_,rfl⟩
   have hlb:=fun(t cc:Nat)=>lastb_any (wr.drewN t) B (some (ad.add low)) (g-low) cc (fun k=>f (k+low)) (f a) hpart (by omega)
   rw[←hR]at hlb
   have hsp:=lstI_spec (fun k=>f (k+low)) (f a) (g-low)
   rw[←hR]at hsp
   have HLB:=Lib.hid hlb;have HSP:=Lib.hid hsp;have HG:=Lib.hid hg;have HEL:=Lib.hid eL
   have hgi:(low:Int)≤(g:Int):=by omega
   have hgc:(g:Int)≤(c:Int):=by omega
   clear hlb hsp hpart hc2 hR hg eL
   clear vBa
   gi_wp2
   gi_quiet ((gi_at_call 184;exact CallsIn.quiet_of_same (callsIn_wide.2 (HLB.out _ _))))
   have hjd:=HD.out _ _ _ HJ.out ⟨nq,rfl⟩
   have hkd:KpB S W (wr.drewN nq):=HK.out
   have hrv:RdB (wr.drewN nq) B (some ad) n f:=HRW.out
   have hbv:RdB (wr.drewN nq) B (some ⟨b1,o1,none⟩) 3 (fun k=>f (k+a)):=HBW.out
   have v1:(wr.drewN nq).cell? ⟨Bb,0,none⟩=some (.slice (some ad) n c):=c1
   obtain⟨V,hV⟩:∃V,V=wr.drewN nq:=⟨_,rfl⟩
   rw[←hV]at hjd hkd hrv hbv v1⊢
   have HJV:=Lib.hid hjd;have HKV:=Lib.hid hkd
   clear hjd hkd hV HJ HK HRW HBW HLB c1 c2 c3
   rcases HSP.out with⟨rfl,hno⟩|⟨m,rfl,hm,hfm,hlast⟩
   ·have hnone:∀i,j≤i→i<L→¬okP f n a i:=fun i h1 h2=>by
     have hg':=HG.out;have hL':=HEL.out
     have h:=hno (a-1-i-low) (by omega)
     refine mat_first ?_
     rw[show a-1-i=a-1-i-low+low by omega]
     exact h
    have hJL:=skips HSK.out HJV.out (L-j) (by omega) (fun i h1 h2=>hnone i h1 (by omega))
    rw[show j+(L-j)=L by omega]at hJL
    have HJL:=Lib.hid hJL
    clear hno hnone hJL hrv hbv v1
    gi_wp2
    refine bodyPost_ret (results_none rfl _ _ _) rfl ?_
    exact⟨⟨_,rfl⟩,.inl HJL.out⟩
   ·obtain⟨p,hp⟩:∃p,p=low+m:=⟨_,rfl⟩
    have ep:(low:Int)+(m:Int)=(p:Int):=by omega
    have hpg:p<g:=by omega
    have hpn:p<n:=by omega
    obtain⟨js,hjs⟩:∃js,js=a-1-p:=⟨_,rfl⟩
    have hjj:j≤js∧js<L∧a-1-js=p∧a-(js+1)=p:=by
     have hg':=HG.out;have hL':=HEL.out;omega
    have hJs:=skips HSK.out HJV.out (js-j) (by omega) (fun i h1 h2=>by
     have hg':=HG.out;have hL':=HEL.out
     refine mat_first ?_
     have h:=hlast (a-1-i-low) (by omega) (by omega)
     rw[show a-1-i=a-1-i-low+low by omega]
     exact h)
    rw[show j+(js-j)=js by omega]at hJs
    have hrp:=rd_part (hi:=n) hrv (show p≤n by omega) (Nat.le_refl _) hnc (if_neg (by omega))
    have hhp:=hasp_any V B (some (ad.add p)) (some ⟨b1,o1,none⟩) (n-p) (c-p) 3 (c-a) (fun k=>f (k+p)) (fun k=>f (k+a)) hrp hbv (by omega) (by omega)
    have hlt8:∀k,f k<256:=HR.out.1
    have hm0:¬(m:Int)<0:=by omega
    have hpc:(p:Int)≤(n:Int):=by omega
    by_cases hpre:∀i,i<3→f (i+p)=f (i+a)
    ·have hok:okP f n a js:=by
      unfold okP;rw[hjj.2.2.1,mat3 ha3]
      intro i hi;rw[Nat.add_comm p i,Nat.add_comm a i];exact hpre i hi
     rw[strL_yes hpre]at hhp
     obtain⟨fn,tmps,assign,body,hy,hR⟩:=HY.out _ _ hJs hjj.2.1 hok
     have hen:encP a js=#[.int .i64 (p:Int)]:=by unfold encP;rw[hjj.2.2.1]
     rw[hen]at hy
     have HHP:=Lib.hid hhp;have HRR:=Lib.hid hR
     have HJJ:=Lib.hid hjj
     clear hhp hR hrp hbv hrv hok hlast hfm hen hJs hpre hlt8 hp hjs hjj
     gi_wp2_with (gi_at_call 185;refine(callsIn_wide.2 HHP.out).mono ?_;rintro e w' ⟨rfl,rfl⟩)
     refine HRR.out.mono ?_
     rintro e W3 (⟨rfl,hJ3,hk3⟩|⟨rfl,hX⟩)
     ·have HJ3:=Lib.hid hJ3;have HK3:=Lib.hid (HKV.out.tr hk3)
      clear hJ3 hk3
      gi_wp2
      go_roundw
      case rel=>exact⟨js+1,HJJ.out.2.1,by rw[HJJ.out.2.2.2],HJ3,HK3⟩
      case measure=>simp[intOf];omega
     ·have HX:=Lib.hid hX
      clear hX
      gi_wp2
      refine bodyPost_ret (results_none rfl _ _ _) rfl ?_
      exact⟨⟨_,rfl⟩,.inr ⟨js,HJJ.out.2.1,HX.out⟩⟩
    ·have hok:¬okP f n a js:=by
      unfold okP;rw[hjj.2.2.1,mat3 ha3]
      intro h;refine hpre fun i hi=>?_
      have:=h i hi
      rw[Nat.add_comm p i,Nat.add_comm a i]at this;exact this
     rw[strL_no (fun k=>hlt8 _) (fun k=>hlt8 _) hpre]at hhp
     have hJ3:=HSK.out _ _ hJs hjj.2.1 hok
     have HHP:=Lib.hid hhp;have HJJ:=Lib.hid hjj;have HJ3:=Lib.hid hJ3
     clear hhp hrp hbv hrv hok hlast hfm hJs hpre hlt8 hp hjs hjj hJ3
     gi_wp2_with (gi_at_call 185;refine(callsIn_wide.2 HHP.out).mono ?_;rintro e w' ⟨rfl,rfl⟩)
     all_goals(try refine⟨(fun f h=>by cases h),?_⟩)
     all_goals(try gi_wp2)
     go_roundw
     case rel=>exact⟨js+1,HJJ.out.2.1,by rw[HJJ.out.2.2.2],HJ3,HKV⟩
     case measure=>simp[intOf];omega
theorem places1_some(fu:Nat)(hn:1≤fu)(Bb Ba Bs B:Nat)(A:Option Addr)(n c a z:Nat)(f:Nat→Nat)(S:Nat→Prop)(hS:S Bb∧S Ba∧S Bs)(hS2:∀k,k<B→S k)(hlen:n≤1000000)(hcm:c≤maxLen)(ha:a≤n)(hnc:n≤c)(hz:z≤1000000)
  (w:World) (hBb:w.cell? ⟨Bb,0,none⟩=some (.slice A n c)) (hBa:w.cell? ⟨Ba,0,none⟩=some (.int .i64 (a:Int))) (hBs:w.cell? ⟨Bs,0,none⟩=some (.int .i64 (z:Int))) (hBw:Bb<w.heap.size∧Ba<w.heap.size∧Bs<w.heap.size) (hB:B≤w.heap.size) (hr:RdB w B A n f):
  SeqSome Fence.wide fu Tryz.prog 183 #[.pointer (some ⟨Bb,0,none⟩),.pointer (some ⟨Ba,0,none⟩),.pointer (some ⟨Bs,0,none⟩)] (encP a) (okP f n a) (KpB S) (min z a) w:=fun l J Jx W hW hsk hY hd _ h0=>
 places1_in fu hn l Bb Ba Bs B A n c a z f S hS hS2 hlen hcm ha hnc hz J Jx hsk hY hd W ((hW.cell hBw.1).trans hBb) ((hW.cell hBw.2.1).trans hBa) ((hW.cell hBw.2.2).trans hBs) (hr.below hW hB) h0
theorem places_in(n:Nat)(A:Option Addr)(len cap:Nat)(a z:Nat)(w:World):
  CallsIn Fence.wide n Tryz.prog 175 #[.slice A len cap,.int .i64 (a:Int),.int .i64 (z:Int)] w fun e w'=>e=.returned (.func (.func 183) #[] #[.pointer (some ⟨w.heap.size,0,none⟩),.pointer (some ⟨w.heap.size+1,0,none⟩),.pointer (some ⟨w.heap.size+2,0,none⟩)])∧
   w'=((w.alloc (.cells #[.slice A len cap] 22)).alloc (.cells #[.int .i64 (a:Int)] 3)).alloc (.cells #[.int .i64 (z:Int)] 3):=by
 refine callsIn_of_wp Tryz.func175 rfl trivial ?_ rfl
 simp only[Tryz.ntmps175,List.size_toArray,List.length_cons,List.length_nil,Nat.reduceAdd,Nat.reduceSub,Array.replicate_succ,Array.replicate_zero,List.push_toArray,List.append_toArray,List.nil_append,List.cons_append]
 gi_wp2
 go_ret
 exact⟨rfl,rfl⟩
end Go.Proofs.YtokpcpjnihinfaaGreat
