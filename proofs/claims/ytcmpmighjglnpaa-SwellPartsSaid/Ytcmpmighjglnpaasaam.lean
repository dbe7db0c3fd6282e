/-
  Words and walks.
-/
import Derived.OneCell
import Derived.Test.Ytcmpmighjglnpaasaaa
import Derived.Test.Ytcmpmighjglnpaasaac
import Derived.Test.Ytcmpmighjglnpaasaad
import Derived.Test.Ytcmpmighjglnpaasaah
import Derived.Test.Ytcmpmighjglnpaasaal
set_option maxRecDepth 100000
set_option maxHeartbeats 16000000
namespace Go.Proofs.Ytcmpmighjglnpaa
open Go.RowKit
structure CodeOk (F:Nat→Nat) (n:Nat):Prop where
 top:n≤320
 le:∀j,j<n→F j≤15
 all:allN F n≤32768
theorem CodeOk.of{F:Nat→Nat}{n:Nat}{most:Int}(h:checkE F n most=0):CodeOk F n:=by
 obtain⟨h1,h2,h3,h4,h5,_⟩:=check_ok h
 exact⟨h3,fun j hj=>by have:=h4 j hj;omega,h5⟩
structure BlkIn (k:Blk13):Prop where
 kind:k.kind≤2
 left:k.left≤65535
 F:k.kind≠0→CodeOk k.F k.n
 G:k.kind≠0→CodeOk k.G k.m
def nxtV(r:Tok×Bool×Nat×Int):Value:=.tuple #[.agg #[.int .u8 (r.1.x:Int),.int .i64 r.1.d,.int .i64 r.1.n],.bool r.2.1,.int .i64 (r.2.2.1:Int),.int .i64 r.2.2.2]
theorem built_tok0:Try.prog.built 68 []=some #[.int .u8 0,.int .i64 0,.int .i64 0]:=by kernel_rfl
theorem built_tok1p(x:Nat):Try.prog.built 68 [(0,.int .u8 (x:Int))]=some #[.int .u8 (x:Int),.int .i64 0,.int .i64 0]:=by kernel_rfl
theorem built_tok2(d n:Int):Try.prog.built 68 [(1,.int .i64 d),(2,.int .i64 n)]=some #[.int .u8 0,.int .i64 d,.int .i64 n]:=by kernel_rfl
theorem oneTok(x:Nat)(d n:Int):(#[.int .u8 (x:Int),.int .i64 d,.int .i64 n]:Array Value).all (·.oneCell')=true:=by simp[Value.oneCell']
theorem below_rowU13{B:Nat}{a w:World}(h:Below B a w){g:Nat}(hp:B≤g)(cs:Array Value):Below B a (w.setRow g cs):=
 ⟨h.os,h.tape,h.output,by rw[size_setRow];exact h.size,fun k hk=>(setRow_other w g k cs (by omega)).trans (h.block k hk)⟩
end Go.Proofs.Ytcmpmighjglnpaa
namespace Go.Proofs.Ytcmpmighjglnpaa
theorem times_pos(s x:Int):1≤timesR s x:=by unfold timesR;split;omega;split<;>omega
end Go.Proofs.Ytcmpmighjglnpaa
