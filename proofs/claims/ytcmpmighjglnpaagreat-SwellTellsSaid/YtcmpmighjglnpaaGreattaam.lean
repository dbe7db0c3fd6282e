/-
  Words and walks.
-/
import Derived.OneCell
import Derived.Test.YtcmpmighjglnpaaGreattaaa
import Derived.Test.YtcmpmighjglnpaaGreattaac
import Derived.Test.YtcmpmighjglnpaaGreattaad
import Derived.Test.YtcmpmighjglnpaaGreattaaf
import Derived.Test.YtcmpmighjglnpaaGreattaag
import Derived.Test.YtcmpmighjglnpaaGreattaah
import Derived.Test.YtcmpmighjglnpaaGreattaak
import Derived.Test.YtcmpmighjglnpaaGreattaal
set_option maxRecDepth 100000
set_option maxHeartbeats 16000000
namespace Go.Proofs.YtcmpmighjglnpaaGreat
open Go.RowKit
structure CodeOk (F:Nat→Nat) (n:Nat):Prop where
 top:n≤320
 le:∀j,j<n→F j≤15
 all:allN F n≤32768
theorem CodeOk.of{F:Nat→Nat}{n:Nat}{most:Int}(h:checkE F n most=0):CodeOk F n:=by
 obtain⟨h1,h2,h3,h4,h5,_⟩:=check_ok h
 exact⟨h3,fun j hj=>by have:=h4 j hj;omega,h5⟩
structure BlkIn (k:Blk13):Prop where
 kind:k.kind≤2
 left:k.left≤65535
 F:k.kind≠0→CodeOk k.F k.n
 G:k.kind≠0→CodeOk k.G k.m
def nxtV(r:Tok×Bool×Nat×Int):Value:=.tuple #[.agg #[.int .u8 (r.1.x:Int),.int .i64 r.1.d,.int .i64 r.1.n],.bool r.2.1,.int .i64 (r.2.2.1:Int),.int .i64 r.2.2.2]
theorem built_tok0:Tryz.prog.built 82 []=some #[.int .u8 0,.int .i64 0,.int .i64 0]:=by kernel_rfl
theorem built_tok1p(x:Nat):Tryz.prog.built 82 [(0,.int .u8 (x:Int))]=some #[.int .u8 (x:Int),.int .i64 0,.int .i64 0]:=by kernel_rfl
theorem built_tok2(d n:Int):Tryz.prog.built 82 [(1,.int .i64 d),(2,.int .i64 n)]=some #[.int .u8 0,.int .i64 d,.int .i64 n]:=by kernel_rfl
theorem oneTok(x:Nat)(d n:Int):(#[.int .u8 (x:Int),.int .i64 d,.int .i64 n]:Array Value).all (·.oneCell')=true:=by simp[Value.oneCell']
theorem below_rowU13{B:Nat}{a w:World}(h:Below B a w){g:Nat}(hp:B≤g)(cs:Array Value):Below B a (w.setRow g cs):=
 ⟨h.os,h.tape,h.output,by rw[size_setRow];exact h.size,fun k hk=>(setRow_other w g k cs (by omega)).trans (h.block k hk)⟩
end Go.Proofs.YtcmpmighjglnpaaGreat
namespace Go.Proofs.YtcmpmighjglnpaaGreat
theorem times_pos(s x:Int):1≤timesR s x:=by unfold timesR;split;omega;split<;>omega
end Go.Proofs.YtcmpmighjglnpaaGreat
namespace Go.Proofs.YtcmpmighjglnpaaGreat
open Go.RowKit
def blkT(kd:Nat)(last:Bool)(left:Nat)(c1 c2:Nat→Int)(v1 v2:Value):Array Value:=(.int .u8 (kd:Int)::.bool last::.int .i64 (left:Int)::(trL c1 v1++trL c2 v2)).toArray
theorem infoBlkT:(Tryz.prog.info? 28).map (fun i=>(i.zero,i.size))=some (some (.agg (blkT 0 false 0 (fun _=>0) (fun _=>0) (.slice none 0 0) (.slice none 0 0))),37):=by kernel_rfl
theorem blkT_size(k:Nat)(b:Bool)(l:Nat)(c1 c2:Nat→Int)(v1 v2:Value):(blkT k b l c1 c2 v1 v2).size=37:=by simp[blkT,trL,cntV]
theorem szBlkT(cs:Array Value)(h:cs.size=37):(Tryz.prog.info? 28).map (·.size)=some cs.size:=by rw[h];exact(zero_of_info infoBlkT).2
def setL:Nat→List Value→Array Value→Array Value
 |_,[],cs=>cs
 |o,v::r,cs=>setL (o+1) r (cs.setIfInBounds o v)
theorem BoxC.setCells{g:Nat}{t:TypeId}:∀(vs:List Value) (o:Nat) (w:World) (cs:Array Value),BoxC w g cs t→BoxC (w.setCells g o vs) g (setL o vs cs) t
 |[],_,_,_,h=>h
 |v::r,o,_,_,h=>BoxC.setCells r (o+1) _ _ (h.set o v)
theorem set_longs(k:Nat)(b:Bool)(l:Nat)(c1 c2 d:Nat→Int)(v1 v2 u:Value):setL 3 (trL d u) (blkT k b l c1 c2 v1 v2)=blkT k b l d c2 u v2:=by kernel_rfl
theorem set_fars(k:Nat)(b:Bool)(l:Nat)(c1 c2 d:Nat→Int)(v1 v2 u:Value):setL 20 (trL d u) (blkT k b l c1 c2 v1 v2)=blkT k b l c1 d v1 u:=by kernel_rfl
theorem there_box{w:World}{g:Nat}{cs:Array Value}{t:TypeId}(h:BoxC w g cs t)(o n:Nat)(hn:o+n≤cs.size):w.there g o n:=fun j hj=>by
 refine⟨?_,h.free⟩
 rw[h.cell,Array.getElem?_eq_getElem (by omega)];rfl
theorem below_setCells{B:Nat}{a:World}{g:Nat}(hg:B≤g):∀(vs:List Value) (o:Nat) (w:World),Below B a w→Below B a (w.setCells g o vs)
 |[],_,_,h=>h
 |v::r,o,_,h=>below_setCells hg r (o+1) _ (h.setCell hg v)
theorem setCells_other{g i:Nat}(hi:i≠g):∀(vs:List Value) (o:Nat) (w:World),(w.setCells g o vs).heap[i]?=w.heap[i]?
 |[],_,_=>rfl
 |v::r,o,w=>(setCells_other hi r (o+1) (w.setCell ⟨g,o,none⟩ v)).trans (Below.heap_setCell w ⟨g,o,none⟩ v i hi)
theorem blkT_one(k:Nat)(b:Bool)(l:Nat)(c1 c2:Nat→Int)(v1 v2:Value)(h1:v1.oneCell'=true)(h2:v2.oneCell'=true):(blkT k b l c1 c2 v1 v2).all (·.oneCell')=true:=by
 have ht:∀(c:Nat→Int) (v:Value),v.oneCell'=true→∀x∈trL c v,x.oneCell'=true:=fun c v h x hx=>by
  rcases List.mem_append.1 hx with hx|hx
  ·obtain⟨i,_,rfl⟩:=List.mem_map.1 hx;rfl
  ·rw[List.mem_singleton.1 hx];exact h
 refine all_oneCell_toArray fun x hx=>?_
 rcases List.mem_cons.1 hx with rfl|hx
 ·rfl
 rcases List.mem_cons.1 hx with rfl|hx
 ·rfl
 rcases List.mem_cons.1 hx with rfl|hx
 ·rfl
 rcases List.mem_append.1 hx with hx|hx
 ·exact ht _ _ h1 x hx
 ·exact ht _ _ h2 x hx
def tcO(kd:Nat)(F:Nat→Nat)(n:Nat):Nat→Int:=if kd=0 then fun _=>0 else fun m=>(tcN F m n:Int)
def syO(kd:Nat)(F:Nat→Nat)(n:Nat):List Int:=if kd=0 then[]else natsI (symL F n 15)
def OfD(base:Nat)(k:Blk13)(v:Value)(w':World):Prop:=
 ∃v1 v2,v=.agg (blkT k.kind k.last k.left (tcO k.kind k.F k.n) (tcO k.kind k.G k.m) v1 v2)∧OwnS w' base v1 (syO k.kind k.F k.n)∧OwnS w' base v2 (syO k.kind k.G k.m)
end Go.Proofs.YtcmpmighjglnpaaGreat
