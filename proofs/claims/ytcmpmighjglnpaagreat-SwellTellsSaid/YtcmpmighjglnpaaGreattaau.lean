/-
  Words and walks.
-/
import Derived.BigRegion
import Derived.Test.YtcmpmighjglnpaaGreattaaa
import Derived.Test.YtcmpmighjglnpaaGreattaac
import Derived.Test.YtcmpmighjglnpaaGreattaah
import Derived.Test.YtcmpmighjglnpaaGreattaal
import Derived.Test.YtcmpmighjglnpaaGreattaam
import Derived.Test.YtcmpmighjglnpaaGreattaao
import Derived.Test.YtcmpmighjglnpaaGreattaar
import Derived.Test.YtcmpmighjglnpaaGreattaat
set_option maxRecDepth 100000
set_option maxHeartbeats 16000000
namespace Go.Proofs.YtcmpmighjglnpaaGreat
open Go.RowKit
structure UnV where
 M:Int
 D:Int
 I:Value
 a:Int
 kd:Nat
 last:Bool
 left:Int
 c1:Nat→Int
 c2:Nat→Int
 v1:Value
 v2:Value
 op:Bool
 S:Int
 W:Value
 ov:Bool
 b:Value
 bit:Nat
 t:Value
 wait:Nat
def UnV.blk(u:UnV):List Value:=blkL u.kd u.last u.left u.c1 u.c2 u.v1 u.v2
def UnV.sw(u:UnV):SwV:=⟨u.M,u.D,u.I,u.a,u.blk,u.op,u.S,u.W,u.ov⟩
def UnV.tl(u:UnV):List Value:=[u.b,.int .i64 (u.bit:Int),u.t,.int .i64 (u.wait:Int)]
def unL(u:UnV):List Value:=swL u.sw++u.tl
def unA(u:UnV):Array Value:=(unL u).toArray
theorem swL_len{x:SwV}(h:x.B.length=37):(swL x).length=45:=by simp[swL,swP,swQ,h]
theorem unA_size(u:UnV):(unA u).size=49:=by
 show(swL u.sw++u.tl).length=49
 rw[List.length_append,swL_len (blkL_len ..)];rfl
def unZ:UnV:=⟨0,0,.slice none 0 0,0,0,false,0,fun _=>0,fun _=>0,.slice none 0 0,.slice none 0 0,false,0,.slice none 0 0,false,.slice none 0 0,0,.slice none 0 0,0⟩
abbrev UnB(w:World)(p:Nat)(u:UnV):Prop:=BoxC w p (unA u) 64
section
variable {w:World} {p:Nat} {u:UnV}
theorem UnB.cM(h:UnB w p u):w.cell? ⟨p,0,none⟩=some (.int .i64 u.M):=(BoxC.cell h).trans rfl
theorem UnB.cD(h:UnB w p u):w.cell? ⟨p,1,none⟩=some (.int .i64 u.D):=(BoxC.cell h).trans rfl
theorem UnB.cI(h:UnB w p u):w.cell? ⟨p,2,none⟩=some u.I:=(BoxC.cell h).trans rfl
theorem UnB.ca(h:UnB w p u):w.cell? ⟨p,3,none⟩=some (.int .i64 u.a):=(BoxC.cell h).trans rfl
theorem UnB.ck(h:UnB w p u):w.cell? ⟨p,4,none⟩=some (.int .u8 (u.kd:Int)):=(BoxC.cell h).trans rfl
theorem UnB.cl(h:UnB w p u):w.cell? ⟨p,5,none⟩=some (.bool u.last):=(BoxC.cell h).trans rfl
theorem UnB.ce(h:UnB w p u):w.cell? ⟨p,6,none⟩=some (.int .i64 u.left):=(BoxC.cell h).trans rfl
theorem UnB.cop(h:UnB w p u):w.cell? ⟨p,41,none⟩=some (.bool u.op):=(BoxC.cell h).trans rfl
theorem UnB.cS(h:UnB w p u):w.cell? ⟨p,42,none⟩=some (.int .i64 u.S):=(BoxC.cell h).trans rfl
theorem UnB.cW(h:UnB w p u):w.cell? ⟨p,43,none⟩=some u.W:=(BoxC.cell h).trans rfl
theorem UnB.cov(h:UnB w p u):w.cell? ⟨p,44,none⟩=some (.bool u.ov):=(BoxC.cell h).trans rfl
theorem UnB.cb(h:UnB w p u):w.cell? ⟨p,45,none⟩=some u.b:=(BoxC.cell h).trans rfl
theorem UnB.cbit(h:UnB w p u):w.cell? ⟨p,46,none⟩=some (.int .i64 (u.bit:Int)):=(BoxC.cell h).trans rfl
theorem UnB.ct(h:UnB w p u):w.cell? ⟨p,47,none⟩=some u.t:=(BoxC.cell h).trans rfl
theorem UnB.cwait(h:UnB w p u):w.cell? ⟨p,48,none⟩=some (.int .i64 (u.wait:Int)):=(BoxC.cell h).trans rfl
theorem UnB.free(h:UnB w p u)(i:Nat):w.frozen? ⟨p,i,none⟩=false:=BoxC.free h
theorem un_range(h:UnB w p u)(pre mid post:List Value)(e:unL u=pre++mid++post):w.rangeAt p pre.length mid:=by
 refine range_mid (t:=64) (pre:=pre) (post:=post) ?_
 rw[←e];exact h
theorem UnB.rB(h:UnB w p u):w.rangeAt p 4 u.blk:=un_range h (swP u.sw) u.blk (swQ u.sw++u.tl) (by unfold unL swL;simp[UnV.sw])
theorem UnB.rW(h:UnB w p u):w.rangeAt p 42 [.int .i64 u.S,u.W]:=by
 have:=un_range h (swP u.sw++u.blk++[Value.bool u.op]) [.int .i64 u.S,u.W] (Value.bool u.ov::u.tl) (by unfold unL swL;simp[UnV.sw,swQ])
 have e:(swP u.sw++u.blk++[Value.bool u.op]).length=42:=by simp[swP,UnV.blk,blkL_len]
 rwa[e]at this
theorem UnB.rS(h:UnB w p u):w.rangeAt p 0 (swL u.sw):=un_range h [] (swL u.sw) u.tl (by unfold unL;simp)
theorem UnB.sD(h:UnB w p u)(x:Int):UnB (w.setCell ⟨p,1,none⟩ (.int .i64 x)) p {u with D:=x}:=(BoxC.set h 1 _)
theorem UnB.sI(h:UnB w p u)(x:Value):UnB (w.setCell ⟨p,2,none⟩ x) p {u with I:=x}:=(BoxC.set h 2 _)
theorem UnB.sa(h:UnB w p u)(x:Int):UnB (w.setCell ⟨p,3,none⟩ (.int .i64 x)) p {u with a:=x}:=(BoxC.set h 3 _)
theorem UnB.se(h:UnB w p u)(x:Int):UnB (w.setCell ⟨p,6,none⟩ (.int .i64 x)) p {u with left:=x}:=(BoxC.set h 6 _)
theorem UnB.sop(h:UnB w p u)(x:Bool):UnB (w.setCell ⟨p,41,none⟩ (.bool x)) p {u with op:=x}:=(BoxC.set h 41 _)
theorem UnB.sov(h:UnB w p u)(x:Bool):UnB (w.setCell ⟨p,44,none⟩ (.bool x)) p {u with ov:=x}:=(BoxC.set h 44 _)
theorem UnB.sbit(h:UnB w p u)(x:Nat):UnB (w.setCell ⟨p,46,none⟩ (.int .i64 (x:Int))) p {u with bit:=x}:=(BoxC.set h 46 _)
theorem UnB.st(h:UnB w p u)(x:Value):UnB (w.setCell ⟨p,47,none⟩ x) p {u with t:=x}:=(BoxC.set h 47 _)
theorem UnB.swait(h:UnB w p u)(x:Nat):UnB (w.setCell ⟨p,48,none⟩ (.int .i64 (x:Int))) p {u with wait:=x}:=(BoxC.set h 48 _)
theorem un_setB(u:UnV)(kd:Nat)(last:Bool)(left:Int)(c1 c2:Nat→Int)(v1 v2:Value):setL 4 (blkL kd last left c1 c2 v1 v2) (unA u)=unA {u with kd:=kd,last:=last,left:=left,c1:=c1,c2:=c2,v1:=v1,v2:=v2}:=by
 have h:=setL_mid (blkL kd last left c1 c2 v1 v2) u.blk (swP u.sw) (swQ u.sw++u.tl) (by rw[blkL_len,UnV.blk,blkL_len])
 have e:(swP u.sw++u.blk++(swQ u.sw++u.tl)).toArray=unA u:=by unfold unA unL swL;simp[UnV.sw]
 rw[e]at h
 refine h.trans ?_
 unfold unA unL swL;simp[UnV.sw,UnV.blk,UnV.tl,swP,swQ]
theorem un_setW(u:UnV)(S:Int)(W:Value):setL 42 [.int .i64 S,W] (unA u)=unA {u with S:=S,W:=W}:=by
 have h:=setL_mid [.int .i64 S,W] [.int .i64 u.S,u.W] (swP u.sw++u.blk++[Value.bool u.op]) (Value.bool u.ov::u.tl) rfl
 have e:(swP u.sw++u.blk++[Value.bool u.op]++[Value.int .i64 u.S,u.W]++(Value.bool u.ov::u.tl)).toArray=unA u:=by unfold unA unL swL;simp[UnV.sw,swQ]
 rw[e,show(swP u.sw++u.blk++[Value.bool u.op]).length=42 by simp[swP,UnV.blk,blkL_len]]at h
 refine h.trans ?_
 unfold unA unL swL;simp[UnV.sw,UnV.tl,UnV.blk,swP,swQ]
end
theorem Fr.setCells{S:Nat→Prop}(w:World)(p o:Nat)(vs:List Value)(hp:S p):Fr S w (w.setCells p o vs):=by
 have h:=below_setCells (B:=p) (a:=w) (Nat.le_refl p) vs o w (Below.refl _ _)
 exact⟨h.os,h.tape,h.output,h.size,fun k _ hk=>setCells_other (fun e=>hk (by rw[e];exact hp)) vs o w⟩
theorem UnB.sB{w:World}{p:Nat}{u:UnV}(h:UnB w p u)(kd:Nat)(last:Bool)(left:Int)(c1 c2:Nat→Int)(v1 v2:Value):UnB (w.setCells p 4 (blkL kd last left c1 c2 v1 v2)) p {u with kd:=kd,last:=last,left:=left,c1:=c1,c2:=c2,v1:=v1,v2:=v2}:=by
 have a:=BoxC.setCells (blkL kd last left c1 c2 v1 v2) 4 w _ h
 rw[un_setB]at a;exact a
theorem UnB.sW{w:World}{p:Nat}{u:UnV}(h:UnB w p u)(S:Int)(W:Value):UnB (w.setCells p 42 [.int .i64 S,W]) p {u with S:=S,W:=W}:=by
 have a:=BoxC.setCells [.int .i64 S,W] 42 w _ h
 rw[un_setW]at a;exact a
theorem UnB.th{w:World}{p:Nat}{u:UnV}(h:UnB w p u)(o n:Nat)(hn:o+n≤49):w.there p o n:=there_box h o n (by rw[unA_size];exact hn)
def TS(p:Nat)(t:Value):Nat→Prop:=fun j=>j=p∨t.ownBlock=some j
def ByF(S:Nat→Prop)(w:World)(A:Option Addr)(n c:Nat)(f:Nat→Nat):Prop:=RdF S w A n f∧(A=none→c=0)∧n≤c∧c≤maxLen
theorem ByF.r{S:Nat→Prop}{w:World}{A:Option Addr}{n c:Nat}{f:Nat→Nat}(h:ByF S w A n c f):ByR w w.heap.size A n c f:=⟨h.1.1,h.2⟩
theorem ByF.go{S T:Nat→Prop}{w w':World}{A:Option Addr}{n c:Nat}{f:Nat→Nat}(h:ByF S w A n c f)(k:Fr S w w')(hT:∀j,T j→S j∨w.heap.size≤j):ByF T w' A n c f:=by
 refine⟨⟨(h.1.fr k).1,fun b o h0 e ht=>?_⟩,h.2⟩
 rcases hT b ht with hs|hn
 ·exact h.1.2 b o h0 e hs
 ·obtain⟨b',o',e',hlt,_⟩:=h.1.1.2 h0
  rw[e]at e';injection e' with e';injection e' with e1 _ _;omega
theorem ByF.new{S:Nat→Prop}{w:World}{A:Option Addr}{n c B:Nat}{f:Nat→Nat}(h:ByR w w.heap.size A n c f)(hn:NewBs B A)(hS:∀j,S j→j<B):ByF S w A n c f:=
 ⟨⟨h.1,fun b o _ e hs=>by have:=hn b (by rw[e];rfl);have:=hS b hs;omega⟩,h.2⟩
theorem ByF.old{S:Nat→Prop}{w:World}{A:Option Addr}{n c B:Nat}{f:Nat→Nat}(h:ByR w B A n c f)(hB:B≤w.heap.size)(hS:∀j,S j→B≤j):ByF S w A n c f:=
 ⟨⟨h.1.more hB,fun b o h0 e hs=>by
  obtain⟨b',o',e',hlt,_⟩:=h.1.2 h0
  rw[e]at e';injection e' with e';injection e' with e1 _ _;have:=hS b hs;omega⟩,h.2⟩
def BlkT(w:World)(h0:Nat)(u:UnV):Option Blk13→Prop
 |none=>u.op=false∧u.kd=0∧u.last=false∧u.left=0∧u.c1=(fun _=>0)∧u.c2=(fun _=>0)∧OwnS w h0 u.v1 []∧OwnS w h0 u.v2 []
 |some k=>u.op=true∧GoodK k∧∃s1 s2,MayI u.kd u.left u.c1 s1 u.c2 s2∧ReadsB k u.kd u.last u.left u.c1 s1 u.c2 s2∧OwnS w h0 u.v1 s1∧OwnS w h0 u.v2 s2∧s1.length≤1000000∧s2.length≤1000000
structure UnR (w:World) (h0 p:Nat) (u:UnV) (k:Option Blk13) (g:Nat→Nat) (L:Nat) (pw out:List Nat):Prop where
 box:UnB w p u
 lo:h0≤p
 told:∃At ct,u.t=.slice At out.length ct∧w.ownsRow h0 5 1 u.t out.length (bytesL out.length (lst out))
 b:∃Ab cb,u.b=.slice Ab L cb∧ByF (TS p u.t) w Ab L cb g
 win:∃Aw cw,u.W=.slice Aw pw.length cw∧ByF (TS p u.t) w Aw pw.length cw (lst pw)
 S:u.S=32768
 blk:BlkT w h0 u k
 bout:BytesP out
 bpw:BytesP pw
 lout:out.length≤1000000
 lpw:pw.length≤32768
 lL:L≤1000000
 bit:u.bit≤8*L
 wait:u.wait≤out.length
 bel:h0≤w.heap.size
theorem OwnS.on{w w':World}{B:Nat}{v:Value}{s:List Int}(h:OwnS w B v s)(hb:Below w.heap.size w w'):OwnS w' B v s:=own_keep h hb
theorem BlkT.on{w w':World}{h0:Nat}{u:UnV}{k:Option Blk13}(h:BlkT w h0 u k)(hb:Below w.heap.size w w'):BlkT w' h0 u k:=by
 cases k with
 |none=>obtain⟨h1,h2,h3,h4,h5,h6,h7,h8⟩:=h;exact⟨h1,h2,h3,h4,h5,h6,h7.on hb,h8.on hb⟩
 |some k=>obtain⟨h1,h2,s1,s2,h3,h4,h5,h6,h7⟩:=h;exact⟨h1,h2,s1,s2,h3,h4,h5.on hb,h6.on hb,h7⟩
theorem OwnS.frA{S:Nat→Prop}{w w':World}{B:Nat}{v:Value}{s:List Int}(h:OwnS w B v s)(hb:Fr S w w')(hS:∀j,S j→v.ownBlock≠some j):OwnS w' B v s:=by
 obtain⟨h1,h2⟩:=h
 refine⟨h1,?_⟩
 rcases h2 with h2|⟨g,cap,cur,hv,hg,hh,r⟩
 ·exact .inl h2
 ·refine .inr ⟨g,cap,cur,hv,hg,(hb.block g (Array.getElem?_eq_some_iff.1 hh).1 fun hs=>hS g hs ?_).trans hh,r⟩
  subst hv;rfl
theorem ints_away{w:World}{B n p:Nat}{v t:Value}{s:List Int}{xs:List Value}{u:UnV}(h:OwnS w B v s)(hb:UnB w p u)(ht:w.ownsRow B 5 1 t n xs):∀j,TS p t j→v.ownBlock≠some j:=by
 rintro j (rfl|hj) hv
 ·exact own_type h hb (by kernel_rfl) hv
 ·rcases ht.2 with⟨rfl,_⟩|⟨g,cap,cur,rfl,hg,hh,_⟩
  ·simp[Value.ownBlock]at hj
  ·simp[Value.ownBlock]at hj
   subst hj
   exact own_type h hh (by kernel_rfl) hv
theorem BlkT.fr{w w':World}{h0 p n:Nat}{u u':UnV}{t:Value}{xs:List Value}{k:Option Blk13}(h:BlkT w h0 u k)(hb:UnB w p u')(ht:w.ownsRow h0 5 1 t n xs)(f:Fr (TS p t) w w'):BlkT w' h0 u k:=by
 cases k with
 |none=>obtain⟨h1,h2,h3,h4,h5,h6,h7,h8⟩:=h;exact⟨h1,h2,h3,h4,h5,h6,h7.frA f (ints_away h7 hb ht),h8.frA f (ints_away h8 hb ht)⟩
 |some k=>obtain⟨h1,h2,s1,s2,h3,h4,h5,h6,h7⟩:=h;exact⟨h1,h2,s1,s2,h3,h4,h5.frA f (ints_away h5 hb ht),h6.frA f (ints_away h6 hb ht),h7⟩
theorem told_ge{w:World}{h0 n:Nat}{t:Value}{xs:List Value}(h:w.ownsRow h0 5 1 t n xs){j:Nat}(hj:t.ownBlock=some j):h0≤j∧j<w.heap.size:=by
 rcases h.2 with⟨rfl,_⟩|⟨g,cap,cur,rfl,hg,hh,_⟩
 ·simp[Value.ownBlock]at hj
 ·simp[Value.ownBlock]at hj
  subst hj
  exact⟨hg,(Array.getElem?_eq_some_iff.1 hh).1⟩
section
variable {w w':World} {h0 p L:Nat} {u:UnV} {k:Option Blk13} {g:Nat→Nat} {pw out:List Nat}
theorem UnR.lt(h:UnR w h0 p u k g L pw out):∀j,TS p u.t j→j<w.heap.size:=by
 rintro j (rfl|hj)
 ·exact BoxC.lt h.box
 ·obtain⟨_,_,_,ho⟩:=h.told;exact(told_ge ho hj).2
theorem UnR.on(h:UnR w h0 p u k g L pw out)(hb:Below w.heap.size w w'):UnR w' h0 p u k g L pw out:=by
 have hf:Fr (TS p u.t) w w':=Fr.of hb
 obtain⟨At,ct,e,ho⟩:=h.told
 obtain⟨Ab,cb,e2,hB⟩:=h.b
 obtain⟨Aw,cw,e3,hW⟩:=h.win
 exact⟨BoxC.below h.box hb (BoxC.lt h.box),h.lo,⟨At,ct,e,own_keep ho hb⟩,⟨Ab,cb,e2,hB.go hf fun _ h=>.inl h⟩,⟨Aw,cw,e3,hW.go hf fun _ h=>.inl h⟩,h.S,h.blk.on hb,h.bout,h.bpw,h.lout,h.lpw,h.lL,h.bit,h.wait,Nat.le_trans h.bel hb.size⟩
theorem UnR.cells(h:UnR w h0 p u k g L pw out)(hf:Fr (At p) w w'){u':UnV}(hbox:UnB w' p u')(et:u'.t=u.t)(eb:u'.b=u.b)(eW:u'.W=u.W)(eS:u'.S=u.S){k':Option Blk13}(hk:BlkT w' h0 u' k')(hbit:u'.bit≤8*L)(hw:u'.wait≤out.length):UnR w' h0 p u' k' g L pw out:=by
 have hf2:Fr (TS p u.t) w w':=hf.mono fun j hj=>.inl hj
 obtain⟨At',ct,e,ho⟩:=h.told
 obtain⟨Ab,cb,e2,hB⟩:=h.b
 obtain⟨Aw,cw,e3,hW⟩:=h.win
 refine⟨hbox,h.lo,⟨At',ct,et.trans e,?_⟩,⟨Ab,cb,eb.trans e2,?_⟩,⟨Aw,cw,eW.trans e3,?_⟩,eS.trans h.S,hk,h.bout,h.bpw,h.lout,h.lpw,h.lL,hbit,hw,Nat.le_trans h.bel hf.size⟩
 ·rw[et]
  obtain⟨h1,h2⟩:=ho
  refine⟨h1,?_⟩
  rcases h2 with h2|⟨x,cap,cur,hv,hg,hh,r⟩
  ·exact .inl h2
  ·refine .inr ⟨x,cap,cur,hv,hg,(hf.block x (Array.getElem?_eq_some_iff.1 hh).1 fun hs=>?_).trans hh,r⟩
   have hs':x=p:=hs
   subst hs'
   have hb2:w.heap[x]?=some (.cells (unA u) 64 (0,0)):=h.box
   rw[hb2]at hh
   injection hh with hh
   injection hh with _ h4 _
   exact absurd h4 (by decide)
 ·rw[et];exact hB.go hf2 fun _ h=>.inl h
 ·rw[et];exact hW.go hf2 fun _ h=>.inl h
theorem BlkT.cells{k:Option Blk13}{w w':World}{h0 n:Nat}{u u':UnV}{t:Value}{xs:List Value}(h:BlkT w h0 u k)(hb:UnB w p u')(_ht:w.ownsRow h0 5 1 t n xs)(f:Fr (At p) w w'):BlkT w' h0 u k:=by
 cases k with
 |none=>
  obtain⟨h1,h2,h3,h4,h5,h6,h7,h8⟩:=h
  exact⟨h1,h2,h3,h4,h5,h6,h7.frA f (fun j hj=>by have hj':j=p:=hj;subst hj';exact own_type h7 hb (by kernel_rfl)),h8.frA f (fun j hj=>by have hj':j=p:=hj;subst hj';exact own_type h8 hb (by kernel_rfl))⟩
 |some k=>
  obtain⟨h1,h2,s1,s2,h3,h4,h5,h6,h7⟩:=h
  exact⟨h1,h2,s1,s2,h3,h4,h5.frA f (fun j hj=>by have hj':j=p:=hj;subst hj';exact own_type h5 hb (by kernel_rfl)),h6.frA f (fun j hj=>by have hj':j=p:=hj;subst hj';exact own_type h6 hb (by kernel_rfl)),h7⟩
theorem UnR.own(h:UnR w h0 p u k g L pw out):w.ownsRow h0 5 1 u.t out.length (bytesL out.length (lst out)):=by obtain⟨_,_,_,ho⟩:=h.told;exact ho
theorem UnR.setD(h:UnR w h0 p u k g L pw out)(x:Int):UnR (w.setCell ⟨p,1,none⟩ (.int .i64 x)) h0 p {u with D:=x} k g L pw out:=
 h.cells (Fr.cell _ _ _ _) (h.box.sD x) rfl rfl rfl rfl (h.blk.cells (h.box) h.own (Fr.cell _ _ _ _)) h.bit h.wait
theorem UnR.setWait(h:UnR w h0 p u k g L pw out)(x:Nat)(hx:x≤out.length):UnR (w.setCell ⟨p,48,none⟩ (.int .i64 (x:Int))) h0 p {u with wait:=x} k g L pw out:=
 h.cells (Fr.cell _ _ _ _) (h.box.swait x) rfl rfl rfl rfl (h.blk.cells (h.box) h.own (Fr.cell _ _ _ _)) h.bit hx
theorem UnR.setBit(h:UnR w h0 p u k g L pw out)(x:Nat)(hx:x≤8*L):UnR (w.setCell ⟨p,46,none⟩ (.int .i64 (x:Int))) h0 p {u with bit:=x} k g L pw out:=
 h.cells (Fr.cell _ _ _ _) (h.box.sbit x) rfl rfl rfl rfl (h.blk.cells (h.box) h.own (Fr.cell _ _ _ _)) hx h.wait
theorem UnR.any(h:UnR w h0 p u k g L pw out){w2:World}{u':UnV}{pw' out':List Nat}(hf:Fr (TS p u.t) w w2)(hbox:UnB w2 p u')(et:∃At ct,u'.t=.slice At out'.length ct)(ho:w2.ownsRow h0 5 1 u'.t out'.length (bytesL out'.length (lst out')))
  (hnew:∀j,u'.t.ownBlock=some j→u.t.ownBlock=some j∨w.heap.size≤j) (eb:u'.b=u.b) (hwin:∃Aw cw,u'.W=.slice Aw pw'.length cw∧ByF (TS p u'.t) w2 Aw pw'.length cw (lst pw')) (eS:u'.S=32768) (hk:BlkT w2 h0 u' k)
  (hbo:BytesP out') (hbp:BytesP pw') (hl:out'.length≤1000000) (hlp:pw'.length≤32768) (hbit:u'.bit≤8*L) (hw:u'.wait≤out'.length):UnR w2 h0 p u' k g L pw' out':=by
 obtain⟨Ab,cb,e2,hB⟩:=h.b
 obtain⟨At',ct',et⟩:=et
 exact⟨hbox,h.lo,⟨At',ct',et,ho⟩,⟨Ab,cb,eb.trans e2,hB.go hf fun j hj=>by
  rcases hj with hj|hj
  ·exact .inl (.inl hj)
  ·rcases hnew j hj with h1|h1
   ·exact .inl (.inr h1)
   ·exact .inr h1⟩,hwin,eS,hk,hbo,hbp,hl,hlp,h.lL,hbit,hw,Nat.le_trans h.bel hf.size⟩
theorem UnR.winGo(h:UnR w h0 p u k g L pw out){w2:World}{t':Value}(hf:Fr (TS p u.t) w w2)(hnew:∀j,t'.ownBlock=some j→u.t.ownBlock=some j∨w.heap.size≤j):∃Aw cw,u.W=.slice Aw pw.length cw∧ByF (TS p t') w2 Aw pw.length cw (lst pw):=by
 obtain⟨Aw,cw,e2,hB⟩:=h.win
 exact⟨Aw,cw,e2,hB.go hf fun j hj=>by
  rcases hj with hj|hj
  ·exact .inl (.inl hj)
  ·rcases hnew j hj with h1|h1
   ·exact .inl (.inr h1)
   ·exact .inr h1⟩
theorem UnR.more(h:UnR w h0 p u k g L pw out){At:Option Addr}{ct:Nat}(e:u.t=.slice At out.length ct){w1:World}{A':Option Addr}{c':Nat}{out':List Nat}(ho:w1.ownsRow h0 5 1 (.slice A' out'.length c') out'.length (bytesL out'.length (lst out')))
  (hb:Below h0 w w1) (hst:∀j,j<w.heap.size→(Value.slice At out.length ct).ownBlock≠some j→w1.heap[j]?=w.heap[j]?) (hnew:∀j,(Value.slice A' out'.length c').ownBlock=some j→(Value.slice At out.length ct).ownBlock=some j∨w.heap.size≤j)
  (hbo:BytesP out') (hl:out'.length≤1000000) (hw:u.wait≤out'.length):UnR (w1.setCell ⟨p,47,none⟩ (.slice A' out'.length c')) h0 p {u with t:=.slice A' out'.length c'} k g L pw out'∧UnB w1 p u:=by
 rw[←e]at hst hnew
 have hp:u.t.ownBlock≠some p:=own_type h.own h.box (by kernel_rfl)
 have b1:UnB w1 p u:=(hst p (BoxC.lt h.box) hp).trans h.box
 have f1:Fr (TS p u.t) w w1:=⟨hb.os,hb.tape,hb.output,hb.size,fun j hj hS=>hst j hj fun e=>hS (.inr e)⟩
 have f2:Fr (TS p u.t) w (w1.setCell ⟨p,47,none⟩ (.slice A' out'.length c')):=f1.trans ((Fr.cell w1 p 47 _).mono fun j hj=>.inl hj)
 have b2:=b1.st (.slice A' out'.length c')
 have hp':(Value.slice A' out'.length c').ownBlock≠some p:=own_type ho b1 (by kernel_rfl)
 refine⟨h.any f2 b2 ⟨_,_,rfl⟩ (own_blk ho fun j hj=>Below.heap_setCell _ _ _ j fun e'=>hp' ?_) hnew rfl (h.winGo f2 hnew) h.S ?_ hbo h.bpw hl h.lpw h.bit hw,b1⟩
 ·have e2:j=p:=e'
  rw[←e2];exact hj
 ·exact(h.blk.fr (h.box) h.own f2:BlkT _ h0 u k)
end
end Go.Proofs.YtcmpmighjglnpaaGreat
namespace Go.Proofs.YtcmpmighjglnpaaGreat
open Go.RowKit
def sinkG(l:List Oper)(F:List Nat)(n:Nat):Bool:=(List.range n).all fun i=>F.contains i||(List.range (n+1)).any fun j=>decide (i<j)&& !F.contains j&&Region.waitsFor .any l.toArray j i
theorem tail_lateG{l:List Oper}{F:List Nat}{n:Nat}{listed:Array Bool}(hs:sinkG l F n=true)(hc:Region.chainB .any l.toArray n=true)(hn:n<l.length)(inv:HeadInv .any l.toArray n listed){i:Nat}(hi:i<n)(hi0:i∉F)(hu:listed.getD i true=false):
  ∀t,n≤t→t∉Region.ready .any l.toArray listed:=by
 have hsz:listed.size=l.length:=by rw[inv.size];simp
 have key:∀(d i:Nat),d=n-i→i≤n→i∉F→listed.getD i true=false→n∈Region.ready .any l.toArray listed→i=n:=by
  intro d
  induction d using Nat.strongRecOn with
  |_ d ih=>
   intro i hd hi hi0 hu hr
   rcases Nat.eq_or_lt_of_le hi with e|hi
   ·exact e
   ·exfalso
    have h1:=List.all_eq_true.1 hs i (List.mem_range.2 hi)
    simp only[Bool.or_eq_true]at h1
    rcases h1 with h1|h1
    ·exact hi0 (by simpa using h1)
    ·obtain⟨j,hj,hj2⟩:=List.any_eq_true.1 h1
     simp only[Bool.and_eq_true,decide_eq_true_eq,Bool.not_eq_true',List.contains_eq_mem,decide_eq_false_iff_not]at hj2
     obtain⟨oj,hoj,e,he,hb,hon⟩:=Region.waitsFor_spec hj2.2
     have hjn:j≤n:=by have:=List.mem_range.1 hj;omega
     cases hl:listed.getD j false with
     |true=>
      have h2:=inv.closed j oj hoj hl e he hb
      rw[hon,getD_both hu]at h2;cases h2
     |false=>
      have hjt:=ih (n-j) (by omega) j rfl hjn hj2.1.2 (getD_in (by omega) hl) hr
      subst hjt
      obtain⟨_,ot,hot,hall⟩:=mem_ready.1 hr
      rw[hoj]at hot;cases hot
      have h2:=hall e he hb
      rw[hon,getD_both hu]at h2;cases h2
 intro t ht hr
 by_cases htn:t=n
 ·subst htn
  have:=key (t-i) i rfl (by omega) hi0 hu hr
  omega
 ·obtain⟨_,ot,hot,hall⟩:=mem_ready.1 hr
  have htl:t<l.length:=by have:=(Array.getElem?_eq_some_iff.1 hot).1;simpa using this
  have h1:=List.all_eq_true.1 hc t (List.mem_range.2 (by simpa using htl))
  simp only[Bool.or_eq_true,decide_eq_true_eq]at h1
  rcases h1 with h1|h1
  ·omega
  ·obtain⟨o',ho',e,he,hb,hon⟩:=Region.waitsFor_spec h1
   rw[hot]at ho';cases ho'
   have h2:=hall e he hb
   rw[hon,getD_both (inv.tail (t-1) (by omega) (by simp;omega))]at h2;cases h2
def FloatAt(P:Program)(l:List Oper)(T:Nat→Value→World→Prop)(a0:Act)(U:World)(Q:Exit→Act→World→Prop)(i0:Nat):Prop:=
 ∃o0 d0,l[i0]?=some o0∧o0.guard=none∧o0.dst=some d0∧(∀v c a w,Q (.panic c) (a.put o0.dst v) w→Q (.panic c) a w)∧
  ∀(a:Act) (w:World),Below U.heap.size U w→(∀s,offB l s=true→a.eval (.tmp s)=a0.eval (.tmp s))→(∀j d,Region.waitsFor .any l.toArray i0 j=true→(l[j]?).bind (·.dst)=some d→Up (T j) (a.eval (.tmp d)) w)→∃v,(∀w',(execOp a.eval o0).run P w'=.ok (.value v) w')∧Up (T i0) v w
theorem tabg_any{P:Program}{Q:Exit→Act→World→Prop}{a0:Act}{U:World}{l:List Oper}{T:Nat→Value→World→Prop}{n:Nat}{F:List Nat}(hFn:∀i∈F,i<n)(hn:n<l.length)(hs:sinkG l F n=true)(hfl:∀i∈F,floatB l i=true)(hsel:Region.noSelect l.toArray=true)(hF:∀i∈F,FloatAt P l T a0 U Q i)
   (hc:Region.chainB .any l.toArray n=true)
  (hseq:Region.seqB .any l.toArray (l.length-n) n (doneA n (l.length-n))=true) (hB:tabB l a0.tmps.size=true) (hstep:TabAll P l T a0 U 0 (l.take n))
  (hend:∀listed a w,TabInv l T a0 U listed a w→(∀i,i<n→listed.getD i false=true)→(∀i,n≤i→i<l.length→listed.getD i true=false)→wpList P l.toArray Q (l.drop n) a w):
  ∀(f:Nat) (listed:Array Bool) (a:Act) (w:World),((List.range n).filter fun i=> !listed.getD i false).length=f→TabInv l T a0 U listed a w→HeadInv .any l.toArray n listed→wpAny P .any l.toArray Q (f+(l.length-n)) listed a w:=by
 have hB':=hB
 simp only[tabB,Bool.and_eq_true,decide_eq_true_eq]at hB'
 obtain⟨⟨hnd,hin⟩,hlow⟩:=hB'
 intro f
 induction f with
 |zero=>
  intro listed a w hf inv hi
  have hup:∀i,i<n→listed.getD i false=true:=fun i hi=>by
   have h0:=List.length_eq_zero_iff.1 hf
   have h1:=List.filter_eq_nil_iff.1 h0 i (List.mem_range.2 hi)
   simpa using h1
  have hk:=hend listed a w inv hup (fun i h1 h2=>hi.tail i h1 (by simpa using h2))
  have he:=split_done (n:=n) (g:=l.length-n) (listed:=listed) (by rw[inv.size];omega) (fun i h=>by
   have h1:=hup i h
   cases h2:listed.getD i true with
   |true=>rfl
   |false=>rw[getD_both h2]at h1;cases h1) (fun t ht ht2=>hi.tail t ht (by simp;omega))
  subst he
  have h3:=wpAny_of_seq (P:=P) (md:=.any) (Q':=Q) (l.drop n) n (doneA n (l.length-n)) a w (fun j=>by simp[List.getElem?_drop]) (by rw[List.length_drop];exact hseq) hk
  rw[List.length_drop]at h3
  rw[Nat.zero_add];exact h3
 |succ f ih=>
  intro listed a w hf inv hi
  rw[show f+1+(l.length-n)=(f+(l.length-n))+1 by omega]
  obtain⟨x,hxn,hxu⟩:∃x,x<n∧listed.getD x false=false:=by
   have:0<((List.range n).filter fun i=> !listed.getD i false).length:=by omega
   obtain⟨x,hx⟩:=List.exists_mem_of_length_pos this
   obtain⟨h1,h2⟩:=List.mem_filter.1 hx
   exact⟨x,List.mem_range.1 h1,by simpa using h2⟩
  by_cases hrF:∃i0,i0∈F∧i0∈Region.ready .any l.toArray listed
  ·
   obtain⟨i0,hi0F,hr0⟩:=hrF
   have hi0n:=hFn i0 hi0F
   have hfl:=hfl i0 hi0F
   obtain⟨o0,d0,hi0,hg0,hd0,hQ0,hy0⟩:=hF i0 hi0F
   obtain⟨h0,o,ho,hafter⟩:=mem_ready.1 hr0
   have hol:l[i0]?=some o:=by simpa using ho
   have hoo:o=o0:=by rw[hi0]at hol;exact(Option.some.inj hol).symm
   subst hoo
   have hlt:i0<l.length:=(List.getElem?_eq_some_iff.1 hol).1
   have heval:∀s,offB l s=true→a.eval (.tmp s)=a0.eval (.tmp s):=fun s hs=>by
    show a.tmps.getD s undef=a0.tmps.getD s undef
    rw[Array.getD_eq_getD_getElem?,Array.getD_eq_getD_getElem?,inv.off s (fun _ _ _ hd=>offB_is hs hd)]
   have hfacts:∀j d,Region.waitsFor .any l.toArray i0 j=true→(l[j]?).bind (·.dst)=some d→Up (T j) (a.eval (.tmp d)) w:=fun j d hw hd=>by
    obtain⟨ok,hok,e,he,hb,hon⟩:=Region.waitsFor_spec hw
    rw[ho]at hok;cases hok
    exact inv.told j d (by have:=hafter e he hb;rwa[hon]at this) hd
   obtain⟨v,hv1,hv2⟩:=hy0 a w inv.below heval hfacts
   have hdlt:d0<a.tmps.size:=by
    have h1:=List.all_eq_true.1 hin o (List.mem_of_getElem? hol)
    simp only[hd0,decide_eq_true_eq]at h1
    rw[inv.tmps];exact h1
   refine wpAny_first (oi:=o) (v:=v) ho (Region.noSelect_spec hsel) (hQ0 v) (f+(l.length-n)) listed a w (fun j oj hj hne hun hno=>?_) hr0 (.inl ⟨by simp[Region.wanted,hg0],hv1⟩) ?_
   ·have hjl:j<l.length:=by have:=(Array.getElem?_eq_some_iff.1 hj).1;simpa using this
    have h1:=List.all_eq_true.1 hfl j (List.mem_range.2 hjl)
    have hj2:l[j]?=some oj:=by simpa using hj
    simp only[hi0,hj2,Bool.or_eq_true,beq_iff_eq]at h1
    rcases h1 with((h1|h1)|h1)|h1
    ·exact absurd h1 hne
    ·obtain⟨ok,hok,e,he,hb,hon⟩:=Region.waitsFor_spec h1
     rw[ho]at hok;cases hok
     have h2:=hafter e he hb
     rw[hon,getD_both hun]at h2;cases h2
    ·obtain⟨ok,hok,e,he,hb,hon⟩:=Region.waitsFor_spec h1
     rw[hj]at hok;cases hok
     exact absurd hon (hno e he hb)
    ·exact h1
   ·refine ih _ _ _ ?_ ⟨by simp[inv.size],?_,?_,inv.below,fun s hs=>?_,fun j d hl hd=>?_⟩ (hi.set hr0 hi0n)
    ·have hfe:((List.range n).filter fun i=> !(listed.setIfInBounds i0 true).getD i false)=((List.range n).filter fun i=> !listed.getD i false).erase i0:=by
      rw[List.Nodup.erase_eq_filter (List.nodup_range.filter _),List.filter_filter]
      apply List.filter_congr
      intro x hx
      by_cases e:x=i0
      ·subst e
       have:x<listed.size:=by rw[inv.size];exact hlt
       simp[this]
      ·rw[getD_set_ne false (Ne.symm e)];simp[e]
     rw[hfe,List.length_erase_of_mem (List.mem_filter.2 ⟨List.mem_range.2 hi0n,by rw[getD_both h0];rfl⟩),hf];rfl
    ·unfold Act.put;cases o.dst<;>simp[inv.tmps]
    ·unfold Act.put;cases o.dst<;>exact inv.defers
    ·rw[←inv.off s (fun j d hl hd=>hs j d (getD_set_true hl) hd),hd0]
     have e:d0≠s:=hs i0 d0 (by have:i0<listed.size:=(by rw[inv.size];exact hlt);simp[this]) (by rw[hol];simpa using hd0)
     simp[Act.put,Array.getElem?_setIfInBounds_ne e]
    ·by_cases e:j=i0
     ·subst e
      rw[hol]at hd
      have hd':o.dst=some d:=by simpa using hd
      have hdd:d=d0:=by rw[hd0]at hd';exact(Option.some.inj hd').symm
      subst hdd
      have he:(a.put o.dst v).eval (.tmp d)=v:=by rw[hd'];simp[Act.put,Act.eval,hdlt]
      rw[he];exact hv2
     ·rw[getD_set_ne false (Ne.symm e)]at hl
      have h1:=inv.told j d hl hd
      have he:(a.put o.dst v).eval (.tmp d)=a.eval (.tmp d):=Act.eval_put fun d' hd' hx=>by
       cases hx
       cases hj:l[j]? with
       |none=>rw[hj]at hd;cases hd
       |some y=>
        rw[hj]at hd
        exact e (tab_dst hnd hj hol (by simpa using hd) hd')
      rw[he];exact h1
  obtain⟨y,hyn,hy0',hyu⟩:∃y,y<n∧y∉F∧listed.getD y false=false:=by
   have key:∀x,x<n→listed.getD x false=false→∃y,y<n∧y∉F∧listed.getD y false=false:=by
    intro x
    induction x using Nat.strongRecOn with
    |_ x ihx=>
     intro hxn hxu
     by_cases e:x∈F
     ·have hex:∃o0:Oper,l[x]?=some o0∧∃e,e∈o0.after∧Region.binds .any e=true∧listed.getD e.on false≠true:=by
       refine⟨l[x]'(by omega),List.getElem?_eq_getElem (by omega),?_⟩
       apply Classical.byContradiction
       intro hno
       exact hrF ⟨x,e,mem_ready.2 ⟨getD_in (by rw[inv.size];omega) hxu,l[x]'(by omega),by simp,fun e he hb=>Classical.byContradiction fun hne=>hno ⟨e,he,hb,hne⟩⟩⟩
      obtain⟨o0,ho0,e,he,hb,hne⟩:=hex
      have h1:=List.all_eq_true.1 hlow x (List.mem_range.2 (by omega))
      simp only[ho0]at h1
      have h2:=Array.all_eq_true_iff_forall_mem.1 h1 e he
      simp only[hb,Bool.not_true,Bool.false_or,decide_eq_true_eq]at h2
      exact ihx e.on h2 (by omega) (by simpa using hne)
     ·exact⟨x,hxn,e,hxu⟩
   exact key x hxn hxu
  have hxt:listed.getD y true=false:=getD_in (by rw[inv.size];omega) hyu
  have hready:∀i,i∈Region.ready .any l.toArray listed→i<n:=fun i hr=>by
   rcases Nat.lt_or_ge i n with g|g
   ·exact g
   ·exact absurd hr (tail_lateG hs hc hn hi hyn hy0' hxt i g)
  refine⟨fun h0=>?_,fun k hk=>?_⟩
  ·exfalso
   have hall:∀i,i<l.length→listed.getD i false=true:=fun i=>by
    induction i using Nat.strongRecOn with
    |_ i ih2=>
     intro hil
     cases hu:listed.getD i false with
     |true=>rfl
     |false=>
      exfalso
      have h1:=List.all_eq_true.1 hlow i (List.mem_range.2 hil)
      have hoi:l[i]?=some l[i]:=List.getElem?_eq_getElem hil
      simp only[hoi]at h1
      have:i∈Region.ready .any l.toArray listed:=mem_ready.2 ⟨getD_in (by rw[inv.size];exact hil) hu,l[i],by simp[hil],fun e he hb=>by
       have h2:=Array.all_eq_true_iff_forall_mem.1 h1 e he
       simp only[hb,Bool.not_true,Bool.false_or,decide_eq_true_eq]at h2
       exact ih2 e.on h2 (by omega)⟩
      rw[h0]at this;cases this
   have:=hall x (by omega)
   rw[hxu]at this;cases this
  ·have hkn:=hready k hk
   obtain⟨h0,o,ho,hafter⟩:=mem_ready.1 hk
   have hol:l[k]?=some o:=by simpa using ho
   have hlt:k<l.length:=(List.getElem?_eq_some_iff.1 hol).1
   have hst:TabStep P l T a0 U k o:=by
    have:=hstep.get (j:=k) (o:=o) (by rw[List.getElem?_take_of_lt hkn];exact hol)
    rwa[Nat.zero_add]at this
   have heval:∀s,offB l s=true→a.eval (.tmp s)=a0.eval (.tmp s):=fun s hs=>by
    show a.tmps.getD s undef=a0.tmps.getD s undef
    rw[Array.getD_eq_getD_getElem?,Array.getD_eq_getD_getElem?,inv.off s (fun _ _ _ hd=>offB_is hs hd)]
   have hfacts:∀j d,Region.waitsFor .any l.toArray k j=true→(l[j]?).bind (·.dst)=some d→Up (T j) (a.eval (.tmp d)) w:=fun j d hw hd=>by
    obtain⟨ok,hok,e,he,hb,hon⟩:=Region.waitsFor_spec hw
    rw[ho]at hok;cases hok
    exact inv.told j d (by have:=hafter e he hb;rwa[hon]at this) hd
   have hdlt:∀d,o.dst=some d→d<a.tmps.size:=fun d hd=>by
    have h1:=List.all_eq_true.1 hin o (List.mem_of_getElem? hol)
    simp only[hd,decide_eq_true_eq]at h1
    rw[inv.tmps];exact h1
   have hgo:=hst a w inv.below heval hfacts (wpAny P .any l.toArray Q (f+(l.length-n)) (listed.setIfInBounds k true)) Q (fun v w' hb hv=>by
    refine ih _ _ _ ?_ ⟨by simp[inv.size],?_,?_,inv.below.trans (hb.mono inv.below.size),fun s hs=>?_,fun j d hl hd=>?_⟩ (hi.set hk hkn)
    ·have hfe:((List.range n).filter fun i=> !(listed.setIfInBounds k true).getD i false)=((List.range n).filter fun i=> !listed.getD i false).erase k:=by
      rw[List.Nodup.erase_eq_filter (List.nodup_range.filter _),List.filter_filter]
      apply List.filter_congr
      intro x hx
      by_cases e:x=k
      ·subst e
       have:x<listed.size:=by rw[inv.size];exact hlt
       simp[this]
      ·rw[getD_set_ne false (Ne.symm e)];simp[e]
     rw[hfe,List.length_erase_of_mem (List.mem_filter.2 ⟨List.mem_range.2 hkn,by rw[getD_both h0];rfl⟩),hf];rfl
    ·unfold Act.put;cases o.dst<;>simp[inv.tmps]
    ·unfold Act.put;cases o.dst<;>exact inv.defers
    ·rw[←inv.off s (fun j d hl hd=>hs j d (getD_set_true hl) hd)]
     unfold Act.put
     cases hd:o.dst with
     |none=>rfl
     |some d=>
      have e:d≠s:=hs k d (by have:k<listed.size:=(by rw[inv.size];exact hlt);simp[this]) (by rw[hol];simpa using hd)
      simp[Array.getElem?_setIfInBounds_ne e]
    ·by_cases e:j=k
     ·subst e
      rw[hol]at hd
      have hd':o.dst=some d:=by simpa using hd
      have hlt2:=hdlt d hd'
      have he:(a.put o.dst v).eval (.tmp d)=v:=by rw[hd'];simp[Act.put,Act.eval,hlt2]
      rw[he];exact hv
     ·rw[getD_set_ne false (Ne.symm e)]at hl
      have h1:=inv.told j d hl hd
      have he:(a.put o.dst v).eval (.tmp d)=a.eval (.tmp d):=Act.eval_put fun d' hd' hx=>by
       cases hx
       cases hj:l[j]? with
       |none=>rw[hj]at hd;cases hd
       |some y=>
        rw[hj]at hd
        exact e (tab_dst hnd hj hol (by simpa using hd) hd')
      rw[he];exact h1.on hb)
   unfold wpOp
   simp only[ho]
   split at hgo
   ·rename_i hw;rw[if_pos hw];exact .inl hgo
   ·rename_i hw;rw[if_neg hw];exact hgo
theorem float_move{P:Program}{o:Oper}{a:Act}(x:Operand)(ho:o.op=.move x)(v:Value)(hx:a.eval x=v):∀w',(execOp a.eval o).run P w'=.ok (.value v) w':=fun w'=>by
 unfold execOp;simp only[ho,hx];rfl
def tabgB(l:List Oper)(F:List Nat)(n m:Nat):Bool:=(F.all fun i=>decide (i<n))&&(F.all fun i=>floatB l i)&&Region.noSelect l.toArray&&decide (n<l.length)&&sinkG l F n&&Region.chainB .any l.toArray n&&Region.seqB .any l.toArray (l.length-n) n (doneA n (l.length-n))&&tabB l m
theorem wp_region_tabg{P:Program}{id:Nat}{Q:Exit→Act→World→Prop}{a0:Act}{w0:World}{l:List Oper}(n:Nat)(F:List Nat)(T:Nat→Value→World→Prop)(U:World)(hU:Below U.heap.size U w0)(hm:P.follows .mixedOrders=true)(hB:tabgB l F n a0.tmps.size=true)(hF:∀i∈F,FloatAt P l T a0 U Q i)
  (hstep:TabAll P l T a0 U 0 (l.take n))
  (hend:∀(vals:Tmp→Value) (w:World),Below U.heap.size U w→(∀j d,((l.take n)[j]?).bind (·.dst)=some d→Up (T j) (vals d) w)→wpList P l.toArray Q (l.drop n) (putL ((l.take n).map (·.dst)) vals a0) w):(Code.region id l.toArray true).wp P Q a0 w0:=by
 simp only[tabgB,Bool.and_eq_true,decide_eq_true_eq]at hB
 obtain⟨⟨⟨⟨⟨⟨⟨hFn,hfl⟩,hsel⟩,hn⟩,hs⟩,hc⟩,hseq⟩,hB⟩:=hB
 refine wp_region_any hm ?_
 have hl0:∀i,(Array.replicate l.toArray.size false).getD i false=false:=fun i=>getD_replicate_false _ _
 have hinv:HeadInv .any l.toArray n (Array.replicate l.toArray.size false):=⟨by simp,(fun j oj _ hl=>by rw[hl0]at hl;cases hl),(fun t _ ht=>by simp at ht;simp[ht])⟩
 have key:=tabg_any (P:=P) (Q:=Q) (T:=T) (U:=U) (F:=F) (fun i hi=>of_decide_eq_true (List.all_eq_true.1 hFn i hi)) hn hs (fun i hi=>List.all_eq_true.1 hfl i hi) hsel hF hc hseq hB hstep (fun listed a w inv hup htl=>by
  have ha:a=putL ((l.take n).map (·.dst)) (fun d=>a.eval (.tmp d)) a0:=by
   have hB2:=hB
   simp only[tabB,Bool.and_eq_true,decide_eq_true_eq]at hB2
   have ht:a.tmps=(putL ((l.take n).map (·.dst)) (fun d=>a.eval (.tmp d)) a0).tmps:=by
    apply Array.ext_getElem?
    intro s
    by_cases hs:some s∈(l.take n).map (·.dst)
    ·obtain⟨o,ho,hd⟩:=List.mem_map.1 hs
     have h1:=List.all_eq_true.1 hB2.1.2 o (List.mem_of_mem_take ho)
     simp only[hd,decide_eq_true_eq]at h1
     rw[putL_in _ _ _ s (.inl hs) h1]
     have h2:s<a.tmps.size:=by rw[inv.tmps];exact h1
     simp[Act.eval,h2]
    ·rw[putL_out _ _ _ s hs]
     refine inv.off s (fun j d hl hd e=>hs ?_)
     cases hj:l[j]? with
     |none=>rw[hj]at hd;cases hd
     |some y=>
      have hjl:j<l.length:=(List.getElem?_eq_some_iff.1 hj).1
      have hjn:j<n:=by
       rcases Nat.lt_or_ge j n with g|g
       ·exact g
       ·have:=getD_both (htl j g hjl)
        rw[hl]at this;cases this
      rw[hj]at hd
      exact List.mem_map.2 ⟨y,List.mem_of_getElem? (i:=j) (by rw[List.getElem?_take_of_lt hjn];exact hj),by rw[←e];simpa using hd⟩
   have hdf:a.defers=(putL ((l.take n).map (·.dst)) (fun d=>a.eval (.tmp d)) a0).defers:=by rw[putL_defers];exact inv.defers
   cases a with
   |mk t df=>
    generalize hp:putL ((l.take n).map (·.dst)) (fun d=>(Act.mk t df).eval (.tmp d)) a0=p at*
    cases p with
    |mk t2 df2=>simp only at ht hdf;rw[ht,hdf]
  rw[ha]
  refine hend _ w inv.below fun j d hd=>?_
  rcases Nat.lt_or_ge j n with g|g
  ·rw[List.getElem?_take_of_lt g]at hd
   exact inv.told j d (hup j g) hd
  ·rw[List.getElem?_eq_none (by rw[List.length_take];omega)]at hd;cases hd) n (Array.replicate l.toArray.size false) a0 w0.drew (by rw[List.filter_eq_self.2 (fun i _=>by rw[hl0];rfl)];simp) ⟨by simp,rfl,rfl,hU.drew,fun _ _=>rfl,fun j d h _=>by rw[hl0]at h;cases h⟩ hinv
 rw[show n+(l.length-n)=l.toArray.size by simp;omega]at key
 exact key
end Go.Proofs.YtcmpmighjglnpaaGreat
namespace Go.Proofs.YtcmpmighjglnpaaGreat
open Go.RowKit
theorem in_len(pw b:List Nat):inSN 32768 pw.length b.length=(winI pw b).length:=by
 unfold winI inSN keepN;rw[lastN_len,List.length_append];omega
theorem in_lst(pw b:List Nat)(j:Nat):inF 32768 pw.length (lst pw) b.length (lst b) j=lst (winI pw b) j:=by
 unfold winI inF dropN lastN
 rw[lst_drop,lst_app,List.length_append]
theorem win_bytes{pw b:List Nat}(h:BytesP pw)(k:BytesP b):BytesP (winI pw b):=lastN_mem fun x hx=>(List.mem_append.1 hx).elim (h x) (k x)
theorem upush_any(w:World)(pw b:List Nat)(Aw:Option Addr)(cw:Nat)(A2:Option Addr)(m c2:Nat)(hm:m=b.length)(h1:ByR w w.heap.size Aw pw.length cw (lst pw))(h2:ByR w w.heap.size A2 m c2 (lst b))(hpw:pw.length≤32768)(hb:b.length≤131072)(bp:BytesP pw)(bb:BytesP b):
  Calls Tryz.prog 64 #[.agg #[.int .i64 32768,.slice Aw pw.length cw],.slice A2 m c2] w fun e w'=>∃A' l' c',e=.returned (.tuple #[.agg #[.int .i64 32768,.slice A' l' c'],.int .i64 0])∧l'=(winI pw b).length∧ByR w' w'.heap.size A' l' c' (lst (winI pw b))∧NewB w' w.heap.size A' l'∧Below w.heap.size w w':=by
 subst hm
 have h:=spushW_any w 32768 Aw pw.length cw (lst pw) h1 (by omega) (by omega) A2 b.length c2 (lst b) h2
 refine h.mono ?_
 rintro e w' ⟨⟨S',A',l',c',F',e1,e2,e3,e4⟩,hb'⟩
 have e0:pushE 32768 pw.length b.length=0:=by
  unfold pushE winE;rw[if_pos (by omega),if_neg (by omega)]
 rw[e0]at e1 e4
 rw[if_pos rfl]at e4
 obtain⟨rfl,rfl,rfl⟩:=e4
 have hl:=in_len pw b
 refine⟨A',_,c',e1,hl,?_,e3,hb'⟩
 exact e2.ext (lst_lt (win_bytes bp bb)) fun j _=>in_lst pw b j
theorem copL_len(L:List Nat)(d n:Nat):(copL L d n).length=n:=by simp[copL]
theorem copL_bytes{L:List Nat}{d n:Nat}(h:BytesP L):BytesP (copL L d n):=fun x hx=>by
 unfold copL at hx
 obtain⟨i,_,rfl⟩:=List.mem_map.1 hx
 exact lst_lt h _
theorem copL_lst(L:List Nat)(d n j:Nat)(hj:j<n):copF L.length (lst L) d j=lst (copL L d n) j:=by
 unfold copF copL lst
 rw[List.getD_eq_getElem?_getD (l:=List.map _ _),List.getElem?_map,List.getElem?_range hj]
 rfl
theorem ucopy_any(w:World)(pw:List Nat)(Aw:Option Addr)(cw:Nat)(h1:ByR w w.heap.size Aw pw.length cw (lst pw))(hpw:pw.length≤32768)(bp:BytesP pw)(d:Int)(n:Nat)(hd:1≤d)(hd2:d≤32768)(hn:n≤258):
  Calls Tryz.prog 84 #[.agg #[.int .i64 32768,.slice Aw pw.length cw],.int .i64 d,.int .i64 (n:Int)] w fun e w'=>∃S' A' l' c' B' k' b',e=.returned (.tuple #[.agg #[.int .i64 S',.slice A' l' c'],.slice B' k' b',.int .i64 (if(pw.length:Int)<d then 60 else 0)])∧
   ((pw.length:Int)<d∨(S'=32768∧l'=(winI pw (copL pw d.toNat n)).length∧k'=n∧ByR w' w'.heap.size A' l' c' (lst (winI pw (copL pw d.toNat n)))∧ByR w' w'.heap.size B' k' b' (lst (copL pw d.toNat n))∧NewBs w.heap.size A'∧NewBs w.heap.size B'))∧Below w.heap.size w w':=by
 have h:=scopy_any w 32768 Aw pw.length cw (lst pw) h1 (by omega) (by omega) d (n:Int) (by omega) (by omega) (by omega) (by omega)
 refine h.mono ?_
 rintro e w' ⟨⟨S',A',l',c',F',B',k',b',G',e1,e2,e3,e4,e5,e6⟩,hb'⟩
 have e0:copyE 32768 pw.length d (n:Int)=if(pw.length:Int)<d then 60 else 0:=by
  unfold copyE winE;rw[if_pos (by omega),if_neg (by omega)]
 rw[e0]at e1 e6
 refine⟨S',A',l',c',B',k',b',e1,?_,hb'⟩
 by_cases hdist:(pw.length:Int)<d
 ·exact .inl hdist
 ·rw[if_neg hdist,if_pos rfl]at e6
  have en:((n:Int)).toNat=n:=Int.toNat_natCast n
  have e9:(32768:Int).toNat=32768:=rfl
  rw[en,e9]at e6
  obtain⟨q1,q2,q3,q4,q5⟩:=e6
  refine .inr ⟨q1,?_,q4,?_,?_,e4,e5⟩
  ·have:=in_len pw (copL pw d.toNat n)
   rw[copL_len]at this;exact q2.trans this
  ·have hx:=in_lst pw (copL pw d.toNat n)
   rw[copL_len]at hx
   refine e2.ext (lst_lt (win_bytes bp (copL_bytes bp))) fun j hj=>?_
   rw[←hx,q3]
   unfold inF cat
   split
   ·rfl
   ·rename_i h9
    refine copL_lst pw d.toNat n _ ?_
    rw[q2]at hj
    unfold inSN keepN at hj
    unfold dropN at h9⊢
    omega
  ·rw[q5]at e3
   exact e3.ext (lst_lt (copL_bytes bp)) fun j hj=>copL_lst pw d.toNat n j (by omega)
theorem tab_nil14{l:List Oper}{o:Oper}{a:Act}{w:World}{T:Value→World→Prop}{K:Act→World→Prop}{Q:Exit→Act→World→Prop}{E:Prop}(hw:Region.wanted o (yielded l.toArray a.tmps)=true)(x:Operand)(ho:o.op=.nilCheck x)(q:Addr)(hx:a.eval x=.pointer (some q))
  (hT:Up T (.pointer (some q)) w) (hK:∀v w',Below w.heap.size w w'→Up T v w'→K (a.put o.dst v) w'):if Region.wanted o (yielded l.toArray a.tmps)=true then Oper.wp Tryz.prog o a w K Q else E:=
 tab_val hw (.pointer (some q)) (by unfold execOp;simp only[ho,hx];rfl) hT hK
theorem tab_sub14{l:List Oper}{o:Oper}{a:Act}{w:World}{T:Value→World→Prop}{K:Act→World→Prop}{Q:Exit→Act→World→Prop}{E:Prop}(hw:Region.wanted o (yielded l.toArray a.tmps)=true)(t t':TypeId)(x y:Operand)(ho:o.op=.binOp .sub t x y t')(p q r:Int)(hx:a.eval x=.int .i64 p)(hy:a.eval y=.int .i64 q)(e:p-q=r)(h1: -9223372036854775808≤r)(h2:r≤9223372036854775807)
  (hT:Up T (.int .i64 r) w) (hK:∀v w',Below w.heap.size w w'→Up T v w'→K (a.put o.dst v) w'):if Region.wanted o (yielded l.toArray a.tmps)=true then Oper.wp Tryz.prog o a w K Q else E:=by
 subst e
 exact tab_bin hw .sub t t' x y ho _ _ _ hx hy (eqg_no _ _ _ _ _ _ _ (by decide) (by decide) _) (by unfold binOp;go_simp;rw[IntKind.wrap_i64];omega) hT hK
theorem tab_len14{l:List Oper}{o:Oper}{a:Act}{w:World}{T:Value→World→Prop}{K:Act→World→Prop}{Q:Exit→Act→World→Prop}{E:Prop}(hw:Region.wanted o (yielded l.toArray a.tmps)=true)(x:Operand)(ho:o.op=.call {callee:=.builtin .len,args:=#[x],argTypes:=#[22]})(A:Option Addr)(n c:Nat)(hx:a.eval x=.slice A n c)
  (hT:Up T (.int .i64 (n:Int)) w) (hK:∀v w',Below w.heap.size w w'→Up T v w'→K (a.put o.dst v) w'):if Region.wanted o (yielded l.toArray a.tmps)=true then Oper.wp Tryz.prog o a w K Q else E:=
 tab_val hw (.int .i64 (n:Int)) (by
  have h:(Builtin.len_ #[22] o.type #[.slice A n c]).run Tryz.prog w=.ok (.int .i64 (n:Int)) w:=by simp[Builtin.len_,go_sem]
  simp[execOp,ho,resolve,invoke,builtin,hx,h,Result.andThen]) hT hK
theorem tab_min14{l:List Oper}{o:Oper}{a:Act}{w:World}{T:Value→World→Prop}{K:Act→World→Prop}{Q:Exit→Act→World→Prop}{E:Prop}(hw:Region.wanted o (yielded l.toArray a.tmps)=true)(x y:Operand)(t t':TypeId)(ho:o.op=.call {callee:=.builtin .min,args:=#[x,y],argTypes:=#[t,t']})(p q r:Int)(hx:a.eval x=.int .i64 p)(hy:a.eval y=.int .i64 q)(e:min p q=r)
  (hT:Up T (.int .i64 r) w) (hK:∀v w',Below w.heap.size w w'→Up T v w'→K (a.put o.dst v) w'):if Region.wanted o (yielded l.toArray a.tmps)=true then Oper.wp Tryz.prog o a w K Q else E:=
 tab_val hw (.int .i64 r) (by
  have h:(Builtin.min_ #[t,t'] o.type #[.int .i64 p,.int .i64 q]).run Tryz.prog w=.ok (.int .i64 r) w:=by
   subst e
   simp[Builtin.min_,Builtin.min2,go_sem]
   split<;>omega
  simp[execOp,ho,resolve,invoke,builtin,hx,hy,h,Result.andThen]) hT hK
end Go.Proofs.YtcmpmighjglnpaaGreat
namespace Go.Proofs.YtcmpmighjglnpaaGreat
open Go.RowKit
def sameK(kd kd':Nat)(last last':Bool)(left left':Int)(c1 d1:Nat→Int)(s1 t1:List Int)(c2 d2:Nat→Int)(s2 t2:List Int):Bool:=((kd:Int)==(kd':Int))&&(last==last')&&(left==left')&&sameT c1 d1 s1 t1&&sameT c2 d2 s2 t2
end Go.Proofs.YtcmpmighjglnpaaGreat
namespace Go.Proofs.YtcmpmighjglnpaaGreat
open Go.RowKit
theorem rdS_nil14(w:World)(B:Nat):RdS w B (.slice none 0 0) []:=⟨none,0,rfl,⟨rfl,fun h=>absurd h (by decide)⟩,fun _=>rfl,Nat.le_refl _,Nat.zero_le _⟩
theorem szBlkL(kd:Nat)(last:Bool)(left:Int)(c1 c2:Nat→Int)(v1 v2:Value):(Tryz.prog.info? 28).map (·.size)=some (blkL kd last left c1 c2 v1 v2).length:=by rw[blkL_len];exact(zero_of_info infoBlkT).2
def begV14(n:Int):SwV:={swZ with M:=n,S:=32768}
theorem built_beg14(n:Int):Tryz.prog.built 32 [(0,.int .i64 n),(6,.agg #[.int .i64 32768,.slice none 0 0])]=some (swA (begV14 n)):=by kernel_rfl
def newV14(n:Int):SwV:=if n<0∨131072<n then swZ else begV14 n
def newE14(n:Int):Int:=if n<0∨131072<n then 2 else 0
theorem newV_B(n:Int):(newV14 n).B.length=37:=by unfold newV14;split<;>rfl
theorem swA_one{x:SwV}(hI:x.I.oneCell'=true)(hW:x.W.oneCell'=true)(hB:∀v∈x.B,v.oneCell'=true):(swA x).all (·.oneCell')=true:=by
 refine all_oneCell_toArray fun v hv=>?_
 unfold swL swP swQ at hv
 simp only[List.mem_append,List.mem_cons,List.mem_nil_iff,or_false]at hv
 rcases hv with((rfl|rfl|rfl|rfl)|hv)|(rfl|rfl|rfl|rfl)
 all_goals first|rfl|assumption|(exact hB _ hv)
theorem trL_one{c:Nat→Int}{v:Value}(h:v.oneCell'=true):∀x∈trL c v,x.oneCell'=true:=fun x hx=>by
 rcases List.mem_append.1 hx with hx|hx
 ·obtain⟨i,_,rfl⟩:=List.mem_map.1 hx;rfl
 ·rw[List.mem_singleton.1 hx];exact h
theorem blkL_one{kd:Nat}{last:Bool}{left:Int}{c1 c2:Nat→Int}{v1 v2:Value}(h1:v1.oneCell'=true)(h2:v2.oneCell'=true):∀v∈blkL kd last left c1 c2 v1 v2,v.oneCell'=true:=by
 intro v hv
 unfold blkL at hv
 simp only[List.mem_cons,List.mem_append]at hv
 rcases hv with rfl|rfl|rfl|hv|hv
 ·rfl
 ·rfl
 ·rfl
 ·exact trL_one h1 v hv
 ·exact trL_one h2 v hv
theorem swZ_one:(swA swZ).all (·.oneCell')=true:=swA_one rfl rfl (blkL_one rfl rfl)
theorem newV_one(n:Int):(swA (newV14 n)).all (·.oneCell')=true:=by unfold newV14;split<;>exact swA_one rfl rfl (blkL_one rfl rfl)
theorem cell_swl2{fn:Func}{p u:Tmp}(h:fn.results=#[.cell p 32,.tmp u])(tmps:Array Value)(w:World)(g:Nat)(cs:Array Value)(hs:cs.size=45)(hp:tmps.getD p undef=.pointer (some ⟨g,0,none⟩))(ht:w.heap[g]?=some (.cells cs 32 (0,0))):
  (results fn tmps).run Tryz.prog w=.ok (.tuple #[.agg cs,tmps.getD u undef]) w:=by
 have hp':tmps[p]?.getD undef=.pointer (some ⟨g,0,none⟩):=by simpa using hp
 have hl:=run_loadVar_row (P:=Tryz.prog) w g 32 32 cs (0,0) _ ht Tryz.underlying32 rfl (szSwl cs hs)
 simp[results,h,hp',asAddr,hl]
end Go.Proofs.YtcmpmighjglnpaaGreat
namespace Go.Proofs.YtcmpmighjglnpaaGreat
open Go.RowKit
theorem rd_part14{w:World}{B n c s m:Nat}{a:Addr}{A2:Option Addr}{f:Nat→Nat}(h:ByR w B (some a) n c f)(hs:s≤n)(hm:m≤n-s)(hA:(if c=s then some a else some (a.add s))=A2):RdB w B A2 m (dropG f s):=by
 have h1:=h.drop hs hA
 refine⟨fun j=>h.1.1 _,fun h0=>?_⟩
 obtain⟨b,o,e,hb,hc⟩:=h1.1.2 (by omega)
 refine⟨b,o,e,hb,fun j hj=>?_⟩
 rw[hc j (by omega)]
 unfold dropG;rw[Nat.add_comm]
theorem upiece_any(w:World)(h0 p:Nat)(u:UnV)(k:Option Blk13)(g:Nat→Nat)(L:Nat)(pw out:List Nat)(h:UnR w h0 p u k g L pw out):
  Calls Tryz.prog 58 #[.pointer (some ⟨p,0,none⟩)] w fun e w'=>∃A' c',e=.returned (.tuple #[.slice A' (min 600 (L-u.bit/8)) c',.int .i64 ((u.bit%8:Nat):Int)])∧RdB w' w'.heap.size A' (min 600 (L-u.bit/8)) (dropG g (u.bit/8))∧Below w.heap.size w w':=by
 obtain⟨Ab,cb,eb,hB⟩:=h.b
 have hby:=hB.r
 have hbit:=h.bit
 have hL:=h.lL
 have a1:=h.box.cbit
 have a2:=h.box.cb
 rw[eb]at a2
 clear eb hB h
 obtain⟨s,hs⟩:∃s,s=u.bit/8:=⟨_,rfl⟩
 obtain⟨r,hr⟩:∃r,r=u.bit%8:=⟨_,rfl⟩
 obtain⟨m,hm⟩:∃m,m=min 600 (L-s):=⟨_,rfl⟩
 obtain⟨bit,hbt⟩:∃b,b=u.bit:=⟨_,rfl⟩
 rw[←hbt]at a1 hbit hs hr
 rw[←hbt,←hs,←hr,←hm]
 clear hbt
 have hsL:s≤L:=by omega
 have e1:(bit:Int)/8=(s:Int):=by omega
 have e2:(bit:Int)%8=(r:Int):=by omega
 have e3:Int.tdiv (bit:Int) 8=(s:Int):=by rw[Int.tdiv_eq_ediv_of_nonneg (by omega)];exact e1
 have e4:Int.tmod (bit:Int) 8=(r:Int):=by rw[Int.tmod_eq_emod_of_nonneg (by omega)];exact e2
 obtain⟨hn0,hnc,hcm⟩:=hby.2
 unfold maxLen at hcm
 rcases Ab with _|ad
 ·obtain rfl:=hn0 rfl
  obtain rfl:L=0:=by omega
  obtain rfl:s=0:=by omega
  obtain rfl:m=0:=by omega
  have HG:=Lib.hid hby.1.1
  clear hs hr hm e1 e2 hby
  go_enter Tryz.func58,Tryz.ntmps58
  go_wp2
  go_region
  go_wp2
  refine bodyPost_ret (results_tmp2 rfl _ _ _) rfl ?_
  exact⟨none,0,rfl,⟨fun j=>HG.out _,fun h=>absurd h (by omega)⟩,(Below.refl _ _).drew⟩
 ·obtain⟨A2,hA2⟩:∃A2,(if cb=s then(some ad:Option Addr)else some (ad.add s))=A2:=⟨_,rfl⟩
  have HP:=Lib.hid (rd_part14 (m:=m) hby hsL (by omega) hA2)
  by_cases hc:s+600≤L
  ·obtain rfl:m=600:=by omega
   clear hs hr hm e1 e2 hby
   go_enter Tryz.func58,Tryz.ntmps58
   go_wp2
   go_region
   go_wp2
   refine bodyPost_ret (results_tmp2 rfl _ _ _) rfl ?_
   exact⟨A2,cb-s,by show Ending.returned (.tuple #[.slice A2 (s+600-s) (cb-s),.int .i64 (r:Int)])=_;rw[Nat.add_sub_cancel_left],HP.out,(Below.refl _ _).drew⟩
  ·obtain rfl:m=L-s:=by omega
   clear hs hr hm e1 e2 hby
   go_enter Tryz.func58,Tryz.ntmps58
   go_wp2
   go_region
   go_wp2
   refine bodyPost_ret (results_tmp2 rfl _ _ _) rfl ?_
   first|exact⟨A2,_,rfl,HP.out,(Below.refl _ _).drew⟩|exact⟨A2,⟨_,rfl⟩,HP.out,(Below.refl _ _).drew⟩|exact⟨A2,HP.out,(Below.refl _ _).drew⟩
theorem uclose_any(w:World)(h0 p:Nat)(u:UnV)(k:Blk13)(g:Nat→Nat)(L:Nat)(pw out:List Nat)(h:UnR w h0 p u (some k) g L pw out):
  Calls Tryz.prog 61 #[.pointer (some ⟨p,0,none⟩)] w fun e w'=>e=.returned (.tuple #[])∧
   UnR w' h0 p {u with ov:=k.last,kd:=0,last:=false,left:=0,c1:=fun _=>0,c2:=fun _=>0,v1:=.slice none 0 0,v2:=.slice none 0 0,op:=false} none g L pw out∧Fr (At p) w w':=by
 have el:u.last=k.last:=by obtain⟨_,_,_,_,_,h1,_⟩:=h.blk;exact h1.2.1.symm
 have a1:=h.box.cl
 have f1:=h.box.free 44
 have c44:=h.box.cov
 rw[el]at a1
 obtain⟨U1,hU1⟩:∃U1,U1=w.setCell ⟨p,44,none⟩ (.bool k.last):=⟨_,rfl⟩
 have b1:UnB U1 p {u with ov:=k.last}:=by rw[hU1];exact h.box.sov _
 have r1:Fr (At p) w U1:=by rw[hU1];exact Fr.cell _ _ _ _
 obtain⟨X,hX⟩:∃X,X=blkNil.toArray:=⟨_,rfl⟩
 have HXB:Hid (Tryz.prog.built 28 []=some X):=Lib.hid (by rw[hX];exact built_blkZ)
 have HXS:Hid (X.size=37):=Lib.hid (by rw[hX];exact blkL_len ..)
 have HXI:Hid ((Tryz.prog.info? 28).map (·.size)=some X.size):=Lib.hid (by rw[HXS.out];exact(zero_of_info infoBlkT).2)
 have HXO:Hid (X.all (·.oneCell')=true):=Lib.hid (by rw[hX];exact all_oneCell_toArray (blkL_one rfl rfl))
 obtain⟨U2,hU2⟩:∃U2,U2=U1.setCells p 4 X.toList:=⟨_,rfl⟩
 have b2:UnB U2 p {u with ov:=k.last,kd:=0,last:=false,left:=0,c1:=fun _=>0,c2:=fun _=>0,v1:=.slice none 0 0,v2:=.slice none 0 0}:=by
  rw[hU2,hX];exact b1.sB 0 false 0 (fun _=>0) (fun _=>0) (.slice none 0 0) (.slice none 0 0)
 have r2:Fr (At p) w U2:=r1.trans (by rw[hU2];exact Fr.setCells _ _ _ _ rfl)
 obtain⟨U3,hU3⟩:∃U3,U3=U2.setCell ⟨p,41,none⟩ (.bool false):=⟨_,rfl⟩
 have b3:=b2.sop false
 have r3:Fr (At p) w U3:=r2.trans (by rw[hU3];exact Fr.cell _ _ _ _)
 rw[←hU3]at b3
 have HT:Hid (U1.there p 4 X.size):=Lib.hid (by rw[HXS.out];exact b1.th 4 37 (by omega))
 have c41:=b2.cop
 have f2:=b2.free 41
 have HFIN:=Lib.hid (h.cells r3 b3 rfl rfl rfl rfl (k':=none) ⟨rfl,rfl,rfl,rfl,rfl,rfl,World.ownsRow_nil _ _ _ _,World.ownsRow_nil _ _ _ _⟩ h.bit h.wait)
 have HU1:=Lib.hid hU1;have HU2:=Lib.hid hU2;have HU3:=Lib.hid hU3;have HR3:=Lib.hid r3
 clear h hU1 b1 r1 el hX hU2 b2 r2 hU3 b3 r3
 go_enter Tryz.func61,Tryz.ntmps61
 go_wp2_with (first
  |(rw[←HU1.out])
  |(rw[←HU3.out])
  |(refine wpList_buildTo rfl 28 #[] rfl (some 14) rfl X ?_ ?_;focus(simpa[Act.eval]using HXB.out))
  |(refine wpList_store_mid rfl _ _ _ rfl p 4 X rfl rfl HT.out HXI.out HXO.out ?_;rw[←HU2.out])
  |fail)
 go_end0
 exact⟨rfl,HFIN.out,HR3.out⟩
end Go.Proofs.YtcmpmighjglnpaaGreat
namespace Go.Proofs.YtcmpmighjglnpaaGreat
open Go.RowKit
theorem ByF.newB{S:Nat→Prop}{w:World}{A:Option Addr}{n c B:Nat}{f:Nat→Nat}(h:ByR w w.heap.size A n c f)(hn:NewB w B A n)(hS:∀j,S j→j<B):ByF S w A n c f:=
 ⟨⟨h.1,fun b o h0 e hs=>by
  obtain⟨g,o',cur,e',hg,_⟩:=hn h0
  rw[e]at e';injection e' with e';injection e' with e1 _ _;have:=hS b hs;omega⟩,h.2⟩
def winO(pw out:List Nat)(wait:Nat):List Nat:=winI pw (out.drop (out.length-wait))
structure SetD (w:World) (h0 p:Nat) (u:UnV) (k:Option Blk13) (g:Nat→Nat) (L:Nat) (pw out:List Nat) (e:Ending) (w':World):Prop where
 ret:e=.returned (.tuple #[])
 ok:∃u',UnR w' h0 p u' k g L (winO pw out u.wait) out∧u'.M=u.M∧u'.D=u.D∧u'.I=u.I∧u'.a=u.a∧u'.ov=u.ov∧u'.bit=u.bit∧u'.wait=0∧∃A' c',u'.W=.slice A' (winO pw out u.wait).length c'∧NewB w' h0 A' (winO pw out u.wait).length
 bel:Below h0 w w'
 fr:Fr (At p) w w'
theorem usettle_any(w:World)(h0 p:Nat)(u:UnV)(k:Option Blk13)(g:Nat→Nat)(L:Nat)(pw out:List Nat)(h:UnR w h0 p u k g L pw out)(ho:out.length≤131072):
  Calls Tryz.prog 40 #[.pointer (some ⟨p,0,none⟩)] w fun e w'=>SetD w h0 p u k g L pw out e w':=by
 obtain⟨Ao,ct,et,_⟩:=h.told
 obtain⟨Aw,cw,eW,hW⟩:=h.win
 obtain⟨q,hq⟩:∃q,q=out.length:=⟨_,rfl⟩
 obtain⟨n,hn⟩:∃n,n=pw.length:=⟨_,rfl⟩
 obtain⟨wt,hwt⟩:∃x,x=u.wait:=⟨_,rfl⟩
 obtain⟨d,hd⟩:∃d,d=q-wt:=⟨_,rfl⟩
 obtain⟨PN,hPN⟩:∃x,x=winO pw out u.wait:=⟨_,rfl⟩
 obtain⟨m,hm⟩:∃m,m=PN.length:=⟨_,rfl⟩
 obtain⟨A2,hA2⟩:∃A2,(if ct=d then Ao else Ao.map (·.add d))=A2:=⟨_,rfl⟩
 have hle:=h.wait
 have hcap:q≤ct:=by have o:=h.own;rw[et]at o;have:=(own_cap o).1;omega
 have CW:Hid (∀V,Below w.heap.size w V→V.rangeAt p 42 [.int .i64 32768,.slice Aw n cw]):=Lib.hid fun V hV=>by
  have r:=(h.on hV).box.rW
  rw[h.S,eW,←hn]at r;exact r
 have CT:Hid (∀V,Below w.heap.size w V→V.cell? ⟨p,47,none⟩=some (.slice Ao q ct)):=Lib.hid fun V hV=>by
  have r:=(h.on hV).box.ct
  rw[et,←hq]at r;exact r
 have CWT:Hid (∀V,Below w.heap.size w V→V.cell? ⟨p,48,none⟩=some (.int .i64 (wt:Int))):=Lib.hid fun V hV=>by
  have r:=(h.on hV).box.cwait
  rw[←hwt]at r;exact r
 have ED:Hid ((q:Int)-(wt:Int)=(d:Int)):=Lib.hid (by omega)
 have EQ:Hid (d≤1000000):=Lib.hid (by omega)
 have ELE:Hid (d≤q):=Lib.hid (by omega)
 have EA2:=Lib.hid hA2
 have PU:Hid (∀V,Below w.heap.size w V→Calls Tryz.prog 64 #[.agg #[.int .i64 32768,.slice Aw n cw],.slice A2 (q-d) (ct-d)] V fun e w'=>∃A' l' c',e=.returned (.tuple #[.agg #[.int .i64 32768,.slice A' l' c'],.int .i64 0])∧l'=m∧ByR w' w'.heap.size A' l' c' (lst PN)∧NewB w' w.heap.size A' l'∧Below V.heap.size V w'):=Lib.hid fun V hV=>by
  have hU:=h.on hV
  have b1:ByR V V.heap.size Aw pw.length cw (lst pw):=by
   obtain⟨Aw',cw',e',hb'⟩:=hU.win
   rw[eW]at e';injection e' with e1 _ e2;rw[e1,e2];exact hb'.r
  have o:=hU.own
  rw[et]at o
  have b2:ByR V V.heap.size Ao q ct (lst out):=by rw[hq];exact ByR.of_own o (lst_lt h.bout)
  have b3:ByR V V.heap.size A2 (q-d) (ct-d) (lst (out.drop d)):=by
   rcases Ao with _|ad
   ·have hc0:=b2.2.1 rfl
    have hq0:q=0:=by have:=b2.2.2.1;omega
    have hd0:d=0:=by omega
    subst hc0;subst hq0;subst hd0
    have:A2=none:=by rw[←hA2];rfl
    rw[this]
    exact ByR.nil _ _ _ (lst_lt fun x hx=>h.bout x (List.mem_of_mem_drop hx))
   ·have:=b2.drop (p:=d) (by omega) (A2:=A2) (by rw[←hA2];rfl)
    refine this.ext (lst_lt fun x hx=>h.bout x (List.mem_of_mem_drop hx)) fun j _=>?_
    rw[lst_drop]
  have hp:=upush_any V pw (out.drop d) Aw cw A2 (q-d) (ct-d) (by rw[List.length_drop,←hq]) b1 b3 h.lpw (by rw[List.length_drop];omega) h.bpw (fun x hx=>h.bout x (List.mem_of_mem_drop hx))
  rw[←hn]at hp
  have ePN:winI pw (out.drop d)=PN:=by rw[hPN,hd,hq,hwt];rfl
  rw[ePN,←hm]at hp
  exact hp.mono fun e w' ⟨A',l',c',x1,x2,x3,x4,x5⟩=>⟨A',l',c',x1,x2,x3,(fun h9=>by obtain⟨g',o',cur,y1,y2,y3⟩:=x4 h9;exact⟨g',o',cur,y1,Nat.le_trans hV.size y2,y3⟩),x5⟩
 have HH:=Lib.hid h;have HQ:=Lib.hid hq;have HN:=Lib.hid hn;have HWT:=Lib.hid hwt;have HPN:=Lib.hid hPN;have HM:=Lib.hid hm
 clear h hq hn hwt hPN hm hd hA2 hle hcap et eW hW ho
 go_enter Tryz.func40,Tryz.ntmps40
 go_wp2
 refine wp_region_tabf 28 24 _ rfl rfl 26 rfl (tabT [fun v _=>v=.pointer (some ⟨p,0,none⟩),fun v _=>v=.pointer (some ⟨p,0,none⟩),fun v _=>v=.pointer (some ⟨p,0,none⟩),fun v _=>v=.pointer (some ⟨p,0,none⟩),fun v _=>v=.pointer (some ⟨p,42,none⟩),fun v _=>v=.agg #[.int .i64 32768,.slice Aw n cw],fun v _=>v=.pointer (some ⟨p,0,none⟩),fun v _=>v=.pointer (some ⟨p,0,none⟩),fun v _=>v=.pointer (some ⟨p,47,none⟩),fun v _=>v=.slice Ao q ct,fun v _=>v=.pointer (some ⟨p,0,none⟩),fun v _=>v=.pointer (some ⟨p,0,none⟩),fun v _=>v=.pointer (some ⟨p,47,none⟩),fun v _=>v=.slice Ao q ct,fun v _=>v=.int .i64 (q:Int),fun v _=>v=.pointer (some ⟨p,0,none⟩),fun v _=>v=.pointer (some ⟨p,0,none⟩),fun v _=>v=.pointer (some ⟨p,48,none⟩),fun v _=>v=.int .i64 (wt:Int),fun v _=>v=.int .i64 (d:Int),fun v _=>v=.slice A2 (q-d) (ct-d),fun v W=>∃A' l' c',v=.tuple #[.agg #[.int .i64 32768,.slice A' l' c'],.int .i64 0]∧l'=m∧ByR W W.heap.size A' l' c' (lst PN)∧NewB W w.heap.size A' l',fun v W=>∃A' l' c',v=.tuple #[.agg #[.int .i64 32768,.slice A' l' c'],.int .i64 0]∧l'=m∧ByR W W.heap.size A' l' c' (lst PN)∧NewB W w.heap.size A' l',fun v W=>∃A' l' c',v=.agg #[.int .i64 32768,.slice A' l' c']∧l'=m∧ByR W W.heap.size A' l' c' (lst PN)∧NewB W w.heap.size A' l',fun v _=>v=.int .i64 0,fun v _=>v=.pointer (some ⟨p,0,none⟩),fun v _=>v=.pointer (some ⟨p,0,none⟩),fun v _=>v=.pointer (some ⟨p,42,none⟩)]) w (Below.refl _ _) (by kernel_rfl) (by kernel_rfl) (fun _ _ _ _ h=>h) (fun aa wv hb ha hS=>by have hs:=hS 22 2 (by kernel_rfl) rfl;obtain⟨A',l',c',e1,r1,r2,r3⟩:=hs.here;exact⟨_,float_extract _ _ rfl _ _ e1 (fun w=>by go_simp),up_eq rfl⟩) ?_ ?_
 case refine_1=>
  simp only[List.take_succ_cons,List.take_zero]
  refine TabAll.cons (fun aa wv hb ha hS Kk Qq hK=>tab_move (tab_free rfl) _ rfl (up_eq ((ha 0 (by kernel_rfl)).trans rfl)) hK) ?_
  refine TabAll.cons (fun aa wv hb ha hS Kk Qq hK=>tab_move (tab_free rfl) _ rfl (up_eq ((ha 0 (by kernel_rfl)).trans rfl)) hK) ?_
  refine TabAll.cons (fun aa wv hb ha hS Kk Qq hK=>tab_nil14 (tab_free rfl) _ rfl ⟨p,0,none⟩ (show aa.eval (.tmp 4)=.pointer (some ⟨p,0,none⟩)from(hS 1 4 (by kernel_rfl) rfl).here) (up_eq rfl) hK) ?_
  refine TabAll.cons (fun aa wv hb ha hS Kk Qq hK=>tab_field (tab_free rfl) _ _ _ rfl _ (.pointer (some ⟨p,0,none⟩)) (show aa.eval (.tmp 5)=.pointer (some ⟨p,0,none⟩)from(hS 2 5 (by kernel_rfl) rfl).here) (by go_simp) (up_eq rfl) hK) ?_
  refine TabAll.cons (fun aa wv hb ha hS Kk Qq hK=>tab_field (tab_free rfl) _ _ _ rfl _ (.pointer (some ⟨p,42,none⟩)) (show aa.eval (.tmp 6)=.pointer (some ⟨p,0,none⟩)from(hS 3 6 (by kernel_rfl) rfl).here) (by go_simp) (up_eq rfl) hK) ?_
  refine TabAll.cons (fun aa wv hb ha hS Kk Qq hK=>tab_row (tab_free rfl) _ _ rfl p 42 (show aa.eval (.tmp 7)=.pointer (some ⟨p,42,none⟩)from(hS 4 7 (by kernel_rfl) rfl).here) [.int .i64 32768,.slice Aw n cw] _ (CW.out wv hb) Tryz.underlying30 rfl ((zero_of_info infoWin14).2) (up_eq rfl) hK) ?_
  refine TabAll.cons (fun aa wv hb ha hS Kk Qq hK=>tab_move (tab_free rfl) _ rfl (up_eq ((ha 0 (by kernel_rfl)).trans rfl)) hK) ?_
  refine TabAll.cons (fun aa wv hb ha hS Kk Qq hK=>tab_nil14 (tab_free rfl) _ rfl ⟨p,0,none⟩ (show aa.eval (.tmp 9)=.pointer (some ⟨p,0,none⟩)from(hS 6 9 (by kernel_rfl) rfl).here) (up_eq rfl) hK) ?_
  refine TabAll.cons (fun aa wv hb ha hS Kk Qq hK=>tab_field (tab_free rfl) _ _ _ rfl _ (.pointer (some ⟨p,47,none⟩)) (show aa.eval (.tmp 10)=.pointer (some ⟨p,0,none⟩)from(hS 7 10 (by kernel_rfl) rfl).here) (by go_simp) (up_eq rfl) hK) ?_
  refine TabAll.cons (fun aa wv hb ha hS Kk Qq hK=>tab_load (tab_free rfl) _ _ rfl _ (.slice Ao q ct) (show aa.eval (.tmp 11)=.pointer (some ⟨p,47,none⟩)from(hS 8 11 (by kernel_rfl) rfl).here) (by have hc:=CT.out wv hb;go_simp) (up_eq rfl) hK) ?_
  refine TabAll.cons (fun aa wv hb ha hS Kk Qq hK=>tab_move (tab_free rfl) _ rfl (up_eq ((ha 0 (by kernel_rfl)).trans rfl)) hK) ?_
  refine TabAll.cons (fun aa wv hb ha hS Kk Qq hK=>tab_nil14 (tab_free rfl) _ rfl ⟨p,0,none⟩ (show aa.eval (.tmp 13)=.pointer (some ⟨p,0,none⟩)from(hS 10 13 (by kernel_rfl) rfl).here) (up_eq rfl) hK) ?_
  refine TabAll.cons (fun aa wv hb ha hS Kk Qq hK=>tab_field (tab_free rfl) _ _ _ rfl _ (.pointer (some ⟨p,47,none⟩)) (show aa.eval (.tmp 14)=.pointer (some ⟨p,0,none⟩)from(hS 11 14 (by kernel_rfl) rfl).here) (by go_simp) (up_eq rfl) hK) ?_
  refine TabAll.cons (fun aa wv hb ha hS Kk Qq hK=>tab_load (tab_free rfl) _ _ rfl _ (.slice Ao q ct) (show aa.eval (.tmp 15)=.pointer (some ⟨p,47,none⟩)from(hS 12 15 (by kernel_rfl) rfl).here) (by have hc:=CT.out wv hb;go_simp) (up_eq rfl) hK) ?_
  refine TabAll.cons (fun aa wv hb ha hS Kk Qq hK=>tab_len14 (tab_free rfl) _ rfl Ao q ct (show aa.eval (.tmp 16)=.slice Ao q ct from(hS 13 16 (by kernel_rfl) rfl).here) (up_eq rfl) hK) ?_
  refine TabAll.cons (fun aa wv hb ha hS Kk Qq hK=>tab_move (tab_free rfl) _ rfl (up_eq ((ha 0 (by kernel_rfl)).trans rfl)) hK) ?_
  refine TabAll.cons (fun aa wv hb ha hS Kk Qq hK=>tab_nil14 (tab_free rfl) _ rfl ⟨p,0,none⟩ (show aa.eval (.tmp 18)=.pointer (some ⟨p,0,none⟩)from(hS 15 18 (by kernel_rfl) rfl).here) (up_eq rfl) hK) ?_
  refine TabAll.cons (fun aa wv hb ha hS Kk Qq hK=>tab_field (tab_free rfl) _ _ _ rfl _ (.pointer (some ⟨p,48,none⟩)) (show aa.eval (.tmp 19)=.pointer (some ⟨p,0,none⟩)from(hS 16 19 (by kernel_rfl) rfl).here) (by go_simp) (up_eq rfl) hK) ?_
  refine TabAll.cons (fun aa wv hb ha hS Kk Qq hK=>tab_load (tab_free rfl) _ _ rfl _ (.int .i64 (wt:Int)) (show aa.eval (.tmp 20)=.pointer (some ⟨p,48,none⟩)from(hS 17 20 (by kernel_rfl) rfl).here) (by have hc:=CWT.out wv hb;go_simp) (up_eq rfl) hK) ?_
  refine TabAll.cons (fun aa wv hb ha hS Kk Qq hK=>tab_sub14 (tab_free rfl) _ _ _ _ rfl (q:Int) (wt:Int) (d:Int) (show aa.eval (.tmp 17)=.int .i64 (q:Int)from(hS 14 17 (by kernel_rfl) rfl).here) (show aa.eval (.tmp 21)=.int .i64 (wt:Int)from(hS 18 21 (by kernel_rfl) rfl).here) ED.out (by omega) (by have:=EQ.out;omega) (up_eq rfl) hK) ?_
  refine TabAll.cons (fun aa wv hb ha hS Kk Qq hK=>tab_slice (tab_free rfl) _ _ _ _ _ rfl (.slice Ao q ct) (.slice A2 (q-d) (ct-d)) (some (.int .i64 (d:Int))) none none (show aa.eval (.tmp 12)=.slice Ao q ct from(hS 9 12 (by kernel_rfl) rfl).here) (by have e:=(show aa.eval (.tmp 22)=.int .i64 (d:Int)from(hS 19 22 (by kernel_rfl) rfl).here);simp[e]) rfl rfl (run_from Ao A2 q ct d ELE.out EA2.out wv) (up_eq rfl) hK) ?_
  refine TabAll.cons (fun aa wv hb ha hS Kk Qq hK=>tab_call (tab_free rfl) 64 _ _ rfl (enters_of Tryz.func64 (by kernel_rfl) rfl) #[.agg #[.int .i64 32768,.slice Aw n cw],.slice A2 (q-d) (ct-d)] (by simp[(show aa.eval (.tmp 8)=.agg #[.int .i64 32768,.slice Aw n cw]from(hS 5 8 (by kernel_rfl) rfl).here),(show aa.eval (.tmp 23)=.slice A2 (q-d) (ct-d)from(hS 20 23 (by kernel_rfl) rfl).here)]) (PU.out wv hb) (fun ee w' ⟨A',l',c',h1,h2,h3,h4,h5⟩=>⟨_,h1,h5,fun W hW=>⟨A',l',c',rfl,h2,(h3.below hW (Nat.le_refl _)).more hW.size,h4.below hW (Nat.le_refl _)⟩⟩) hK) ?_
  refine TabAll.cons (fun aa wv hb ha hS Kk Qq hK=>tab_move (tab_free rfl) _ rfl (hS 21 24 (by kernel_rfl) rfl) hK) ?_
  refine TabAll.cons (fun aa wv hb ha hS Kk Qq hK=>by have hs:=hS 22 2 (by kernel_rfl) rfl;obtain⟨A',l',c',e1,r1,r2,r3⟩:=hs.here;exact tab_extract (tab_free rfl) _ _ rfl _ _ e1 (by go_simp) (fun W hW=>⟨A',l',c',rfl,r1,(r2.below hW (Nat.le_refl _)).more hW.size,r3.below hW (Nat.le_refl _)⟩) hK) ?_
  refine TabAll.cons (fun aa wv hb ha hS Kk Qq hK=>by have hs:=hS 22 2 (by kernel_rfl) rfl;obtain⟨A',l',c',e1,r1,r2,r3⟩:=hs.here;exact tab_extract (tab_free rfl) _ _ rfl _ _ e1 (by go_simp) (up_eq rfl) hK) ?_
  refine TabAll.cons (fun aa wv hb ha hS Kk Qq hK=>tab_nil14 (tab_free rfl) _ rfl ⟨p,0,none⟩ (show aa.eval (.tmp 3)=.pointer (some ⟨p,0,none⟩)from(hS 0 3 (by kernel_rfl) rfl).here) (up_eq rfl) hK) ?_
  refine TabAll.cons (fun aa wv hb ha hS Kk Qq hK=>tab_field (tab_free rfl) _ _ _ rfl _ (.pointer (some ⟨p,0,none⟩)) (show aa.eval (.tmp 27)=.pointer (some ⟨p,0,none⟩)from(hS 25 27 (by kernel_rfl) rfl).here) (by go_simp) (up_eq rfl) hK) ?_
  refine TabAll.cons (fun aa wv hb ha hS Kk Qq hK=>tab_field (tab_free rfl) _ _ _ rfl _ (.pointer (some ⟨p,42,none⟩)) (show aa.eval (.tmp 28)=.pointer (some ⟨p,0,none⟩)from(hS 26 28 (by kernel_rfl) rfl).here) (by go_simp) (up_eq rfl) hK) ?_
  exact TabAll.nil
 intro vals w5 hb hv
 obtain⟨A',l',c',e25,r1,r2,r3⟩:=(hv 23 25 rfl).here
 have e29:vals 29=.pointer (some ⟨p,42,none⟩):=(hv 27 29 rfl).here
 have hU:=HH.out.on hb
 obtain⟨w6,hw6⟩:∃W,W=w5.setCells p 42 [.int .i64 32768,.slice A' l' c']:=⟨_,rfl⟩
 have b6:=hU.box.sW 32768 (.slice A' l' c')
 have f6:Fr (At p) w5 w6:=by rw[hw6];exact Fr.setCells _ _ _ _ rfl
 rw[←hw6]at b6
 have f6':Fr (TS p u.t) w5 w6:=f6.mono fun j hj=>.inl hj
 have hS:=hU.lt
 have hlt:=HH.out.lt
 have hmB:BytesP PN:=by
  rw[HPN.out];exact win_bytes HH.out.bpw fun x hx=>HH.out.bout x (List.mem_of_mem_drop hx)
 have hmL:PN.length≤32768:=by rw[HPN.out];unfold winO winI;exact lastN_le _ _
 have eM:=HM.out
 have ho6:=own_blk hU.own (w':=w6) fun j hj=>f6.block j (hS j (.inr hj)) fun e=>by
  have e':j=p:=e
  rw[e']at hj
  exact own_type hU.own hU.box (by kernel_rfl) hj
 have hwin:∃Aw' cw',({u with S:=32768,W:=.slice A' l' c'}:UnV).W=.slice Aw' PN.length cw'∧ByF (TS p u.t) w6 Aw' PN.length cw' (lst PN):=by
  rw[r1,eM]at r2 r3
  refine⟨A',c',by rw[r1,eM],?_⟩
  have q:ByF (TS p u.t) w5 A' PN.length c' (lst PN):=ByF.newB r2 r3 hlt
  exact q.go f6' fun _ h=>.inl h
 have h6:UnR w6 h0 p {u with S:=32768,W:=.slice A' l' c'} k g L PN out:=
  hU.any f6' b6 (by obtain⟨x,y,z,_⟩:=hU.told;exact⟨x,y,z⟩) ho6 (fun j hj=>Or.inl hj) rfl hwin rfl (hU.blk.fr hU.box hU.own f6':BlkT w6 h0 u k) hU.bout hmB hU.lout hmL hU.bit hU.wait
 obtain⟨w7,hw7⟩:∃W,W=w6.setCell ⟨p,48,none⟩ (.int .i64 0):=⟨_,rfl⟩
 have h7:UnR (w6.setCell ⟨p,48,none⟩ (.int .i64 0)) h0 p {u with S:=32768,W:=.slice A' l' c',wait:=0} k g L PN out:=h6.setWait 0 (Nat.zero_le _)
 rw[←hw7]at h7
 have f7:Fr (At p) w5 w7:=f6.trans (by rw[hw7];exact Fr.cell _ _ _ _)
 have hb7:Below h0 w w7:=(hb.mono HH.out.bel).trans (f7.below (fun j hj=>by have e':j=p:=hj;rw[e'];exact HH.out.lo) hU.bel)
 have hnw:NewB w7 h0 A' PN.length:=fun h9=>by
  rw[r1,eM]at r3
  obtain⟨g',o',cur,y1,y2,y3⟩:=r3 h9
  have hbel:=HH.out.bel
  have hlp:=HH.out.lt p (.inl rfl)
  exact⟨g',o',cur,y1,by omega,(f7.block g' (Array.getElem?_eq_some_iff.1 y3).1 fun e=>by have e':g'=p:=e;omega).trans y3⟩
 have ec48:=h6.box.cwait
 have ef48:=h6.box.free 48
 have HT:Hid (w5.there p 42 2):=Lib.hid (hU.box.th 42 2 (by omega))
 have HFIN:Hid (SetD w h0 p u k g L pw out (.returned (.tuple #[])) w7):=Lib.hid ⟨rfl,⟨{u with S:=32768,W:=.slice A' l' c',wait:=0},by rw[←HPN.out];exact h7,rfl,rfl,rfl,rfl,rfl,rfl,rfl,A',c',by rw[←HPN.out,←eM,←r1],by rw[←HPN.out];exact hnw⟩,hb7,(Fr.of hb).trans f7⟩
 have HW6:=Lib.hid hw6;have HW7:=Lib.hid hw7
 clear hw6 hw7 b6 f6 f6' hS hlt hmB hmL eM ho6 hwin h6 h7 f7 hb7 hnw hU r1 r2 r3 hb hv
 simp only[List.take_succ_cons,List.take_zero,List.drop_succ_cons,List.drop_zero,List.map_cons,List.map_nil,putL,Act.put,List.setIfInBounds_toArray,List.set_cons_zero,List.set_cons_succ,e25,e29]
 clear e25 e29
 go_wp2_with (first
  |(rw[←HW7.out])
  |(refine wpList_store_mid rfl _ _ _ rfl p 42 #[.int .i64 32768,.slice A' l' c'] rfl rfl HT.out ((zero_of_info infoWin14).2) (by simp[Value.oneCell']) ?_;rw[←HW6.out])
  |fail)
 go_end0
 exact HFIN.out
end Go.Proofs.YtcmpmighjglnpaaGreat
