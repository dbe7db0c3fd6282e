/-
  Words and walks.
-/
import Derived.KernelRfl
import Derived.ChangeKeysEq
import Derived.Laws.StructEq
import Derived.Deep.MidRow
import Derived.Deep.WholeRow
import Derived.OneCell
import Derived.Lib.SlBytesConst
import Derived.Deep.DeepCutAuto
import Derived.Great.BuildSlice
import Derived.Test.YtokpcpjnihinfaaGreatpnaa
import Derived.Test.YtokpcpjnihinfaaGreatpnab
import Derived.Test.YtokpcpjnihinfaaGreatpnac
import Derived.Test.YtokpcpjnihinfaaGreatpnae
import Derived.Test.YtokpcpjnihinfaaGreatpnah
import Derived.Test.YtokpcpjnihinfaaGreatpnai
set_option maxRecDepth 100000
set_option maxHeartbeats 16000000
namespace Go.Proofs.YtokpcpjnihinfaaGreat
open Go.RowKit
def wrtEP(p:Prs)(n:Nat):Int:=if askP p≠0 then askP p else if 131072<n then 4 else 0
def allE(s h m:Int)(n:Nat):Int:=if mayS s h m=false then 8 else if 131072<n then 4 else 0
def PrsOut(w w':World)(e:Ending)(r:Prs×List Nat)(E:Int):Prop:=∃Ah hc Aw wc Ap pc Ao oc,e=.returned (.tuple #[.agg (prsA r.1 Ah hc Aw wc Ap pc),.slice Ao r.2.length oc,.int .i64 E])∧PrsR w' w'.heap.size r.1 Ah hc Aw wc Ap pc∧ByR w' w'.heap.size Ao r.2.length oc (lst r.2)∧Below w.heap.size w w'∧
 NewB w' w.heap.size Ah r.1.hist.length∧NewB w' w.heap.size Aw r.1.wait.length
def PNewCon:Prop:=∀(w:World) (s h m:Int) (z:Bool),Calls Tryz.prog 11 #[.agg #[.int .i64 s,.int .i64 h,.int .i64 m,.bool z]] w fun e w'=>∃Ah hc Aw wc Ap pc,e=.returned (.tuple #[.agg (prsA (begV s h m z) Ah hc Aw wc Ap pc),.int .i64 (begE s h m)])∧PrsR w' w'.heap.size (begV s h m z) Ah hc Aw wc Ap pc∧Below w.heap.size w w'
def PCheckCon:Prop:=∀(w:World) (p:Prs) (Ah:Option Addr) (hc:Nat) (Aw:Option Addr) (wc:Nat) (Ap:Option Addr) (pc:Nat),PrsR w w.heap.size p Ah hc Aw wc Ap pc→Calls Tryz.prog 16 #[.agg (prsA p Ah hc Aw wc Ap pc)] w fun e w'=>e=.returned (.int .i64 (chkP p))∧Below w.heap.size w w'
def PWriteCon:Prop:=∀(w:World) (p:Prs) (Ah:Option Addr) (hc:Nat) (Aw:Option Addr) (wc:Nat) (Ap:Option Addr) (pc:Nat) (Ab:Option Addr) (bc:Nat) (b:List Nat),PrsR w w.heap.size p Ah hc Aw wc Ap pc→ByR w w.heap.size Ab b.length bc (lst b)→p.hist.length≤1000000→p.wait.length≤1000000→b.length≤1000000→
 Calls Tryz.prog 12 #[.agg (prsA p Ah hc Aw wc Ap pc),.slice Ab b.length bc] w fun e w'=>PrsOut w w' e (ansP (wrtEP p b.length) (writeP p b)) (wrtEP p b.length)
def PFlushCon:Prop:=∀(w:World) (p:Prs) (Ah:Option Addr) (hc:Nat) (Aw:Option Addr) (wc:Nat) (Ap:Option Addr) (pc:Nat),PrsR w w.heap.size p Ah hc Aw wc Ap pc→p.hist.length≤1000000→p.wait.length≤1000000→
 Calls Tryz.prog 13 #[.agg (prsA p Ah hc Aw wc Ap pc)] w fun e w'=>PrsOut w w' e (ansP (askP p) (flushedP p)) (askP p)
def PFinishCon:Prop:=∀(w:World) (p:Prs) (Ah:Option Addr) (hc:Nat) (Aw:Option Addr) (wc:Nat) (Ap:Option Addr) (pc:Nat),PrsR w w.heap.size p Ah hc Aw wc Ap pc→p.hist.length≤1000000→p.wait.length≤1000000→
 Calls Tryz.prog 14 #[.agg (prsA p Ah hc Aw wc Ap pc)] w fun e w'=>PrsOut w w' e (ansP (askP p) (finP p)) (askP p)
def PAllCon:Prop:=∀(w:World) (s h m:Int) (z:Bool) (Ab:Option Addr) (bc:Nat) (b:List Nat),ByR w w.heap.size Ab b.length bc (lst b)→b.length≤1000000→
 Calls Tryz.prog 9 #[.agg #[.int .i64 s,.int .i64 h,.int .i64 m,.bool z],.slice Ab b.length bc] w fun e w'=>∃Ao on oc,e=.returned (.tuple #[.slice Ao on oc,.int .i64 (allE s h m b.length)])∧on=(if allE s h m b.length=0 then allP s h m z b else[]).length∧ByR w' w'.heap.size Ao on oc (lst (if allE s h m b.length=0 then allP s h m z b else[]))∧Below w.heap.size w w'
def PSameCon:Prop:=∀(w:World) (a b:Prs) (Ah:Option Addr) (hc:Nat) (Aw:Option Addr) (wc:Nat) (Ap:Option Addr) (pc:Nat) (Bh:Option Addr) (hd:Nat) (Bw:Option Addr) (wd:Nat) (Bp:Option Addr) (pd:Nat),PrsR w w.heap.size a Ah hc Aw wc Ap pc→PrsR w w.heap.size b Bh hd Bw wd Bp pd→
 Calls Tryz.prog 24 #[.agg (prsA a Ah hc Aw wc Ap pc),.agg (prsA b Bh hd Bw wd Bp pd)] w fun e w'=>e=.returned (.bool (sameP a b))∧Below w.heap.size w w'
end Go.Proofs.YtokpcpjnihinfaaGreat
namespace Go.Proofs.YtokpcpjnihinfaaGreat
theorem ofR_cover:∀d prev l,l.length≤d→(∀x∈l,x≤15)→l.length≤138*(ofR d prev l).length
 |0,_,l,h,_=>by omega
 |_+1,_,[],_,_=>by simp
 |d+1,prev,x::l,h,h15=>by
  obtain⟨h1,h2,h3,h4,_⟩:=fstR_spec prev x (leadN x l+1) (h15 x List.mem_cons_self) (by omega)
  have hl:=leadN_le x l
  obtain⟨R,hR⟩:∃R,R=fstR prev x (leadN x l+1):=⟨_,rfl⟩
  simp only[ofR,List.length_cons]
  rw[←hR]at h1 h2 h3 h4⊢
  have h5:(2^bitsR R.1.1:Nat)≤128:=by
   have a:2^bitsR R.1.1≤2^7:=Nat.pow_le_pow_right (by omega) (bitsR_le' _)
   exact a
  have hk:R.2≤138:=by
   rw[←h3]
   have h6:(2:Nat)^bitsR R.1.1=if R.1.1=16 then 4 else if R.1.1=17 then 8 else if R.1.1=18 then 128 else 1:=by
    unfold bitsR;split;rfl;split;rfl;split<;>rfl
   rw[h6]at h4
   unfold timesR
   by_cases c16:R.1.1=16
   ·rw[if_pos c16]at h4;rw[if_pos (.inl c16)];omega
   ·rw[if_neg c16]at h4
    by_cases c17:R.1.1=17
    ·rw[if_pos c17]at h4;rw[if_pos (.inr c17)];omega
    ·rw[if_neg c17]at h4
     rw[if_neg (by omega)]
     by_cases c18:R.1.1=18
     ·rw[if_pos c18]at h4;rw[if_pos c18];omega
     ·rw[if_neg c18];omega
  have ih:=ofR_cover d (some x) ((x::l).drop R.2) (by rw[List.length_drop];simp only[List.length_cons]at h⊢;omega) (fun y hy=>h15 y (List.mem_of_mem_drop hy))
  rw[List.length_drop,List.length_cons]at ih
  omega
theorem two_runs(l:List Tok)(hl:l.length≤1000000):2≤(runD l).length:=by
 obtain⟨_,_,_,_,a1,_,b1,_,_⟩:=dyn_ok l hl
 have h:=ofR_cover (nA l+nB l-0) (prvU (allF l) 0) (dropU (allF l) (nA l+nB l) 0) (by rw[dropU_length];exact Nat.le_refl _) (dropU_mem (fun i _=>all_le l hl i))
 rw[dropU_length]at h
 have e:ofR (nA l+nB l-0) (prvU (allF l) 0) (dropU (allF l) (nA l+nB l) 0)=runD l:=rfl
 rw[e]at h
 omega
theorem bits_runs(F:Nat→Nat):∀rs:List (Int×Int),(∀r∈rs,1≤F r.1.toNat)→rs.length≤bitsT (rs.flatMap (runP F))
 |[],_=>by simp
 |r::rs,h=>by
  have h1:=h r List.mem_cons_self
  have:=bits_runs F rs fun x hx=>h x (List.mem_cons_of_mem _ hx)
  rw[List.flatMap_cons,bitsT_app,List.length_cons]
  have e:bitsT (runP F r)=F r.1.toNat+((bitV r.1).toNat+0):=rfl
  rw[e];omega
theorem bits_map3(f:Nat→Nat)(q:Nat):∀n,bitsT ((List.range n).map fun i=>(f i,q))=q*n
 |0=>rfl
 |n+1=>by
  rw[List.range_succ,List.map_append,bitsT_app,bits_map3 f q n]
  simp only[List.map_cons,List.map_nil,bitsT]
  rw[Nat.mul_succ];omega
theorem bits_toks(F:Nat→Nat)(n:Nat)(G:Nat→Nat)(m:Nat)(h256:1≤F 256):∀l:List Tok,(∀t∈l,1≤F (symA t))→l.length+1≤bitsT (toksP F n G m l)
 |[],_=>by
  have e:bitsT (toksP F n G m [])=F 256+0:=rfl
  rw[e];simp;omega
 |t::l,h=>by
  have h1:=h t List.mem_cons_self
  have ih:=bits_toks F n G m h256 l fun x hx=>h x (List.mem_cons_of_mem _ hx)
  have e:toksP F n G m (t::l)=tokP F n G m t++toksP F n G m l:=by unfold toksP;rw[List.flatMap_cons,List.append_assoc]
  have e2:F (symA t)≤bitsT (tokP F n G m t):=by
   unfold tokP symA
   by_cases h0:t.n=0
   ·rw[if_pos h0,if_pos h0];exact Nat.le_refl _
   ·rw[if_neg h0,if_neg h0];simp only[bitsT,codP];omega
  rw[e,bitsT_app,List.length_cons];omega
theorem dyn_long(a n:Nat)(r:Nat→Nat)(l:List Tok)(last:Bool)(hl:l.length≤100000)(hok:∀t∈l,mayT t=true∧t.x<256):l.length+32≤bitsT (blkP a 2 n r l last):=by
 obtain⟨_,_,_,_,_,_,_,_,hA,_⟩:=dyn_ok l (by omega)
 obtain⟨hr,hrl⟩:=run_ok l (by omega)
 obtain⟨_,_,hR,_⟩:=lenM_may (c:=cntR (runD l)) (n:=19) (most:=7) (by omega) (by omega) (by omega) (by decide) (fun i=>by have:=cntR_le (runD l) i;omega)
 have hR':∀i,i<19→0<cntR (runD l) i→1≤lnR l i:=fun i hi h=>(hR i hi).2 h
 have h1:l.length+1≤bitsT (toksP (lnA l) (nA l) (lnB l) (nB l) l):=bits_toks _ _ _ _ (hA 256 (by omega) (cntA_end l)).2 l fun t ht=>(hA _ (sym_lt (hok t ht).1 (hok t ht).2).1 (cntA_pos ht)).2
 have h2:(runD l).length≤bitsT ((runD l).flatMap (runP (lnR l))):=bits_runs _ _ fun t ht=>by
  obtain⟨s0,s18,-⟩:=hr t ht
  have hp:0<cntR (runD l) t.1.toNat:=List.countP_pos_iff.2 ⟨t,ht,decide_eq_true (Int.toNat_of_nonneg s0).symm⟩
  exact hR' _ (by omega) hp
 have h3:=two_runs l (by omega)
 have h4:4≤nR l:=cutN_ge _ _ _
 have e:bitsT (dynP l)=14+3*nR l+bitsT ((runD l).flatMap (runP (lnR l))):=by
  unfold dynP
  have e4:∀x y z:Nat,bitsT [(x,5),(y,5),(z,4)]=14:=fun _ _ _=>rfl
  rw[bitsT_app,bitsT_app,bits_map3,e4]
 have e2:blkP a 2 n r l last=[(if last then 1 else 0,1),(2,2)]++(dynP l++toksP (lnA l) (nA l) (lnB l) (nB l) l):=by
  unfold blkP;rw[if_neg (show¬(2:Nat)=1 by omega),if_pos (show(2:Nat)=2 from rfl)]
 rw[e2,bitsT_app,bitsT_app,e]
 have e3:∀b:Nat,bitsT [(b,1),(2,2)]=3:=fun _=>rfl
 rw[e3];omega
end Go.Proofs.YtokpcpjnihinfaaGreat
namespace Go.Proofs.YtokpcpjnihinfaaGreat
theorem shF_one12{f:Nat→Nat}(h1:f 1<f 0)(h2:¬f 2<f 1):shF f 2=1:=by
 show(if f 2<f (if f 1<f 0 then 1 else 0)then 2 else(if f 1<f 0 then 1 else 0))=1
 rw[if_pos h1,if_neg h2]
theorem bst_one{p:Prs}{raw:List Nat}(l:List Tok)(hl:tkP p raw=l)(hn:l.length≤100000)(hok:(l.all fun t=>mayT t&&decide (t.x<256))=true)(h1:bitsT (blkP p.k.toNat 1 raw.length (lst raw) l false)<bitsT (blkP p.k.toNat 0 raw.length (lst raw) l false))(h2:bitsT (blkP p.k.toNat 1 raw.length (lst raw) l false)<l.length+32):bstP p raw=1:=by
 have h3:=dyn_long p.k.toNat raw.length (lst raw) l false hn fun t ht=>by
  have:=List.all_eq_true.1 hok t ht
  simpa using this
 unfold bstP bestK
 rw[hl]
 exact shF_one12 h1 (by omega)
theorem fin_one{p:Prs}(h:bstP p p.wait=1):finP p=({(leftP p ((putP p.pen p.k.toNat 1 p.wait (tkP p p.wait) true).1,8*(putP p.pen p.k.toNat 1 p.wait (tkP p p.wait) true).1.length) p.wait).1 with wait:=[],over:=true},(leftP p ((putP p.pen p.k.toNat 1 p.wait (tkP p p.wait) true).1,8*(putP p.pen p.k.toNat 1 p.wait (tkP p p.wait) true).1.length) p.wait).2):=by
 unfold finP endP;rw[h]
theorem val_write:writeP (begP 32 9 100 false) [97]=(⟨32,9,100,false,[],[97],[],0,false⟩,[]):=by kernel_rfl
theorem lt_of_ltb{a b:Nat}(h:Nat.blt a b=true):a<b:=by rw[Nat.blt_eq]at h;exact h
theorem val_finA:finP ⟨32,9,100,false,[],[97],[],0,false⟩=(⟨32,9,100,false,[97],[],[],0,true⟩,[75,4,0]):=by
 have q1:tkP ⟨32,9,100,false,[],[97],[],0,false⟩ [97]=[⟨97,0,0⟩]:=by kernel_rfl
 have q2:(([⟨97,0,0⟩]:List Tok).all fun t=>mayT t&&decide (t.x<256))=true:=by kernel_rfl
 have q3:Nat.blt (bitsT (blkP (⟨32,9,100,false,[],[97],[],0,false⟩:Prs).k.toNat 1 [97].length (lst [97]) [⟨97,0,0⟩] false)) (bitsT (blkP (⟨32,9,100,false,[],[97],[],0,false⟩:Prs).k.toNat 0 [97].length (lst [97]) [⟨97,0,0⟩] false))=true:=by kernel_rfl
 have q4:Nat.blt (bitsT (blkP (⟨32,9,100,false,[],[97],[],0,false⟩:Prs).k.toNat 1 [97].length (lst [97]) [⟨97,0,0⟩] false)) (([⟨97,0,0⟩]:List Tok).length+32)=true:=by kernel_rfl
 have hb:bstP ⟨32,9,100,false,[],[97],[],0,false⟩ [97]=1:=bst_one [⟨97,0,0⟩] q1 (by decide) q2 (lt_of_ltb q3) (lt_of_ltb q4)
 exact(fin_one hb).trans (by kernel_rfl)
theorem pval_fin0:finP ⟨32,9,100,false,[],[],[],0,false⟩=(⟨32,9,100,false,[],[],[],0,true⟩,[3,0]):=by
 have q1:tkP ⟨32,9,100,false,[],[],[],0,false⟩ []=[]:=by kernel_rfl
 have q2:(([]:List Tok).all fun t=>mayT t&&decide (t.x<256))=true:=by kernel_rfl
 have q3:Nat.blt (bitsT (blkP (⟨32,9,100,false,[],[],[],0,false⟩:Prs).k.toNat 1 ([]:List Nat).length (lst []) ([]:List Tok) false)) (bitsT (blkP (⟨32,9,100,false,[],[],[],0,false⟩:Prs).k.toNat 0 ([]:List Nat).length (lst []) ([]:List Tok) false))=true:=by kernel_rfl
 have q4:Nat.blt (bitsT (blkP (⟨32,9,100,false,[],[],[],0,false⟩:Prs).k.toNat 1 ([]:List Nat).length (lst []) ([]:List Tok) false)) (([]:List Tok).length+32)=true:=by kernel_rfl
 have hb:bstP ⟨32,9,100,false,[],[],[],0,false⟩ []=1:=bst_one [] q1 (by decide) q2 (lt_of_ltb q3) (lt_of_ltb q4)
 exact(fin_one hb).trans (by kernel_rfl)
theorem val_fin:finP ⟨32,9,100,false,[97],[],[],0,false⟩=(⟨32,9,100,false,[97],[],[],0,true⟩,[3,0]):=by
 have q1:tkP ⟨32,9,100,false,[97],[],[],0,false⟩ []=[]:=by kernel_rfl
 have q2:(([]:List Tok).all fun t=>mayT t&&decide (t.x<256))=true:=by kernel_rfl
 have q3:Nat.blt (bitsT (blkP (⟨32,9,100,false,[97],[],[],0,false⟩:Prs).k.toNat 1 ([]:List Nat).length (lst []) ([]:List Tok) false)) (bitsT (blkP (⟨32,9,100,false,[97],[],[],0,false⟩:Prs).k.toNat 0 ([]:List Nat).length (lst []) ([]:List Tok) false))=true:=by kernel_rfl
 have q4:Nat.blt (bitsT (blkP (⟨32,9,100,false,[97],[],[],0,false⟩:Prs).k.toNat 1 ([]:List Nat).length (lst []) ([]:List Tok) false)) (([]:List Tok).length+32)=true:=by kernel_rfl
 have hb:bstP ⟨32,9,100,false,[97],[],[],0,false⟩ []=1:=bst_one [] q1 (by decide) q2 (lt_of_ltb q3) (lt_of_ltb q4)
 exact(fin_one hb).trans (by kernel_rfl)
theorem val_write0:writeP (begP 32 9 100 false) []=(⟨32,9,100,false,[],[],[],0,false⟩,[]):=by kernel_rfl
theorem val_all_a:allP 32 9 100 false [97]=[75,4,0]:=by
 unfold allP;rw[val_write,val_finA];rfl
theorem val_all_0:allP 32 9 100 false []=[3,0]:=by
 unfold allP;rw[val_write0,pval_fin0];rfl
theorem flush_one{p:Prs}(hw:¬p.wait.length=0)(l:List Tok)(hl:tkP p p.wait=l)(h2:¬(putP p.pen p.k.toNat 2 p.wait l false).2<(putP p.pen p.k.toNat 1 p.wait l false).2)(h1:¬(stoP' (putP p.pen p.k.toNat 1 p.wait l false)).2<(putP p.pen p.k.toNat 0 p.wait l false).2):
  flushedP p=({(leftP p (putP p.pen p.k.toNat 0 p.wait l false) p.wait).1 with wait:=[]},(leftP p (putP p.pen p.k.toNat 0 p.wait l false) p.wait).2):=by
 have e:flushP p=putP p.pen p.k.toNat 0 p.wait l false:=by
  unfold flushP lessP
  rw[if_neg hw,hl,if_neg h2,if_neg h1]
 unfold flushedP
 rw[e]
theorem dyn_not(pen:List Nat)(k n1:Nat)(raw:List Nat)(l:List Tok)(hn:l.length≤100000)(hok:(l.all fun t=>mayT t&&decide (t.x<256))=true)(h1:(putP pen k 1 raw l false).2=n1)(h2:n1≤k+l.length+32):¬(putP pen k 2 raw l false).2<(putP pen k 1 raw l false).2:=by
 have h3:=dyn_long (k%8) raw.length (lst raw) l false hn fun t ht=>by
  have:=List.all_eq_true.1 hok t ht
  simpa using this
 rw[putP_bits,h1];omega
theorem not_ltb{a b:Nat}(h:Nat.ble b a=true):¬a<b:=by rw[Nat.ble_eq]at h;omega
theorem val_flush:flushedP ⟨32,9,100,false,[],[97],[],0,false⟩=(⟨32,9,100,false,[97],[],[],0,false⟩,[0,1,0,254,255,97]):=
 (flush_one (p:=⟨32,9,100,false,[],[97],[],0,false⟩) (by decide) [⟨97,0,0⟩] (by kernel_rfl) (dyn_not [] 0 18 [97] [⟨97,0,0⟩] (by decide) (by kernel_rfl) (by kernel_rfl) (by decide)) (not_ltb (by kernel_rfl))).trans (by kernel_rfl)
theorem out_one{p:Prs}{raw:List Nat}(hb:bstP p raw=1):outP p raw=leftP p (putP p.pen p.k.toNat 1 raw (tkP p raw) false) raw:=by unfold outP;rw[hb]
theorem wrt_one(n:Nat)(p:Prs)(w:List Nat)(h:p.m.toNat≤w.length):wrtP (n+1) p w=((wrtP n (outP p (w.take p.m.toNat)).1 (w.drop p.m.toNat)).1,(outP p (w.take p.m.toNat)).2++(wrtP n (outP p (w.take p.m.toNat)).1 (w.drop p.m.toNat)).2):=by
 simp only[wrtP];rw[if_pos h]
theorem val_out1:outP ⟨32,9,1,false,[],[],[],0,false⟩ [97]=(⟨32,9,1,false,[97],[],[0],2,false⟩,[74,4]):=by
 have q1:tkP ⟨32,9,1,false,[],[],[],0,false⟩ [97]=[⟨97,0,0⟩]:=by kernel_rfl
 have q2:(([⟨97,0,0⟩]:List Tok).all fun t=>mayT t&&decide (t.x<256))=true:=by kernel_rfl
 have q3:Nat.blt (bitsT (blkP (⟨32,9,1,false,[],[],[],0,false⟩:Prs).k.toNat 1 [97].length (lst [97]) [⟨97,0,0⟩] false)) (bitsT (blkP (⟨32,9,1,false,[],[],[],0,false⟩:Prs).k.toNat 0 [97].length (lst [97]) [⟨97,0,0⟩] false))=true:=by kernel_rfl
 have q4:Nat.blt (bitsT (blkP (⟨32,9,1,false,[],[],[],0,false⟩:Prs).k.toNat 1 [97].length (lst [97]) [⟨97,0,0⟩] false)) (([⟨97,0,0⟩]:List Tok).length+32)=true:=by kernel_rfl
 have hb:bstP ⟨32,9,1,false,[],[],[],0,false⟩ [97]=1:=bst_one [⟨97,0,0⟩] q1 (by decide) q2 (lt_of_ltb q3) (lt_of_ltb q4)
 exact(out_one hb).trans (by kernel_rfl)
theorem val_out2:outP ⟨32,9,1,false,[97],[],[0],2,false⟩ [98]=(⟨32,9,1,false,[97,98],[],[0],4,false⟩,[40,9]):=by
 have q1:tkP ⟨32,9,1,false,[97],[],[0],2,false⟩ [98]=[⟨98,0,0⟩]:=by kernel_rfl
 have q2:(([⟨98,0,0⟩]:List Tok).all fun t=>mayT t&&decide (t.x<256))=true:=by kernel_rfl
 have q3:Nat.blt (bitsT (blkP (⟨32,9,1,false,[97],[],[0],2,false⟩:Prs).k.toNat 1 [98].length (lst [98]) [⟨98,0,0⟩] false)) (bitsT (blkP (⟨32,9,1,false,[97],[],[0],2,false⟩:Prs).k.toNat 0 [98].length (lst [98]) [⟨98,0,0⟩] false))=true:=by kernel_rfl
 have q4:Nat.blt (bitsT (blkP (⟨32,9,1,false,[97],[],[0],2,false⟩:Prs).k.toNat 1 [98].length (lst [98]) [⟨98,0,0⟩] false)) (([⟨98,0,0⟩]:List Tok).length+32)=true:=by kernel_rfl
 have hb:bstP ⟨32,9,1,false,[97],[],[0],2,false⟩ [98]=1:=bst_one [⟨98,0,0⟩] q1 (by decide) q2 (lt_of_ltb q3) (lt_of_ltb q4)
 exact(out_one hb).trans (by kernel_rfl)
theorem pval_two:(writeP (begP 32 9 1 false) [97,98]).2=[74,4,40,9]∧(writeP (begP 32 9 1 false) [97,98]).1.k=4:=by
 have e1:=wrt_one 1 ⟨32,9,1,false,[],[],[],0,false⟩ [97,98] (by decide)
 have e2:=wrt_one 0 ⟨32,9,1,false,[97],[],[0],2,false⟩ [98] (by decide)
 have t1:([97,98]:List Nat).take (⟨32,9,1,false,[],[],[],0,false⟩:Prs).m.toNat=[97]:=rfl
 have t2:([97,98]:List Nat).drop (⟨32,9,1,false,[],[],[],0,false⟩:Prs).m.toNat=[98]:=rfl
 have t3:([98]:List Nat).take (⟨32,9,1,false,[97],[],[0],2,false⟩:Prs).m.toNat=[98]:=rfl
 rw[t1,t2,val_out1]at e1
 rw[t3,val_out2]at e2
 rw[e2]at e1
 have e0:writeP (begP 32 9 1 false) [97,98]=wrtP 2 ⟨32,9,1,false,[],[],[],0,false⟩ [97,98]:=by unfold writeP begP;simp only[List.nil_append,List.length_cons,List.length_nil]
 rw[e0,e1]
 exact⟨rfl,rfl⟩
end Go.Proofs.YtokpcpjnihinfaaGreat
namespace Go.Proofs.YtokpcpjnihinfaaGreat
open Go.RowKit Go.ChangeShapes Go.WideShapes Go.ChangeAt Go.Joins
def wrtE(f:Nat→Nat)(n:Nat)(k:Int)(kind rn:Nat)(r:Nat→Nat)(l:List Tok)(last:Bool):Int:=
 if penB f n k=false then 8 else if askW kind rn l≠0 then askW kind rn l else if 8388608<k.toNat+bitsT (blkP (k.toNat%8) kind rn r l last)then 9 else 0
def wrtK(f:Nat→Nat)(n:Nat)(k:Int)(kind rn:Nat)(r:Nat→Nat)(l:List Tok)(last:Bool):Nat:=
 if wrtE f n k kind rn r l last=0 then k.toNat+bitsT (blkP (k.toNat%8) kind rn r l last)else 0
def wrtF(f:Nat→Nat)(n:Nat)(k:Int)(kind rn:Nat)(r:Nat→Nat)(l:List Tok)(last:Bool):Nat→Nat:=
 if wrtE f n k kind rn r l last=0 then putsF (zext n f) k.toNat (blkP (k.toNat%8) kind rn r l last)else fun _=>0
theorem built_pen0:Tryz.prog.built 30 []=some #[.slice none 0 0,.int .i64 0]:=by kernel_rfl
theorem cell_pen{fn:Func}{p u:Tmp}(h:fn.results=#[.cell p 30,.tmp u])(tmps:Array Value)(w:World)(g:Nat)(cs:Array Value)(hs:cs.size=2)(hp:tmps.getD p undef=.pointer (some ⟨g,0,none⟩))(ht:w.heap[g]?=some (.cells cs 30 (0,0))):
  (results fn tmps).run Tryz.prog w=.ok (.tuple #[.agg cs,tmps.getD u undef]) w:=by
 have hp':tmps[p]?.getD undef=.pointer (some ⟨g,0,none⟩):=by simpa using hp
 have hl:=run_loadVar_row (P:=Tryz.prog) w g 30 30 cs (0,0) _ ht Tryz.underlying30 rfl (by rw[hs];exact szPen2)
 simp[results,h,hp',asAddr,hl]
theorem penB_nat{f:Nat→Nat}{n:Nat}{k:Int}(hf:∀j,f j<256)(h:penB f n k=true):∃K:Nat,k=K∧K≤8388608∧n=(K+7)/8∧Clean (zext n f) K:=check_clean hf (by unfold penE;rw[if_pos h])
end Go.Proofs.YtokpcpjnihinfaaGreat
namespace Go.Proofs.YtokpcpjnihinfaaGreat
open Go.RowKit Go.ChangeShapes Go.WideShapes Go.ChangeAt Go.Joins Go.Deep
theorem cellsSty:Tryz.prog.cellsOf 27=4:=by kernel_rfl
def TokIn(t:Tok):Prop:=t.x<256∧(-9223372036854775808≤t.d∧t.d≤9223372036854775807)∧(-9223372036854775808≤t.n∧t.n≤9223372036854775807)
theorem open_sty{H:Type}{enc:TypeId×Value→H}{W:World}{r:Reach}{b0 base:Nat}{sp:Nat→Bool}{hd:Bool}{v:Value}{d:DataW H}{p:List MemPlace}
  (hv:Value.okWide Tryz.prog W r b0 27 v) (h:DataW.Trod enc Tryz.prog W base sp hd 27 v d p):
  ∃(s h m:Int) (z:Bool),v=.agg #[.int .i64 s,.int .i64 h,.int .i64 m,.bool z]∧(-9223372036854775808≤s∧s≤9223372036854775807)∧(-9223372036854775808≤h∧h≤9223372036854775807)∧(-9223372036854775808≤m∧m≤9223372036854775807):=by
 obtain⟨c0,c1,c2,c3,y0,y1,y2,y3,m,rfl,rfl,rfl,h0,h1,h2,h3⟩:=open_agg4 Tryz.underlying27 (by kernel_rfl) cellsSty hv h
 obtain⟨k0,e0,_,w0⟩:=DataW.trod_int Tryz.underlying3 h0
 obtain⟨k1,e1,_,w1⟩:=DataW.trod_int Tryz.underlying3 h1
 obtain⟨k2,e2,_,w2⟩:=DataW.trod_int Tryz.underlying3 h2
 obtain⟨k3,e3,_⟩:=DataW.trod_bool Tryz.underlying4 h3
 simp only[List.cons.injEq,and_true]at e0 e1 e2 e3
 subst e0;subst e1;subst e2;subst e3
 exact⟨k0,k1,k2,k3,rfl,wf_i64_range w0,wf_i64_range w1,wf_i64_range w2⟩
end Go.Proofs.YtokpcpjnihinfaaGreat
namespace Go.Proofs.YtokpcpjnihinfaaGreat
open Go.RowKit
def WrtN(w w':World)(e:Ending)(K:Nat)(E:Int)(F:Nat→Nat):Prop:=∃A' c' L,L=(K+7)/8∧e=.returned (.tuple #[.agg #[.slice A' L c',.int .i64 (K:Int)],.int .i64 E])∧ByR w' w'.heap.size A' L c' F∧Below w.heap.size w w'∧NewB w' w.heap.size A' L
def WriteCon:Prop:=∀(w:World) (A:Option Addr) (n c:Nat) (f:Nat→Nat) (k:Int) (kind:Nat) (A1:Option Addr) (rn rc:Nat) (r:Nat→Nat) (A2:Option Addr) (m c2:Nat) (l:List Tok) (last:Bool),ByR w w.heap.size A n c f→n≤2000000→-9223372036854775808≤k→k≤9223372036854775807→kind<256→
 ByR w w.heap.size A1 rn rc r→rn≤1000000→TkR w w.heap.size A2 m c2 l→m≤1000000→(∀t∈l,TokIn t)→
 Calls Tryz.prog 66 #[.agg #[.slice A n c,.int .i64 k],.int .u8 (kind:Int),.slice A1 rn rc,.slice A2 m c2,.bool last] w fun e w'=>WrtN w w' e (wrtK f n k kind rn r l last) (wrtE f n k kind rn r l last) (wrtF f n k kind rn r l last)
def LongCon:Prop:=∀(w:World) (a:Int) (kind:Nat) (A1:Option Addr) (rn rc:Nat) (r:Nat→Nat) (A2:Option Addr) (m c2:Nat) (l:List Tok),-9223372036854775808≤a→a≤9223372036854775807→kind<256→
 ByR w w.heap.size A1 rn rc r→rn≤1000000→TkR w w.heap.size A2 m c2 l→m≤1000000→(∀t∈l,TokIn t)→
 Calls Tryz.prog 91 #[.int .i64 a,.int .u8 (kind:Int),.slice A1 rn rc,.slice A2 m c2] w fun e w'=>e=.returned (.tuple #[.int .i64 ((lngV a kind rn r l:Nat):Int),.int .i64 (lngE a kind rn l)])∧Below w.heap.size w w'
def BestCon:Prop:=∀(w:World) (a:Int) (A1:Option Addr) (rn rc:Nat) (r:Nat→Nat) (A2:Option Addr) (m c2:Nat) (l:List Tok),-9223372036854775808≤a→a≤9223372036854775807→
 ByR w w.heap.size A1 rn rc r→rn≤1000000→TkR w w.heap.size A2 m c2 l→m≤1000000→(∀t∈l,TokIn t)→
 Calls Tryz.prog 61 #[.int .i64 a,.slice A1 rn rc,.slice A2 m c2] w fun e w'=>e=.returned (.tuple #[.int .u8 ((bestV a rn r l:Nat):Int),.int .i64 (bestE a rn l)])∧Below w.heap.size w w'
def OrderCon:Prop:=∀w:World,Calls Tryz.prog 159 #[] w fun e w'=>e=.returned (.agg (tblA (fun i=>(ordN i:Int)) 19))∧Below w.heap.size w w'
def FixedCon:Prop:=∀w:World,Calls Tryz.prog 107 #[] w fun e w'=>∃A1 c1 A2 c2,e=.returned (.tuple #[.slice A1 288 c1,.slice A2 32 c2])∧
 w'.ownsRow w.heap.size 5 1 (.slice A1 288 c1) 288 (bytesL 288 fixA)∧w'.ownsRow w.heap.size 5 1 (.slice A2 32 c2) 32 (bytesL 32 fixB)∧(∀g,(Value.slice A1 288 c1).ownBlock=some g→(Value.slice A2 32 c2).ownBlock≠some g)∧Below w.heap.size w w'
end Go.Proofs.YtokpcpjnihinfaaGreat
namespace Go.Proofs.YtokpcpjnihinfaaGreat
open Go.RowKit Go.ChangeShapes Go.WideShapes Go.ChangeAt
theorem run_eqItems_nums{P:Program}(w:World)(d:Nat){e:TypeId}{q:IntKind}(he:P.underlying e=some (.int q))(xs ys:Array Value)(f g:Nat→Int):∀(is:List Nat),
  (∀i∈is,xs[i]?=some (.int q (f i))∧ys[i]?=some (.int q (g i)))→(Op.eqItems (d+1) e 1 xs ys is).run P w=.ok (decide (∀i∈is,f i=g i)) w
 |[],_=>by simp[Op.eqItems]
 |i::is,h=>by
  obtain⟨h1,h2⟩:=h i (by simp)
  have hp:∀(zs:Array Value) (z:Int),zs[i]?=some (.int q z)→(part e zs (i*1)).run P w=.ok (.int q z) w:=by
   intro zs z hz
   unfold part isAgg
   simp[Sem.run_bind,run_underlying he,hz]
  have h3:(Op.equalIn (d+1) e (.int q (f i)) (.int q (g i))).run P w=.ok (f i==g i) w:=run_equalIn_int w d e q q _ _ he
  simp only[Op.eqItems,Sem.run_bind,hp _ _ h1,hp _ _ h2,h3,Result.andThen_ok]
  have ih:=run_eqItems_nums w d he xs ys f g is (fun j hj=>h j (by simp[hj]))
  by_cases hc:f i=g i
  ·simp[hc,ih]
  ·simp[hc]
end Go.Proofs.YtokpcpjnihinfaaGreat
namespace Go.Proofs.YtokpcpjnihinfaaGreat
open Go.RowKit
def tcN(f:Nat→Nat)(m:Nat):Nat→Nat
 |0=>0
 |n+1=>tcN f m n+if 0<f n∧f n=m then 1 else 0
theorem cntN_le(f:Nat→Nat)(m:Nat):∀n,tcN f m n≤n
 |0=>Nat.le_refl _
 |n+1=>by have:=cntN_le f m n;simp only[tcN];split<;>omega
theorem cntN_zero(f:Nat→Nat):∀n,tcN f 0 n=0
 |0=>rfl
 |n+1=>by simp only[tcN];rw[cntN_zero f n,if_neg (by omega)]
theorem inN_cnt(f:Nat→Nat){m:Nat}(hm:0<m):∀n,inN f m n=tcN f m n*pt m
 |0=>by simp[inN,tcN]
 |n+1=>by
  simp only[inN,tcN]
  rw[inN_cnt f hm n]
  by_cases h:f n=m
  ·rw[if_pos h,if_pos ⟨by omega,h⟩,Nat.add_mul,Nat.one_mul]
  ·rw[if_neg h,if_neg (fun g=>h g.2)];rfl
def sumC(f:Nat→Nat)(n:Nat):Nat→Nat
 |0=>0
 |m+1=>sumC f n m+tcN f (m+1) n
theorem sumC_none(f:Nat→Nat):∀M,sumC f 0 M=0
 |0=>rfl
 |M+1=>by simp only[sumC,tcN];rw[sumC_none f M]
theorem sumC_more(f:Nat→Nat)(n:Nat):∀M,sumC f (n+1) M=sumC f n M+if 0<f n∧f n≤M then 1 else 0
 |0=>by rw[if_neg (by omega)];rfl
 |M+1=>by
  simp only[sumC,tcN]
  rw[sumC_more f n M]
  repeat' split
  all_goals omega
theorem usedN_sum(f:Nat→Nat):∀n,(∀j,j<n→f j≤15)→usedN f n=sumC f n 15
 |0,_=>(sumC_none f 15).symm
 |n+1,h=>by
  rw[sumC_more,←usedN_sum f n (fun j hj=>h j (by omega))]
  simp only[usedN]
  have:=h n (by omega)
  by_cases h1:0<f n
  ·rw[if_pos h1,if_pos ⟨h1,this⟩]
  ·rw[if_neg h1,if_neg (fun g=>h1 g.1)]
def leftI(t:Nat→Nat):Nat→Int
 |0=>1
 |k+1=>2*leftI t k-(t (k+1):Int)
theorem leftI_bd{t:Nat→Nat}(ht:∀m,t m≤1000):∀k,leftI t k≤((2^k:Nat):Int)∧1000-((1000*2^k:Nat):Int)≤leftI t k
 |0=>by simp[leftI]
 |k+1=>by
  have:=leftI_bd ht k
  have h1:=ht (k+1)
  simp only[leftI,Nat.pow_succ]
  omega
theorem leftI_in{t:Nat→Nat}(ht:∀m,t m≤1000){k:Nat}(hk:k≤15):leftI t k≤32768∧-32768000≤leftI t k:=by
 have:=leftI_bd ht k
 have h2:(2:Nat)^k≤2^15:=Nat.pow_le_pow_right (by omega) hk
 have h3:(2:Nat)^15=32768:=rfl
 omega
theorem leftI_sum(f:Nat→Nat)(n:Nat):∀k,k≤15→leftI (fun m=>tcN f m n) k*(pt k:Int)=32768-(sumTo f n k:Int)
 |0,_=>by simp[leftI,sumTo,pt]
 |k+1,h=>by
  have ih:=leftI_sum f n k (by omega)
  have e:pt k=pt (k+1)*2:=by rw[pt_mul (Nat.le_succ k) h,show k+1-k=1 by omega]
  simp only[leftI,sumTo]
  rw[inN_cnt f (by omega),Int.sub_mul,Int.natCast_add,Int.natCast_mul]
  rw[e,Int.natCast_mul,←Int.mul_assoc]at ih
  have h2:2*leftI (fun m=>tcN f m n) k*(pt (k+1):Int)=leftI (fun m=>tcN f m n) k*(pt (k+1):Int)*((2:Nat):Int):=by
   rw[Int.mul_comm 2,Int.mul_assoc,Int.mul_comm 2,←Int.mul_assoc];rfl
  rw[h2]
  omega
theorem left_all{f:Nat→Nat}{n:Nat}(h:∀j,j<n→f j≤15):leftI (fun m=>tcN f m n) 15=32768-(allN f n:Int):=by
 have:=leftI_sum f n 15 (Nat.le_refl _)
 rw[allN_sum f n h]
 rw[←this,show pt 15=1 from rfl];simp
def oneT(m:Nat):Nat:=if m=1 then 1 else 0
theorem sumC_all(f:Nat→Nat)(n:Nat):sumC f n 15=0+tcN f 1 n+tcN f 2 n+tcN f 3 n+tcN f 4 n+tcN f 5 n+tcN f 6 n+tcN f 7 n+tcN f 8 n+tcN f 9 n+tcN f 10 n+tcN f 11 n+tcN f 12 n+tcN f 13 n+tcN f 14 n+tcN f 15 n:=rfl
theorem none_iff{f:Nat→Nat}{n:Nat}(h:∀j,j<n→f j≤15):(∀m,m<16→tcN f m n=0)↔usedN f n=0:=by
 rw[usedN_sum f n h]
 constructor
 ·intro g
  have:∀M,M<16→sumC f n M=0:=by
   intro M
   induction M with
   |zero=>intro _;rfl
   |succ M ih=>intro hM;simp only[sumC];rw[ih (by omega),g (M+1) hM]
  exact this 15 (by omega)
 ·intro g m hm
  have hz:=cntN_zero f n
  rw[sumC_all]at g
  obtain rfl|rfl|rfl|rfl|rfl|rfl|rfl|rfl|rfl|rfl|rfl|rfl|rfl|rfl|rfl|rfl:m=0∨m=1∨m=2∨m=3∨m=4∨m=5∨m=6∨m=7∨m=8∨m=9∨m=10∨m=11∨m=12∨m=13∨m=14∨m=15:=by omega
  all_goals omega
theorem half_bd(c1 c2 c3 c4 c5 c6 c7 c8 c9 c10 c11 c12 c13 c14 c15:Nat):c1*16384+c2*8192+c3*4096+c4*2048+c5*1024+c6*512+c7*256+c8*128+c9*64+c10*32+c11*16+c12*8+c13*4+c14*2+c15*1≤8192*(0+c1+c2+c3+c4+c5+c6+c7+c8+c9+c10+c11+c12+c13+c14+c15)+8192*c1:=by omega
theorem one_iff{f:Nat→Nat}{n:Nat}(h:∀j,j<n→f j≤15):(∀m,m<16→tcN f m n=oneT m)↔usedN f n=1∧allN f n=16384:=by
 rw[usedN_sum f n h,allN_sum f n h]
 have hp:∀m,0<m→inN f m n=tcN f m n*pt m:=fun m hm=>inN_cnt f hm n
 have e:sumTo f n 15=tcN f 1 n*16384+tcN f 2 n*8192+tcN f 3 n*4096+tcN f 4 n*2048+tcN f 5 n*1024+tcN f 6 n*512+tcN f 7 n*256+tcN f 8 n*128+tcN f 9 n*64+tcN f 10 n*32+tcN f 11 n*16+tcN f 12 n*8+tcN f 13 n*4+tcN f 14 n*2+tcN f 15 n*1:=by
  simp only[sumTo]
  rw[hp 1 (by omega),hp 2 (by omega),hp 3 (by omega),hp 4 (by omega),hp 5 (by omega),hp 6 (by omega),hp 7 (by omega),hp 8 (by omega),hp 9 (by omega),hp 10 (by omega),hp 11 (by omega),hp 12 (by omega),hp 13 (by omega),hp 14 (by omega),hp 15 (by omega)]
  have:pt 1=16384∧pt 2=8192∧pt 3=4096∧pt 4=2048∧pt 5=1024∧pt 6=512∧pt 7=256∧pt 8=128∧pt 9=64∧pt 10=32∧pt 11=16∧pt 12=8∧pt 13=4∧pt 14=2∧pt 15=1:=by decide
  obtain⟨h1,h2,h3,h4,h5,h6,h7,h8,h9,h10,h11,h12,h13,h14,h15⟩:=this
  rw[h1,h2,h3,h4,h5,h6,h7,h8,h9,h10,h11,h12,h13,h14,h15]
  omega
 rw[e]
 clear hp e
 rw[sumC_all]
 constructor
 ·intro g
  rw[g 1 (by omega),g 2 (by omega),g 3 (by omega),g 4 (by omega),g 5 (by omega),g 6 (by omega),g 7 (by omega),g 8 (by omega),g 9 (by omega),g 10 (by omega),g 11 (by omega),g 12 (by omega),g 13 (by omega),g 14 (by omega),g 15 (by omega)]
  decide
 ·rintro⟨g1,g2⟩ m hm
  have hz:=cntN_zero f n
  have hone:tcN f 1 n=1:=by
   have h1:16384≤8192*1+8192*tcN f 1 n:=by
    have:=half_bd (tcN f 1 n) (tcN f 2 n) (tcN f 3 n) (tcN f 4 n) (tcN f 5 n) (tcN f 6 n) (tcN f 7 n) (tcN f 8 n) (tcN f 9 n) (tcN f 10 n) (tcN f 11 n) (tcN f 12 n) (tcN f 13 n) (tcN f 14 n) (tcN f 15 n)
    rw[g1,g2]at this
    exact this
   clear g2
   omega
  clear g2
  rw[hone]at g1
  obtain rfl|rfl|rfl|rfl|rfl|rfl|rfl|rfl|rfl|rfl|rfl|rfl|rfl|rfl|rfl|rfl:m=0∨m=1∨m=2∨m=3∨m=4∨m=5∨m=6∨m=7∨m=8∨m=9∨m=10∨m=11∨m=12∨m=13∨m=14∨m=15:=by omega
  all_goals(unfold oneT;first|exact hone|(rw[if_neg (by decide)];omega))
def fstN(t:Nat→Nat):Nat→Nat
 |0=>0
 |m+1=>2*(fstN t m+t m)
theorem fstN_bd{t:Nat→Nat}(ht:∀m,t m≤1000):∀k,fstN t k+2000≤2000*2^k
 |0=>by simp[fstN]
 |k+1=>by
  have:=fstN_bd ht k
  have h1:=ht k
  simp only[fstN,Nat.pow_succ]
  omega
theorem fstN_in{t:Nat→Nat}(ht:∀m,t m≤1000){k:Nat}(hk:k≤16):fstN t k≤131072000:=by
 have:=fstN_bd ht k
 have h2:(2:Nat)^k≤2^16:=Nat.pow_le_pow_right (by omega) hk
 have h3:(2:Nat)^16=65536:=rfl
 omega
theorem fst_sum(f:Nat→Nat)(n:Nat):∀m,m<15→fstN (fun m=>tcN f m n) (m+1)*pt (m+1)=sumTo f n m
 |0,_=>by simp only[fstN,sumTo,cntN_zero];omega
 |m+1,h=>by
  have ih:=fst_sum f n m (by omega)
  have e:pt (m+1)=pt (m+2)*2:=by rw[pt_mul (Nat.le_succ (m+1)) h,show m+1+1-(m+1)=1 by omega]
  have e1:fstN (fun m=>tcN f m n) (m+1+1)=2*(fstN (fun m=>tcN f m n) (m+1)+tcN f (m+1) n):=rfl
  have e2:sumTo f n (m+1)=sumTo f n m+inN f (m+1) n:=rfl
  rw[e1,e2,inN_cnt f (by omega),←ih,←Nat.add_mul,e,Nat.mul_comm 2,Nat.mul_assoc,Nat.mul_comm 2]
def nxtN(f:Nat→Nat)(n i m:Nat):Nat:=fstN (fun m=>tcN f m n) m+tcN f m i
theorem nxt_code{f:Nat→Nat}{n i:Nat}(h0:0<f i)(h:f i≤15):codeB f n i=nxtN f n i (f i):=by
 unfold codeB nxtN stN
 rw[if_neg (by omega)]
 obtain⟨m,hm⟩:∃m,f i=m+1:=⟨f i-1,by omega⟩
 rw[hm,Nat.add_sub_cancel,←fst_sum f n m (by omega),inN_cnt f (by omega),←Nat.add_mul]
 exact Nat.mul_div_cancel _ (pt_pos (by omega))
theorem nxt_step{f:Nat→Nat}{n i:Nat}(h0:0<f i):upd (nxtN f n i) (f i) (nxtN f n i (f i)+1)=nxtN f n (i+1):=by
 funext m
 unfold upd nxtN
 simp only[tcN]
 by_cases e:m=f i
 ·subst e;rw[if_pos rfl,if_pos ⟨h0,rfl⟩];omega
 ·rw[if_neg e,if_neg (fun g=>e g.2.symm)];rfl
theorem nxt_skip{f:Nat→Nat}{n i:Nat}(h0:f i=0):nxtN f n i=nxtN f n (i+1):=by
 funext m
 unfold nxtN
 simp only[tcN]
 rw[if_neg (by omega)];rfl
theorem nxt_none(f:Nat→Nat)(n:Nat):fstN (fun m=>tcN f m n)=nxtN f n 0:=rfl
theorem cnt_step{f:Nat→Nat}{i:Nat}(h0:0<f i):upd (fun m=>tcN f m i) (f i) (tcN f (f i) i+1)=fun m=>tcN f m (i+1):=by
 funext m
 unfold upd
 simp only[tcN]
 by_cases e:m=f i
 ·subst e;rw[if_pos rfl,if_pos ⟨h0,rfl⟩]
 ·rw[if_neg e,if_neg (fun g=>e g.2.symm)];rfl
theorem cnt_skip{f:Nat→Nat}{i:Nat}(h0:f i=0):(fun m=>tcN f m i)=fun m=>tcN f m (i+1):=by
 funext m
 simp only[tcN]
 rw[if_neg (by omega)];rfl
def talL(g:Nat→Nat):List Value:=(List.range 16).map fun i=>.int .i64 (g i:Int)
def talA(g:Nat→Nat):Array Value:=(talL g).toArray
theorem talA_size(g:Nat→Nat):(talA g).size=16:=by simp[talA,talL]
theorem talA_get(g:Nat→Nat)(i:Nat):(talA g)[i]?=if i<16 then some (.int .i64 (g i:Int))else none:=by
 unfold talA talL
 by_cases h:i<16<;>simp[h]
theorem talA_one(g:Nat→Nat):(talA g).all (·.oneCell')=true:=by
 rw[Array.all_eq_true]
 intro i hi
 have:(talA g)[i]=.int .i64 (g i:Int):=by simp[talA,talL]
 rw[this];rfl
theorem talA_ext{g h:Nat→Nat}(e:∀i,i<16→g i=h i):talA g=talA h:=by
 apply Array.ext_getElem?
 intro i
 rw[talA_get,talA_get]
 split
 ·rename_i hi;rw[e i hi]
 ·rfl
theorem talA_set(g:Nat→Nat)(i x:Nat):(talA g).setIfInBounds i (.int .i64 (x:Int))=talA (upd g i x):=by
 apply Array.ext_getElem?
 intro j
 rw[Array.getElem?_setIfInBounds,talA_get,talA_get,talA_size]
 unfold upd
 by_cases e:i=j
 ·subst e
  by_cases h:i<16<;>simp[h]
 ·have e':¬j=i:=fun h=>e h.symm
  simp[e,e']
theorem infoTal:(Tryz.prog.info? 211).map (fun i=>(i.zero,i.size))=some (some (.agg (talA zeroN)),16):=by kernel_rfl
theorem szTal:(Tryz.prog.info? 211).map (·.size)=some 16:=(zero_of_info infoTal).2
def Tal(w:World)(b:Nat)(g:Nat→Nat):Prop:=w.heap[b]?=some (.cells (talA g) 211 (0,0))
theorem Tal.lt{w:World}{b:Nat}{g:Nat→Nat}(h:Tal w b g):b<w.heap.size:=(Array.getElem?_eq_some_iff.1 h).1
theorem Tal.cell{w:World}{b:Nat}{g:Nat→Nat}(h:Tal w b g){j:Nat}(hj:j<16):w.cell? ⟨b,j,none⟩=some (.int .i64 (g j:Int)):=by
 rw[cell_of_row w b j _ _ (0,0) h,talA_get,if_pos hj]
theorem Tal.frozen{w:World}{b:Nat}{g:Nat→Nat}(h:Tal w b g)(j:Nat):w.frozen? ⟨b,j,none⟩=false:=frozen_of_row w b j _ _ h
theorem Tal.set{w:World}{b:Nat}{g:Nat→Nat}(h:Tal w b g)(i x:Nat):Tal (w.setCell ⟨b,i,none⟩ (.int .i64 (x:Int))) b (upd g i x):=by
 unfold Tal
 rw[heap_setCell_same w b i _ _ _ h,talA_set]
theorem Tal.other{w:World}{b:Nat}{g:Nat→Nat}(h:Tal w b g){p:Addr}(hp:b≠p.block)(u:Value):Tal (w.setCell p u) b g:=(Below.heap_setCell w p u b hp).trans h
theorem Tal.alloc{w:World}{b:Nat}{g:Nat→Nat}(h:Tal w b g)(o:Obj):Tal (w.alloc o) b g:=(Below.heap_alloc w o b h.lt).trans h
theorem Tal.below{w w':World}{b B:Nat}{g:Nat→Nat}(h:Tal w b g)(hb:Below B w w')(hg:b<B):Tal w' b g:=(hb.block b hg).trans h
theorem Tal.ext{w:World}{b:Nat}{g g':Nat→Nat}(h:Tal w b g)(e:∀i,i<16→g i=g' i):Tal w b g':=by
 unfold Tal at h⊢;rw[←talA_ext e];exact h
end Go.Proofs.YtokpcpjnihinfaaGreat
namespace Go.Proofs.YtokpcpjnihinfaaGreat
open Go.RowKit
theorem wpList_store_rowT{P:Program}{ops:Array Oper}{rest:List Oper}{o:Oper}{a:Act}{w:World}{Q:Exit→Act→World→Prop}(hgd:o.guard=none)(ty:TypeId)(x y:Operand)(ho:o.op=.store ty x y)
  (g:Nat) (cells:Array Value) (hx:a.eval x=.pointer (some ⟨g,0,none⟩)) (hy:a.eval y=.agg cells)
  (t:TypeId) (old:Array Value) (hg:w.heap[g]?=some (.cells old t (0,0))) (hi:(P.info? ty).map (·.size)=some cells.size)
  (hold:old.size=cells.size) (h1:cells.all (·.oneCell')=true)
  (h:wpList P ops Q rest (a.put o.dst undef) (w.setRow g cells)):wpList P ops Q (o::rest) a w:=
 wpList_plain hgd fun _ hK=>wp_store_row ty x y ho g cells hx hy t old hg hi hold h1 (hK _ _ h)
theorem below_setRowT{B:Nat}{a w:World}(h:Below B a w){g:Nat}(hp:B≤g)(cs:Array Value):Below B a (w.setRow g cs):=
 ⟨h.os,h.tape,h.output,by rw[size_setRow];exact h.size,fun k hk=>(setRow_other w g k cs (by omega)).trans (h.block k hk)⟩
theorem Tal.setRow{w:World}{b:Nat}{g h:Nat→Nat}(ht:Tal w b g):Tal (w.setRow b (talA h)) b h:=setRow_heap w b _ _ _ _ ht
theorem count_any(w:World)(A:Option Addr)(n c:Nat)(f:Nat→Nat)(hr:RdB w w.heap.size A n f)(hn:n≤1000000)(h15:∀j,j<n→f j≤15):
  Calls Tryz.prog 138 #[.slice A n c] w fun e w'=>e=.returned (.agg (talA fun m=>tcN f m n))∧Below w.heap.size w w':=by
 have hz:=(zero_of_info infoTal).1
 have HR:=Lib.hid hr;have H15:=Lib.hid h15
 clear hr h15
 go_enter Tryz.func138,Tryz.ntmps138
 go_wp2
 go_loopw [8] (fun i wr=>∃k:Nat,k≤n∧i=.int .i64 k∧Tal wr w.heap.size zeroN∧Tal wr (w.heap.size+1) (fun m=>tcN f m k)∧w.heap.size+1<wr.heap.size∧Below w.heap.size w wr) (fun i _=>n-(intOf i).toNat)
 case atStart=>
  exact⟨0,Nat.zero_le _,rfl,heap_alloc2_old w _ _,heap_alloc2_new w _ _,by simp,((Below.refl _ _).alloc (Nat.le_refl _) _).alloc (by simp) _⟩
 case round=>
  obtain⟨k,hk,rfl,h0,h1,hsz,hb⟩:=hrel
  by_cases hlt:k<n
  ·obtain⟨b,o,rfl,_,hc⟩:=(HR.out.below hb (Nat.le_refl _)).2 (by omega)
   have hcell:=hc k hlt
   have hf:=H15.out k hlt
   have hcn:=cntN_le f (f k) k
   clear hc
   by_cases hp:0<f k
   ·have c1:=h1.cell (show f k<16 by omega)
    have f1:=h1.frozen (f k)
    have H0:=Lib.hid h0;have H1:=Lib.hid h1;have HB:=Lib.hid hb
    have HS:=Lib.hid (cnt_step hp)
    clear h0 h1 hb
    obtain⟨q,hq⟩:∃q,q=tcN f (f k) k:=⟨_,rfl⟩
    have HQ:=Lib.hid hq
    rw[←hq]at c1 hcn
    clear hq
    go_wp2
    go_roundw
    case rel=>
     have hset:=H1.out.set (f k) (q+1)
     rw[HQ.out,HS.out]at hset
     refine⟨k+1,by omega,by go_num,H0.out.other (by simp) _,?_,by simpa[World.setCell]using hsz,HB.out.setCell (by simp) _⟩
     rw[HQ.out];exact hset
    case measure=>simp[intOf];omega
   ·have hz0:f k=0:=by omega
    have hno:decide (0<((f k:Nat):Int))=false:=by simp;omega
    have H0:=Lib.hid h0;have H1:=Lib.hid h1;have HB:=Lib.hid hb
    have HS:=Lib.hid (cnt_skip hz0)
    clear h0 h1 hb hz0
    go_wp2
    go_roundw
    case rel=>
     refine⟨k+1,by omega,by go_num,H0.out,?_,hsz,HB.out⟩
     rw[←HS.out];exact H1.out
    case measure=>simp[intOf];omega
  ·obtain rfl:k=n:=by omega
   have H0:=Lib.hid h0;have H1:=Lib.hid h1;have HB:=Lib.hid hb
   clear h0 h1 hb hlt hk
   go_wp2_with (first
    |(refine wpList_load_row rfl _ _ rfl (w.heap.size+1) rfl _ (talA fun m=>tcN f m k) (0,0) _ H1.out Tryz.underlying211 rfl (by rw[talA_size];exact szTal) ?_)
    |(refine wpList_store_rowT rfl _ _ _ rfl w.heap.size (talA fun m=>tcN f m k) rfl rfl _ (talA zeroN) H0.out (by rw[talA_size];exact szTal) (by rw[talA_size,talA_size]) (talA_one _) ?_))
   refine bodyPost_ret (v:=.agg (talA fun m=>tcN f m k)) ?_ rfl ⟨rfl,below_setRowT HB.out (Nat.le_refl _) _⟩
   exact results_cell_row rfl _ _ w.heap.size _ _ (0,0) _ rfl (H0.out.setRow (h:=fun m=>tcN f m k)) Tryz.underlying211 rfl (by rw[talA_size];exact szTal)
theorem left_any(w:World)(t:Nat→Nat)(ht:∀m,t m≤1000):
  Calls Tryz.prog 174 #[.agg (talA t)] w fun e w'=>e=.returned (.int .i64 (leftI t 15))∧Below w.heap.size w w':=by
 have HT:=Lib.hid ht
 clear ht
 go_enter Tryz.func174,Tryz.ntmps174
 go_wp2
 go_loopw [3,8] (fun l i wr=>∃k:Nat,k≤15∧i=.int .i64 k∧l=.int .i64 (leftI t k)∧Tal wr w.heap.size t∧Below w.heap.size w wr) (fun _ i _=>15-(intOf i).toNat)
 case atStart=>exact⟨0,by omega,rfl,rfl,heap_alloc_new w _,(Below.refl _ _).alloc (Nat.le_refl _) _⟩
 case round=>
  obtain⟨k,hk,rfl,rfl,ht,hb⟩:=hrel
  have HS:=Lib.hid (show leftI t (k+1)=2*leftI t k-(t (k+1):Int)from rfl)
  have hbd:=leftI_in HT.out (k:=k) (by omega)
  obtain⟨l,hl⟩:∃l,l=leftI t k:=⟨_,rfl⟩
  have HL:=Lib.hid hl
  rw[←hl]at hbd HS⊢
  clear hl
  obtain⟨hbd1,hbd2⟩:=hbd
  by_cases hlt:k<15
  ·have c1:=ht.cell (show 1+k<16 by omega)
   have hm:=HT.out (1+k)
   have H1:=Lib.hid ht;have HB:=Lib.hid hb
   clear ht hb
   go_wp2
   go_roundw
   case rel=>exact⟨k+1,by omega,by go_num,val_int (by rw[HS.out,Nat.add_comm 1 k]),H1.out,HB.out⟩
   case measure=>simp[intOf];omega
  ·obtain rfl:k=15:=by omega
   have HB:=Lib.hid hb
   clear ht hb hlt hk
   go_wp2
   go_ret
   exact⟨ret_int (by rw[HL.out]),HB.out⟩
end Go.Proofs.YtokpcpjnihinfaaGreat
namespace Go.Proofs.YtokpcpjnihinfaaGreat
open Go.RowKit
theorem wpList_on{P:Program}{ops:Array Oper}{rest:List Oper}{o:Oper}{a:Act}{w:World}{Q:Exit→Act→World→Prop}(hw:Region.wanted o (yielded ops a.tmps)=true)
  (h:∀K:Act→World→Prop,(∀a w,wpList P ops Q rest a w→K a w)→o.wp P a w K Q):wpList P ops Q (o::rest) a w:=
 wpList_step fun K hK=>by rw[if_pos hw];exact h K hK
theorem wpList_load_row_on{P:Program}{ops:Array Oper}{rest:List Oper}{o:Oper}{a:Act}{w:World}{Q:Exit→Act→World→Prop}(hw:Region.wanted o (yielded ops a.tmps)=true)(ty:TypeId)(x:Operand)(ho:o.op=.load ty x)
  (g:Nat) (hx:a.eval x=.pointer (some ⟨g,0,none⟩)) (t:TypeId) (cs:Array Value) (fr:Nat×Nat) (d:TypeDesc) (hg:w.heap[g]?=some (.cells cs t fr))
  (hu:P.underlying ty=some d) (hd:(match d with| .struct _| .array _ _=>true|_=>false)=true) (hi:(P.info? ty).map (·.size)=some cs.size)
  (h:wpList P ops Q rest (a.put o.dst (.agg cs)) w):wpList P ops Q (o::rest) a w:=
 wpList_on hw fun _ hK=>wp_load_row ty x ho g hx t cs fr d hg hu hd hi (hK _ _ h)
theorem wpList_neq_on{P:Program}{ops:Array Oper}{rest:List Oper}{o:Oper}{a:Act}{w:World}{Q:Exit→Act→World→Prop}(hw:Region.wanted o (yielded ops a.tmps)=true)(ty:TypeId)(x y:Operand)(ho:o.op=.binOp .neq ty x y ty)
  (u v:Value) (b:Bool) (hx:a.eval x=u) (hy:a.eval y=v) (hg:(eqGuard .neq ty x y u v).run P w=.ok () w) (hrun:(binOp .neq ty u v).run P w=.ok (.bool b) w)
  (h:wpList P ops Q rest (a.put o.dst (.bool b)) w):wpList P ops Q (o::rest) a w:=
 wpList_on hw fun K hK=>by
  unfold Oper.wp execOp
  simp only[ho,hx,hy]
  simp[hrun,hg,Sem.run_bind]
  exact hK _ _ h
theorem guard_tal(w:World)(x y:Operand)(u v:Array Value):(eqGuard .neq 211 x y (.agg u) (.agg v)).run Tryz.prog w=.ok () w:=by
 have h:Tryz.prog.eqGuardType Tryz.prog.depth 211=false:=by kernel_rfl
 unfold eqGuard
 simp[Sem.run_bind,h]
def sameB(t g:Nat→Nat):Bool:=(List.range 16).all fun m=>t m==g m
theorem sameB_iff(t g:Nat→Nat):sameB t g=true↔∀m,m<16→t m=g m:=by simp[sameB]
theorem run_neq_nums{P:Program}(w:World){t e:TypeId}{n:Nat}{q:IntKind}(ht:P.underlying t=some (.array n e))(he:P.underlying e=some (.int q))(hce:P.cellsOf e=1)(hi:(P.info? e).isSome=true)
  (xs ys:Array Value) (f g:Nat→Int) (hx:∀i,i<n→xs[i]?=some (.int q (f i))) (hy:∀i,i<n→ys[i]?=some (.int q (g i))):
  (binOp .neq t (.agg xs) (.agg ys)).run P w=.ok (.bool (!decide (∀i,i<n→f i=g i))) w:=by
 obtain⟨i,hi⟩:=Option.isSome_iff_exists.1 hi
 have h:=run_equalIn_array (P:=P) w 9999 xs ys ht hi
 rw[hce,run_eqItems_nums w 9998 he xs ys f g (List.range n) (fun i hi=>by have:=List.mem_range.1 hi;exact⟨hx i this,hy i this⟩)]at h
 have e:(binOp .neq t (.agg xs) (.agg ys)).run P w=((Op.equal t (.agg xs) (.agg ys)).run P w).andThen fun b w'=>.ok (.bool (!b)) w':=by
  unfold binOp
  simp
 rw[e]
 unfold Op.equal Op.maxDepth
 rw[h]
 simp
theorem run_neq_tal(w:World)(t g:Nat→Nat):(binOp .neq 211 (.agg (talA t)) (.agg (talA g))).run Tryz.prog w=.ok (.bool (!sameB t g)) w:=by
 rw[run_neq_nums (P:=Tryz.prog) w (n:=16) (q:=.i64) Tryz.underlying211 Tryz.underlying3 (by kernel_rfl) (by kernel_rfl) (talA t) (talA g) (fun i=>(t i:Int)) (fun i=>(g i:Int)) (fun i hi=>by rw[talA_get,if_pos hi]) (fun i hi=>by rw[talA_get,if_pos hi])]
 have:(∀i,i<16→(t i:Int)=(g i:Int))↔sameB t g=true:=⟨fun h=>(sameB_iff t g).2 fun m hm=>by have:=h m hm;omega,fun h m hm=>by have:=(sameB_iff t g).1 h m hm;omega⟩
 simp only[this]
 cases sameB t g<;>rfl
theorem chk_less(w:World)(t:Nat→Nat)(ht:∀m,t m≤1000)(h:leftI t 15<0):
  Calls Tryz.prog 161 #[.agg (talA t)] w fun e w'=>e=.returned (.int .i64 30)∧Below w.heap.size w w':=by
 have HT:=Lib.hid ht
 clear ht
 obtain⟨l,hl⟩:∃l,l=leftI t 15:=⟨_,rfl⟩
 have HL:=Lib.hid hl
 rw[←hl]at h
 clear hl
 go_enter Tryz.func161,Tryz.ntmps161
 have h1:Tal (w.alloc (.cells (talA t) 211)) w.heap.size t:=heap_alloc_new w _
 have H1:=Lib.hid h1
 have HB:=Lib.hid ((Below.refl w.heap.size w).alloc (Nat.le_refl _) (.cells (talA t) 211))
 clear h1
 go_wp2_with (first
  |(refine wpList_load_row rfl _ _ rfl w.heap.size rfl _ (talA t) (0,0) _ H1.out Tryz.underlying211 rfl (by rw[talA_size];exact szTal) ?_)
  |(go_at_call 174;refine(left_any _ t HT.out).mono ?_;rintro e w' ⟨rfl,hb⟩;rw[←HL.out];have HB2:=Lib.hid (HB.out.trans (hb.mono (by simp)));clear hb))
 go_ret
 exact⟨rfl,HB2.out⟩
theorem chk_none(w:World)(t:Nat→Nat)(ht:∀m,t m≤1000)(h:leftI t 15=0):
  Calls Tryz.prog 161 #[.agg (talA t)] w fun e w'=>e=.returned (.int .i64 0)∧Below w.heap.size w w':=by
 have HT:=Lib.hid ht
 clear ht
 have HL:=Lib.hid h
 clear h
 go_enter Tryz.func161,Tryz.ntmps161
 have h1:Tal (w.alloc (.cells (talA t) 211)) w.heap.size t:=heap_alloc_new w _
 have H1:=Lib.hid h1
 have HB:=Lib.hid ((Below.refl w.heap.size w).alloc (Nat.le_refl _) (.cells (talA t) 211))
 clear h1
 go_wp2_with (first
  |(refine wpList_load_row rfl _ _ rfl w.heap.size rfl _ (talA t) (0,0) _ H1.out Tryz.underlying211 rfl (by rw[talA_size];exact szTal) ?_)
  |(go_at_call 174;refine(left_any _ t HT.out).mono ?_;rintro e w' ⟨rfl,hb⟩;rw[HL.out];have HB2:=Lib.hid (HB.out.trans (hb.mono (by simp)));clear hb))
 go_ret
 exact⟨rfl,HB2.out⟩
def moreE(z o:Bool):Int:=if z=false∧o=false then 31 else 0
theorem chk_more(w:World)(t:Nat→Nat)(ht:∀m,t m≤1000)(h:0<leftI t 15):
  Calls Tryz.prog 161 #[.agg (talA t)] w fun e w'=>e=.returned (.int .i64 (moreE (sameB t zeroN) (sameB t oneT)))∧Below w.heap.size w w':=by
 have HT:=Lib.hid ht
 have hbd:=leftI_in ht (Nat.le_refl 15)
 obtain⟨hbd1,hbd2⟩:=hbd
 clear ht
 obtain⟨l,hl⟩:∃l,l=leftI t 15:=⟨_,rfl⟩
 have HL:=Lib.hid hl
 rw[←hl]at h hbd1 hbd2
 clear hl
 have Q0:=Lib.hid fun u:World=>run_neq_tal u t zeroN
 have Q1:=Lib.hid fun u:World=>run_neq_tal u t oneT
 have hd:decide (l<0)=false:=by simp;omega
 cases hz:sameB t zeroN
 ·rw[hz]at Q0
  cases ho:sameB t oneT
  all_goals
   rw[ho]at Q1
   clear hz ho
   go_enter Tryz.func161,Tryz.ntmps161
   have h1:Tal (w.alloc (.cells (talA t) 211)) w.heap.size t:=heap_alloc_new w _
   have H1:=Lib.hid h1
   have HB:=Lib.hid ((Below.refl w.heap.size w).alloc (Nat.le_refl _) (.cells (talA t) 211))
   clear h1
   go_wp2_with (refine wpList_load_row rfl _ _ rfl w.heap.size rfl _ (talA t) (0,0) _ H1.out Tryz.underlying211 rfl (by rw[talA_size];exact szTal) ?_)
   refine(left_any _ t HT.out).mono ?_
   rintro e w' ⟨rfl,hb⟩
   rw[←HL.out]
   have HB2:=Lib.hid (HB.out.trans (hb.mono (by simp)))
   have HT2:=Lib.hid (H1.out.below hb (by simp))
   clear hb
   go_wp2_with (first
    |(refine wpList_load_row_on (by rfl) _ _ rfl w.heap.size rfl _ (talA t) (0,0) _ HT2.out Tryz.underlying211 rfl (by rw[talA_size];exact szTal) ?_)
    |(refine wpList_neq_on (by rfl) _ _ _ rfl (.agg (talA t)) (.agg (talA zeroN)) _ rfl rfl (guard_tal _ _ _ _ _) (Q0.out _) ?_)
    |(refine wpList_neq_on (by rfl) _ _ _ rfl (.agg (talA t)) (.agg (talA oneT)) _ rfl rfl (guard_tal _ _ _ _ _) (Q1.out _) ?_))
   go_ret
   exact⟨rfl,HB2.out⟩
 ·rw[hz]at Q0
  clear hz Q1
  have he:moreE true (sameB t oneT)=0:=by unfold moreE;rw[if_neg (by simp)]
  rw[he]
  clear he
  go_enter Tryz.func161,Tryz.ntmps161
  have h1:Tal (w.alloc (.cells (talA t) 211)) w.heap.size t:=heap_alloc_new w _
  have H1:=Lib.hid h1
  have HB:=Lib.hid ((Below.refl w.heap.size w).alloc (Nat.le_refl _) (.cells (talA t) 211))
  clear h1
  go_wp2_with (refine wpList_load_row rfl _ _ rfl w.heap.size rfl _ (talA t) (0,0) _ H1.out Tryz.underlying211 rfl (by rw[talA_size];exact szTal) ?_)
  refine(left_any _ t HT.out).mono ?_
  rintro e w' ⟨rfl,hb⟩
  rw[←HL.out]
  have HB2:=Lib.hid (HB.out.trans (hb.mono (by simp)))
  have HT2:=Lib.hid (H1.out.below hb (by simp))
  clear hb
  go_wp2_with (first
   |(refine wpList_load_row_on (by rfl) _ _ rfl w.heap.size rfl _ (talA t) (0,0) _ HT2.out Tryz.underlying211 rfl (by rw[talA_size];exact szTal) ?_)
   |(refine wpList_neq_on (by rfl) _ _ _ rfl (.agg (talA t)) (.agg (talA zeroN)) _ rfl rfl (guard_tal _ _ _ _ _) (Q0.out _) ?_))
  go_ret
  exact⟨rfl,HB2.out⟩
theorem chk_any(w:World)(f:Nat→Nat)(n:Nat)(hn:n≤1000)(h15:∀j,j<n→f j≤15):
  Calls Tryz.prog 161 #[.agg (talA fun m=>tcN f m n)] w fun e w'=>e=.returned (.int .i64 (endE (allN f n) (usedN f n)))∧Below w.heap.size w w':=by
 have ht:∀m,tcN f m n≤1000:=fun m=>Nat.le_trans (cntN_le f m n) hn
 have hl:=left_all h15
 unfold endE
 by_cases h1:32768<allN f n
 ·rw[if_pos h1];exact chk_less w _ ht (by omega)
 ·rw[if_neg h1]
  by_cases h2:allN f n=32768
  ·rw[if_pos (.inl h2)];exact chk_none w _ ht (by omega)
  ·have:=chk_more w _ ht (by omega)
   have e:moreE (sameB (fun m=>tcN f m n) zeroN) (sameB (fun m=>tcN f m n) oneT)=if allN f n=32768∨usedN f n=0∨(usedN f n=1∧allN f n=16384)then 0 else 31:=by
    have e0:sameB (fun m=>tcN f m n) zeroN=true↔usedN f n=0:=(sameB_iff _ _).trans (none_iff h15)
    have e1:sameB (fun m=>tcN f m n) oneT=true↔usedN f n=1∧allN f n=16384:=(sameB_iff _ _).trans (one_iff h15)
    unfold moreE
    simp only[←e0,←e1]
    cases sameB (fun m=>tcN f m n) zeroN<;>cases sameB (fun m=>tcN f m n) oneT<;>simp[h2]
   rw[e]at this
   exact this
theorem kcheck_arg(w:World)(A:Option Addr)(n c:Nat)(most:Int)(h:most<1∨15<most):
  Calls Tryz.prog 137 #[.slice A n c,.int .i64 most] w fun e w'=>e=.returned (.int .i64 2)∧w=w':=by
 by_cases h1:most<1
 ·have hd:decide (most<1)=true:=by simpa using h1
  clear h
  go_enter Tryz.func137,Tryz.ntmps137
  go_wp2
  go_ret
  exact⟨rfl,rfl⟩
 ·have h2:15<most:=by omega
  have hd:decide (most<1)=false:=by simpa using h1
  clear h
  go_enter Tryz.func137,Tryz.ntmps137
  go_wp2
  go_ret
  exact⟨rfl,rfl⟩
theorem kcheck_many(w:World)(A:Option Addr)(n c:Nat)(most:Int)(h1:1≤most)(h2:most≤15)(h:320<n):
  Calls Tryz.prog 137 #[.slice A n c,.int .i64 most] w fun e w'=>e=.returned (.int .i64 4)∧w=w':=by
 have hd:decide (most<1)=false:=by simp;omega
 have hd2:decide (15<most)=false:=by simp;omega
 go_enter Tryz.func137,Tryz.ntmps137
 go_wp2
 go_ret
 exact⟨rfl,rfl⟩
theorem kcheck_rest(w:World)(A:Option Addr)(n c:Nat)(f:Nat→Nat)(most:Int)(hr:RdB w w.heap.size A n f)(h1:1≤most)(h2:most≤15)(h:n≤320):
  Calls Tryz.prog 137 #[.slice A n c,.int .i64 most] w fun e w'=>e=.returned (.int .i64 (if bigB f n most=true then 2 else endE (allN f n) (usedN f n)))∧Below w.heap.size w w':=by
 have HR:=Lib.hid hr
 clear hr
 have hd:decide (most<1)=false:=by simp;omega
 have hd2:decide (15<most)=false:=by simp;omega
 have hd3:decide ((320:Int)<(n:Int))=false:=by simp;omega
 obtain⟨E,hE⟩:∃E,E=(if bigB f n most=true then 2 else endE (allN f n) (usedN f n)):=⟨_,rfl⟩
 rw[←hE]
 have HE:=Lib.hid hE
 clear hE
 go_enter Tryz.func137,Tryz.ntmps137
 go_wp2
 go_loop [18] (fun i=>∃k:Nat,k≤n∧i=.int .i64 k∧∀j,j<k→(f j:Int)≤most) (fun i=>n-(intOf i).toNat)
 case atStart=>exact⟨0,Nat.zero_le _,rfl,fun j hj=>absurd hj (by omega)⟩
 case round=>
  obtain⟨k,hk,rfl,hall⟩:=hrel
  have HALL:=Lib.hid hall
  clear hall
  have hf:=HR.out.1 k
  by_cases hlt:k<n
  ·obtain⟨b,o,rfl,_,hc⟩:=HR.out.2 (by omega)
   have hcell:=hc k hlt
   clear hc
   by_cases hb:most<(f k:Int)
   ·have HB:=Lib.hid (bigB_yes hlt hb)
    go_wp2
    go_ret
    exact⟨ret_int (by rw[HE.out,if_pos HB.out]),Below.refl _ _⟩
   ·go_wp2
    refine⟨⟨k+1,hlt,by go_num,fun j hj=>?_⟩,by simp[intOf];omega⟩
    rcases Nat.eq_or_lt_of_le (Nat.le_of_lt_succ hj)with e|e
    ·subst e;omega
    ·exact HALL.out j e
  ·obtain rfl:k=n:=by omega
   clear hk hlt
   have h15:∀j,j<k→f j≤15:=fun j hj=>by have:=HALL.out j hj;omega
   have H15:=Lib.hid h15
   have HE2:=Lib.hid (HE.out.trans (by rw[if_neg (by rw[bigB_mk HALL.out];decide)]:_=endE (allN f k) (usedN f k)))
   clear h15
   go_wp2_with fail
   refine(count_any w A k c f HR.out (by omega) H15.out).mono ?_
   rintro e w1 ⟨rfl,hb⟩
   have HB:=Lib.hid hb
   clear hb
   go_wp2_with fail
   refine(chk_any w1 f k (by omega) H15.out).mono ?_
   rintro e w2 ⟨rfl,hb⟩
   rw[←HE2.out]
   have HB2:=Lib.hid (HB.out.trans (hb.mono HB.out.size))
   clear hb
   go_wp2
   go_ret
   exact⟨rfl,HB2.out⟩
end Go.Proofs.YtokpcpjnihinfaaGreat
namespace Go.Proofs.YtokpcpjnihinfaaGreat
open Go.RowKit Go.ChangeShapes Go.WideShapes Go.ChangeAt Go.Joins
theorem strE(L:List Nat)(d:Array UInt8)(h:(L.map UInt8.ofNat).toArray=d):(⟨d⟩:ByteArray)=strL L:=by rw[strL_eq,h]
end Go.Proofs.YtokpcpjnihinfaaGreat
namespace Go.Proofs.YtokpcpjnihinfaaGreat
open Go.RowKit Go.ChangeShapes Go.WideShapes Go.ChangeAt Go.Joins
theorem built_styC:Tryz.prog.built 27 [(0,.int .i64 32),(1,.int .i64 9),(2,.int .i64 100)]=some #[.int .i64 32,.int .i64 9,.int .i64 100,.bool false]:=by kernel_rfl
theorem zero_sty12:(Tryz.prog.info? 27).map (fun i=>(i.zero,i.size))=some (some (.agg #[.int .i64 0,.int .i64 0,.int .i64 0,.bool false]),4):=by kernel_rfl
theorem results_sty12{fn:Func}{p:Tmp}(h:fn.results=#[.cell p 27])(tmps:Array Value)(w:World)(g:Nat)(a b c:Int)(d:Bool)(hp:tmps.getD p undef=.pointer (some ⟨g,0,none⟩))(ht:BoxC w g #[.int .i64 a,.int .i64 b,.int .i64 c,.bool d] 27):
  (results fn tmps).run Tryz.prog w=.ok (.agg #[.int .i64 a,.int .i64 b,.int .i64 c,.bool d]) w:=by
 have hp':tmps[p]?.getD undef=.pointer (some ⟨g,0,none⟩):=by simpa using hp
 have hl:=run_loadVar_row (P:=Tryz.prog) w g 27 27 #[.int .i64 a,.int .i64 b,.int .i64 c,.bool d] (0,0) _ ht Tryz.underlying27 rfl szSty12
 simp[results,h,hp',asAddr,hl]
theorem style12_any(w:World):Calls Tryz.prog 10 #[] w fun e w'=>e=.returned (.agg #[.int .i64 32,.int .i64 9,.int .i64 100,.bool false])∧Below w.heap.size w w':=by
 obtain⟨h,hh⟩:∃h,h=w.heap.size:=⟨_,rfl⟩
 have hz:=(zero_of_info zero_sty12).1
 obtain⟨W1,hW1⟩:∃W,W=mkV w #[.int .i64 0,.int .i64 0,.int .i64 0,.bool false] #[.int .i64 32,.int .i64 9,.int .i64 100,.bool false] 27:=⟨_,rfl⟩
 have HX:Hid (BoxC W1 h #[.int .i64 32,.int .i64 9,.int .i64 100,.bool false] 27):=Lib.hid (by rw[hW1,hh];exact mkV_row _ _ _ _)
 have HB:Hid (Below h w W1):=Lib.hid (by rw[hW1,hh];exact mkV_below _ _ _ _)
 have HW1:=Lib.hid hW1;have HH:=Lib.hid hh
 clear hW1 hh
 go_enter Tryz.func10,Tryz.ntmps10
 go_wp2_with (first
  |(refine wpList_buildTo rfl 27 _ rfl (some 1) rfl #[.int .i64 32,.int .i64 9,.int .i64 100,.bool false] ?_ ?_;focus(simpa[Act.eval]using built_styC))
  |(refine wpList_store_rowTo rfl _ _ _ rfl rfl w.heap.size #[.int .i64 32,.int .i64 9,.int .i64 100,.bool false] rfl rfl 27 #[.int .i64 0,.int .i64 0,.int .i64 0,.bool false] (heap_alloc_new w _) szSty12 rfl (by simp[Value.oneCell']) ?_;rw[show(w.alloc (.cells #[.int .i64 0,.int .i64 0,.int .i64 0,.bool false] 27)).setRow w.heap.size #[.int .i64 32,.int .i64 9,.int .i64 100,.bool false]=mkV w #[.int .i64 0,.int .i64 0,.int .i64 0,.bool false] #[.int .i64 32,.int .i64 9,.int .i64 100,.bool false] 27 from rfl,←HW1.out,←HH.out])
  |fail)
 refine bodyPost_ret (results_sty12 rfl _ _ h 32 9 100 false rfl HX.out) rfl ?_
 exact⟨rfl,by rw[←HH.out];exact HB.out⟩
theorem by_const(w:World)(L:List Nat)(C:Array Value)(hC:C=(bytesL L.length (lst L)).toArray)(hL:BytesP L)(n:Nat)(hn:n=L.length)(hm:n≤1000):ByR (w.alloc (.cells C 5 (n,n+1))) (w.alloc (.cells C 5 (n,n+1))).heap.size (some ⟨w.heap.size,0,none⟩) n n (lst L):=by
 subst hn
 refine⟨⟨lst_lt hL,fun _=>⟨w.heap.size,0,rfl,by simp,fun j hj=>?_⟩⟩,(fun h=>by cases h),Nat.le_refl _,by unfold maxLen;omega⟩
 rw[Nat.zero_add,cell_of_row _ w.heap.size j _ _ _ (heap_alloc_new w _),hC]
 simp[bytesL,hj]
theorem alive12_any(HA:PAllCon)(w:World):Calls Tryz.prog 15 #[] w fun e w'=>e=.returned (.bool true)∧Below w.heap.size w w':=by
 have kc:=fun(w:World) (C:Array Value) (n c:Nat)=>Lib.run_convert_bytes_const (P:=Tryz.prog) w 22 5 C n c Tryz.underlying22 Tryz.underlying5
 have hval:=val_all_a
 have hall:∀w1:World,Calls Tryz.prog 9 #[.agg #[.int .i64 32,.int .i64 9,.int .i64 100,.bool false],.slice (some ⟨w1.heap.size,0,none⟩) 1 1] (w1.alloc (.cells #[.int .u8 97] 5 (1,2))) fun e w'=>∃Ao oc,e=.returned (.tuple #[.slice Ao 3 oc,.int .i64 0])∧ByR w' w'.heap.size Ao 3 oc (lst [75,4,0])∧Below w1.heap.size w1 w':=fun w1=>by
  have h1:=HA (w1.alloc (.cells #[.int .u8 97] 5 (1,2))) 32 9 100 false (some ⟨w1.heap.size,0,none⟩) 1 [97] (by_const w1 [97] _ (by rfl) (by intro x hx;simp at hx;omega) 1 rfl (by omega)) (by show 1≤_;omega)
  have e0:allE 32 9 100 ([97]:List Nat).length=0:=by decide
  rw[e0,if_pos rfl,hval]at h1
  refine h1.mono fun e w' ⟨Ao,on,oc,e1,e2,e3,e4⟩=>?_
  have e5:on=3:=e2
  subst e5
  exact⟨Ao,oc,e1,e3,((Below.refl _ _).alloc (Nat.le_refl _) _).trans (e4.mono (by simp))⟩
 have HAA:=Lib.hid hall
 clear HA hall hval
 go_enter Tryz.func15,Tryz.ntmps15
 go_wp2_with fail
 refine(style12_any w).mono ?_
 rintro e w1 ⟨rfl,hb⟩
 have HB1:=Lib.hid hb
 clear hb
 go_wp2_with fail
 refine(HAA.out w1).mono ?_
 rintro e w2 ⟨Ao,oc,rfl,rO,hb⟩
 have s1:(convert 22 9 (.slice Ao 3 oc)).run Tryz.prog w2=.ok (.string (strL [75,4,0])) w2:=run_str rO.1 oc
 rw[←strE [75,4,0] #[75,4,0] rfl]at s1
 have HB2:=Lib.hid (HB1.out.trans (hb.mono HB1.out.size))
 clear kc hb rO
 go_wp2
 go_ret
 exact⟨rfl,HB2.out⟩
end Go.Proofs.YtokpcpjnihinfaaGreat
namespace Go.Proofs.YtokpcpjnihinfaaGreat
open Go.RowKit Go.ChangeShapes Go.WideShapes Go.ChangeAt Go.Joins
theorem sameP_self(a:Prs):sameP a a=true:=by unfold sameP sameS samePen;simp
theorem greatP_small{hn wn bn:Nat}(h:greatP hn wn bn=false):hn≤600∧wn≤300∧bn≤300:=by
 unfold greatP at h
 simp only[Bool.or_eq_false_iff,decide_eq_false_iff_not]at h
 omega
theorem again12_walk(HA:PAllCon)(HF:PFlushCon)(HE:PFinishCon)(HC:PCheckCon)(HS:PSameCon)(p:Prs)(Ah:Option Addr)(hc:Nat)(Aw:Option Addr)(wc:Nat)(Ap:Option Addr)(pc:Nat)(w:World)(hp:PrsR w w.heap.size p Ah hc Aw wc Ap pc):
  Calls Tryz.prog 8 #[.agg (prsA p Ah hc Aw wc Ap pc)] w fun e w'=>e=.returned (.bool true)∧Below w.heap.size w w':=by
 obtain⟨X,hX⟩:∃X,X=prsA p Ah hc Aw wc Ap pc:=⟨_,rfl⟩
 obtain⟨Z,hZ⟩:∃Z,Z=prsA (begP 0 0 0 false) none 0 none 0 none 0:=⟨_,rfl⟩
 have hz:=(zero_of_info zero_prs).1
 rw[←hZ]at hz
 rw[←hX]
 obtain⟨W0,hW0⟩:∃W,W=w.alloc (.cells X 32):=⟨_,rfl⟩
 have HB0:Hid (Below w.heap.size w W0):=Lib.hid (by rw[hW0];exact(Below.refl _ _).alloc (Nat.le_refl _) _)
 have HXPat0:Hid (BoxC W0 (w.heap.size) X 32):=Lib.hid (by rw[hW0];exact BoxC.new w _ _)
 have HW0:=Lib.hid hW0;have HXS:Hid (X.size=9):=Lib.hid (by rw[hX];rfl);have HZS:Hid (Z.size=9):=Lib.hid (by rw[hZ];rfl);have HXE:=Lib.hid hX
 have HPV:Hid (∀V,Below w.heap.size w V→PrsR V V.heap.size p Ah hc Aw wc Ap pc):=Lib.hid fun V hV=>hp.on hV
 have HAL:=Lib.hid (alive12_any HA)
 have HGR0:Hid (∀V:World,Calls Tryz.prog 17 #[.agg X,.slice none 0 0] V fun e w'=>e=.returned (.bool (greatP p.hist.length p.wait.length 0))∧Below V.heap.size V w'):=Lib.hid fun V=>by rw[hX];exact rgreat12_any V p Ah hc Aw wc Ap pc none 0 0
 have HFL:Hid (p.hist.length≤1000000∧p.wait.length≤1000000→∀V,Below w.heap.size w V→Calls Tryz.prog 13 #[.agg X] V fun e w'=>PrsOut V w' e (ansP (askP p) (flushedP p)) (askP p)):=Lib.hid fun hl V hV=>by rw[hX];exact HF V p Ah hc Aw wc Ap pc (hp.on hV) hl.1 hl.2
 have HCK:Hid (∀V,Below w.heap.size w V→Calls Tryz.prog 16 #[.agg X] V fun e w'=>e=.returned (.int .i64 (chkP p))∧Below V.heap.size V w'):=Lib.hid fun V hV=>by rw[hX];exact HC V p Ah hc Aw wc Ap pc (hp.on hV)
 have HO8:Hid (X[8]?=some (.bool p.over)):=Lib.hid (by rw[hX];rfl)
 have HBY:=Lib.hid (And.intro (bytes_of hp.hist) (And.intro (bytes_of hp.wait) (bytes_of hp.pen)))
 have HFF:=Lib.hid HF;have HEE:=Lib.hid HE;have HCC:=Lib.hid HC;have HSS:=Lib.hid HS
 clear HA HF HE HC HS hp hX hZ hW0
 cases hg:greatP p.hist.length p.wait.length 0 with
 |true=>
  have HGR:Hid (∀V:World,Calls Tryz.prog 17 #[.agg X,.slice none 0 0] V fun e w'=>e=.returned (.bool true)∧Below V.heap.size V w'):=Lib.hid (hg▸HGR0.out)
  clear hg
  go_enter Tryz.func8,Tryz.ntmps8
  go_wp2_with (first|(rw[←HW0.out])|fail)
  refine(HAL.out W0).mono ?_
  rintro e W1 ⟨rfl,hb1⟩
  have HXPat1:Hid (BoxC W1 (w.heap.size) X 32):=Lib.hid (HXPat0.out.below hb1 HXPat0.out.lt)
  have HB1:Hid (Below w.heap.size w W1):=Lib.hid (HB0.out.trans (hb1.mono HB0.out.size))
  have HBU1:=Lib.hid hb1
  clear hb1
  go_wp2_with (first
   |(refine wpList_load_row rfl _ _ rfl (w.heap.size) rfl _ X (0,0) _ HXPat1.out Tryz.underlying32 rfl (by rw[HXS.out];exact szPrs) ?_)
   |fail)
  refine(HGR.out W1).mono ?_
  rintro e W2 ⟨rfl,hb2⟩
  have HXPat2:Hid (BoxC W2 (w.heap.size) X 32):=Lib.hid (HXPat1.out.below hb2 HXPat1.out.lt)
  have HB2:Hid (Below w.heap.size w W2):=Lib.hid (HB1.out.trans (hb2.mono HB1.out.size))
  have HBU2:=Lib.hid hb2
  clear hb2
  go_wp2
  go_ret
  exact⟨rfl,HB2.out⟩
 |false=>
  have HGR:Hid (∀V:World,Calls Tryz.prog 17 #[.agg X,.slice none 0 0] V fun e w'=>e=.returned (.bool false)∧Below V.heap.size V w'):=Lib.hid (hg▸HGR0.out)
  obtain⟨hs1,hs2,_⟩:=greatP_small hg
  have HFP:=Lib.hid (HFL.out ⟨by omega,by omega⟩)
  clear hg hs1 hs2
  obtain⟨E,hE⟩:∃E,E=askP p:=⟨_,rfl⟩
  obtain⟨R3,hR3⟩:∃R,R=ansP E (flushedP p):=⟨_,rfl⟩
  rw[←hE,←hR3]at HFP
  have hE3:E=8∧mayP p=false∨E=6∧p.over=true∨E=0:=by
   rw[hE];unfold askP
   by_cases h1:mayP p=false
   ·rw[if_pos h1];exact .inl ⟨rfl,h1⟩
   ·rw[if_neg h1]
    cases h2:p.over with
    |true=>exact .inr (.inl ⟨rfl,rfl⟩)
    |false=>exact .inr (.inr rfl)
  rcases hE3 with⟨h8,hm⟩|⟨h6,ho⟩|h0
  ·subst h8
   have HCV:Hid (chkP p=8):=Lib.hid (by unfold chkP;rw[hm];rfl)
   clear hm hE hR3
   go_enter Tryz.func8,Tryz.ntmps8
   go_wp2_with (first|(rw[←HW0.out])|fail)
   refine(HAL.out W0).mono ?_
   rintro e W1 ⟨rfl,hb1⟩
   have HXPat1:Hid (BoxC W1 (w.heap.size) X 32):=Lib.hid (HXPat0.out.below hb1 HXPat0.out.lt)
   have HB1:Hid (Below w.heap.size w W1):=Lib.hid (HB0.out.trans (hb1.mono HB0.out.size))
   have HBU1:=Lib.hid hb1
   clear hb1
   go_wp2_with (first
    |(refine wpList_load_row rfl _ _ rfl (w.heap.size) rfl _ X (0,0) _ HXPat1.out Tryz.underlying32 rfl (by rw[HXS.out];exact szPrs) ?_)
    |fail)
   refine(HGR.out W1).mono ?_
   rintro e W2 ⟨rfl,hb2⟩
   have HXPat2:Hid (BoxC W2 (w.heap.size) X 32):=Lib.hid (HXPat1.out.below hb2 HXPat1.out.lt)
   have HB2:Hid (Below w.heap.size w W2):=Lib.hid (HB1.out.trans (hb2.mono HB1.out.size))
   have HBU2:=Lib.hid hb2
   clear hb2
   go_wp2_with (first
    |(refine wpList_load_row rfl _ _ rfl (w.heap.size) rfl _ X (0,0) _ HXPat2.out Tryz.underlying32 rfl (by rw[HXS.out];exact szPrs) ?_)
    |fail)
   refine(HFP.out W2 HB2.out).mono ?_
   rintro e w3 ⟨A3a,k3a,A3b,k3b,A3c,k3c,A3d,k3d,rfl,r3,ro3,hb3,-,-⟩
   obtain⟨Y3,hY3⟩:∃Y,Y=prsA R3.1 A3a k3a A3b k3b A3c k3c:=⟨_,rfl⟩
   have HY3S:Hid (Y3.size=9):=Lib.hid (by rw[hY3];rfl)
   have HY3O:Hid (Y3.all (·.oneCell')=true):=Lib.hid (by rw[hY3];exact prsA_one ..)
   have HY3E:=Lib.hid hY3
   obtain⟨W3,hW3⟩:∃W,W=mkV w3 Z Y3 32:=⟨_,rfl⟩
   have HX3:Hid (BoxC W3 w3.heap.size Y3 32):=Lib.hid (by rw[hW3];exact mkV_row _ _ _ _)
   have bw3:Below w3.heap.size w3 W3:=by rw[hW3];exact mkV_below _ _ _ _
   have bu3:Below W2.heap.size W2 W3:=hb3.trans (bw3.mono hb3.size)
   have HBU3:=Lib.hid bu3
   have HB3:Hid (Below w.heap.size w W3):=Lib.hid (HB2.out.trans (bu3.mono HB2.out.size))
   have HR3:Hid (PrsR W3 W3.heap.size R3.1 A3a k3a A3b k3b A3c k3c):=Lib.hid (r3.on bw3)
   have HRO3:Hid (ByR W3 W3.heap.size A3d R3.2.length k3d (lst R3.2)):=Lib.hid ((ro3.below bw3 (Nat.le_refl _)).more bw3.size)
   have HXPat3:Hid (BoxC W3 (w.heap.size) X 32):=Lib.hid (HXPat2.out.below bu3 HXPat2.out.lt)
   have HX3at3:=HX3
   have HW3:=Lib.hid hW3
   rw[←hY3]
   clear hW3 hb3 r3 ro3 bw3 bu3 hY3
   go_wp2_with (first
    |(refine wpList_store_rowTo rfl _ _ _ rfl rfl w3.heap.size Y3 rfl rfl 32 Z (heap_alloc_new w3 _) (by rw[HY3S.out];exact szPrs) (by rw[HZS.out,HY3S.out]) HY3O.out ?_;rw[show(w3.alloc (.cells Z 32)).setRow w3.heap.size Y3=mkV w3 Z Y3 32 from rfl,←HW3.out])
    |(refine wpList_load_row_on (by rfl) _ _ rfl (w.heap.size) rfl _ X (0,0) _ HXPat3.out Tryz.underlying32 rfl (by rw[HXS.out];exact szPrs) ?_)
    |fail)
   refine(HCK.out W3 HB3.out).mono ?_
   rintro e W4 ⟨rfl,hb4⟩
   rw[HCV.out]
   have HB4:Hid (Below w.heap.size w W4):=Lib.hid (HB3.out.trans (hb4.mono HB3.out.size))
   have HBU4:=Lib.hid hb4
   clear hb4
   go_wp2
   go_ret
   exact⟨rfl,HB4.out⟩
  ·subst h6
   have HOV:Hid (p.over=true):=Lib.hid ho
   clear hE hR3 ho
   go_enter Tryz.func8,Tryz.ntmps8
   go_wp2_with (first|(rw[←HW0.out])|fail)
   refine(HAL.out W0).mono ?_
   rintro e W1 ⟨rfl,hb1⟩
   have HXPat1:Hid (BoxC W1 (w.heap.size) X 32):=Lib.hid (HXPat0.out.below hb1 HXPat0.out.lt)
   have HB1:Hid (Below w.heap.size w W1):=Lib.hid (HB0.out.trans (hb1.mono HB0.out.size))
   have HBU1:=Lib.hid hb1
   clear hb1
   go_wp2_with (first
    |(refine wpList_load_row rfl _ _ rfl (w.heap.size) rfl _ X (0,0) _ HXPat1.out Tryz.underlying32 rfl (by rw[HXS.out];exact szPrs) ?_)
    |fail)
   refine(HGR.out W1).mono ?_
   rintro e W2 ⟨rfl,hb2⟩
   have HXPat2:Hid (BoxC W2 (w.heap.size) X 32):=Lib.hid (HXPat1.out.below hb2 HXPat1.out.lt)
   have HB2:Hid (Below w.heap.size w W2):=Lib.hid (HB1.out.trans (hb2.mono HB1.out.size))
   have HBU2:=Lib.hid hb2
   clear hb2
   go_wp2_with (first
    |(refine wpList_load_row rfl _ _ rfl (w.heap.size) rfl _ X (0,0) _ HXPat2.out Tryz.underlying32 rfl (by rw[HXS.out];exact szPrs) ?_)
    |fail)
   refine(HFP.out W2 HB2.out).mono ?_
   rintro e w3 ⟨A3a,k3a,A3b,k3b,A3c,k3c,A3d,k3d,rfl,r3,ro3,hb3,-,-⟩
   obtain⟨Y3,hY3⟩:∃Y,Y=prsA R3.1 A3a k3a A3b k3b A3c k3c:=⟨_,rfl⟩
   have HY3S:Hid (Y3.size=9):=Lib.hid (by rw[hY3];rfl)
   have HY3O:Hid (Y3.all (·.oneCell')=true):=Lib.hid (by rw[hY3];exact prsA_one ..)
   have HY3E:=Lib.hid hY3
   obtain⟨W3,hW3⟩:∃W,W=mkV w3 Z Y3 32:=⟨_,rfl⟩
   have HX3:Hid (BoxC W3 w3.heap.size Y3 32):=Lib.hid (by rw[hW3];exact mkV_row _ _ _ _)
   have bw3:Below w3.heap.size w3 W3:=by rw[hW3];exact mkV_below _ _ _ _
   have bu3:Below W2.heap.size W2 W3:=hb3.trans (bw3.mono hb3.size)
   have HBU3:=Lib.hid bu3
   have HB3:Hid (Below w.heap.size w W3):=Lib.hid (HB2.out.trans (bu3.mono HB2.out.size))
   have HR3:Hid (PrsR W3 W3.heap.size R3.1 A3a k3a A3b k3b A3c k3c):=Lib.hid (r3.on bw3)
   have HRO3:Hid (ByR W3 W3.heap.size A3d R3.2.length k3d (lst R3.2)):=Lib.hid ((ro3.below bw3 (Nat.le_refl _)).more bw3.size)
   have HXPat3:Hid (BoxC W3 (w.heap.size) X 32):=Lib.hid (HXPat2.out.below bu3 HXPat2.out.lt)
   have HX3at3:=HX3
   have HW3:=Lib.hid hW3
   rw[←hY3]
   clear hW3 hb3 r3 ro3 bw3 bu3 hY3
   have c8:W3.cell? ⟨w.heap.size,8,none⟩=some (.bool true):=by rw[←HOV.out];exact HXPat3.out.cell.trans HO8.out
   go_wp2_with (first
    |(refine wpList_store_rowTo rfl _ _ _ rfl rfl w3.heap.size Y3 rfl rfl 32 Z (heap_alloc_new w3 _) (by rw[HY3S.out];exact szPrs) (by rw[HZS.out,HY3S.out]) HY3O.out ?_;rw[show(w3.alloc (.cells Z 32)).setRow w3.heap.size Y3=mkV w3 Z Y3 32 from rfl,←HW3.out]))
   go_ret
   exact⟨rfl,HB3.out⟩
  ·subst h0
   have hask:askP p=0:=hE.symm
   have gd:GoodP p:=ask_good hask HBY.out.1 HBY.out.2.1 HBY.out.2.2
   obtain⟨g1,g2,g3,g4,_⟩:=flushed_good gd
   have eR3:R3=flushedP p:=by rw[hR3];rfl
   rw[←eR3]at g1 g2 g3 g4
   have e2:flushedP R3.1=(R3.1,[]):=flushed_none g1 g2 g3
   obtain⟨f1,f2,_,_⟩:=fin_good g1
   have hsty:=mayS_rng gd.sty
   have hl3:R3.1.hist.length≤1000000∧R3.1.wait.length≤1000000:=by
    have h1:=g1.hist;have h2:R3.1.s=p.s:=by rw[eR3];rfl
    exact⟨by omega,by rw[g3];exact Nat.zero_le _⟩
   obtain⟨R5,hR5⟩:∃R,R=finP R3.1:=⟨_,rfl⟩
   rw[←hR5]at f1 f2
   have hl5:R5.1.hist.length≤1000000∧R5.1.wait.length≤1000000:=by
    have h1:=(mayP_is f1).2.1
    have h2:R5.1.s=R3.1.s:=by rw[hR5];rfl
    have h4:R3.1.s=p.s:=by rw[eR3];rfl
    have h3:R5.1.wait=[]:=by rw[hR5];rfl
    exact⟨by omega,by rw[h3];exact Nat.zero_le _⟩
   have a3:askP R3.1=0:=g1.ask
   have a5:askP R5.1=6:=by unfold askP;rw[f1,f2];rfl
   have c5:chkP R5.1=0:=by unfold chkP;rw[f1];rfl
   have HA3:=Lib.hid a3;have HA5:=Lib.hid a5;have HC5:=Lib.hid c5;have HE2:=Lib.hid e2;have HL3:=Lib.hid hl3;have HL5:=Lib.hid hl5;have HR5E:=Lib.hid hR5
   clear hE hR3 hask gd g1 g2 g3 g4 eR3 e2 f1 f2 hsty hl3 hl5 hR5 a3 a5 c5
   go_enter Tryz.func8,Tryz.ntmps8
   go_wp2_with (first|(rw[←HW0.out])|fail)
   refine(HAL.out W0).mono ?_
   rintro e W1 ⟨rfl,hb1⟩
   have HXPat1:Hid (BoxC W1 (w.heap.size) X 32):=Lib.hid (HXPat0.out.below hb1 HXPat0.out.lt)
   have HB1:Hid (Below w.heap.size w W1):=Lib.hid (HB0.out.trans (hb1.mono HB0.out.size))
   have HBU1:=Lib.hid hb1
   clear hb1
   go_wp2_with (first
    |(refine wpList_load_row rfl _ _ rfl (w.heap.size) rfl _ X (0,0) _ HXPat1.out Tryz.underlying32 rfl (by rw[HXS.out];exact szPrs) ?_)
    |fail)
   refine(HGR.out W1).mono ?_
   rintro e W2 ⟨rfl,hb2⟩
   have HXPat2:Hid (BoxC W2 (w.heap.size) X 32):=Lib.hid (HXPat1.out.below hb2 HXPat1.out.lt)
   have HB2:Hid (Below w.heap.size w W2):=Lib.hid (HB1.out.trans (hb2.mono HB1.out.size))
   have HBU2:=Lib.hid hb2
   clear hb2
   go_wp2_with (first
    |(refine wpList_load_row rfl _ _ rfl (w.heap.size) rfl _ X (0,0) _ HXPat2.out Tryz.underlying32 rfl (by rw[HXS.out];exact szPrs) ?_)
    |fail)
   refine(HFP.out W2 HB2.out).mono ?_
   rintro e w3 ⟨A3a,k3a,A3b,k3b,A3c,k3c,A3d,k3d,rfl,r3,ro3,hb3,-,-⟩
   obtain⟨Y3,hY3⟩:∃Y,Y=prsA R3.1 A3a k3a A3b k3b A3c k3c:=⟨_,rfl⟩
   have HY3S:Hid (Y3.size=9):=Lib.hid (by rw[hY3];rfl)
   have HY3O:Hid (Y3.all (·.oneCell')=true):=Lib.hid (by rw[hY3];exact prsA_one ..)
   have HY3E:=Lib.hid hY3
   obtain⟨W3,hW3⟩:∃W,W=mkV w3 Z Y3 32:=⟨_,rfl⟩
   have HX3:Hid (BoxC W3 w3.heap.size Y3 32):=Lib.hid (by rw[hW3];exact mkV_row _ _ _ _)
   have bw3:Below w3.heap.size w3 W3:=by rw[hW3];exact mkV_below _ _ _ _
   have bu3:Below W2.heap.size W2 W3:=hb3.trans (bw3.mono hb3.size)
   have HBU3:=Lib.hid bu3
   have HB3:Hid (Below w.heap.size w W3):=Lib.hid (HB2.out.trans (bu3.mono HB2.out.size))
   have HR3:Hid (PrsR W3 W3.heap.size R3.1 A3a k3a A3b k3b A3c k3c):=Lib.hid (r3.on bw3)
   have HRO3:Hid (ByR W3 W3.heap.size A3d R3.2.length k3d (lst R3.2)):=Lib.hid ((ro3.below bw3 (Nat.le_refl _)).more bw3.size)
   have HXPat3:Hid (BoxC W3 (w.heap.size) X 32):=Lib.hid (HXPat2.out.below bu3 HXPat2.out.lt)
   have HX3at3:=HX3
   have HW3:=Lib.hid hW3
   rw[←hY3]
   clear hW3 hb3 r3 ro3 bw3 bu3 hY3
   have hfl:=HFF.out W3 R3.1 A3a k3a A3b k3b A3c k3c HR3.out HL3.out.1 HL3.out.2
   rw[HA3.out,HE2.out,←HY3E.out]at hfl
   have HFL4:=Lib.hid hfl
   clear hfl
   go_wp2_with (first
    |(refine wpList_store_rowTo rfl _ _ _ rfl rfl w3.heap.size Y3 rfl rfl 32 Z (heap_alloc_new w3 _) (by rw[HY3S.out];exact szPrs) (by rw[HZS.out,HY3S.out]) HY3O.out ?_;rw[show(w3.alloc (.cells Z 32)).setRow w3.heap.size Y3=mkV w3 Z Y3 32 from rfl,←HW3.out])
    |(refine wpList_load_row rfl _ _ rfl (w3.heap.size) rfl _ Y3 (0,0) _ HX3at3.out Tryz.underlying32 rfl (by rw[HY3S.out];exact szPrs) ?_)
    |fail)
   refine HFL4.out.mono ?_
   rintro e w4 ⟨A4a,k4a,A4b,k4b,A4c,k4c,A4d,k4d,rfl,r4,ro4,hb4,-,-⟩
   obtain⟨Y4,hY4⟩:∃Y,Y=prsA (ansP 0 (R3.1,([]:List Nat))).1 A4a k4a A4b k4b A4c k4c:=⟨_,rfl⟩
   have HY4S:Hid (Y4.size=9):=Lib.hid (by rw[hY4];rfl)
   have HY4O:Hid (Y4.all (·.oneCell')=true):=Lib.hid (by rw[hY4];exact prsA_one ..)
   have HY4E:=Lib.hid hY4
   obtain⟨W4,hW4⟩:∃W,W=mkV w4 Z Y4 32:=⟨_,rfl⟩
   have HX4:Hid (BoxC W4 w4.heap.size Y4 32):=Lib.hid (by rw[hW4];exact mkV_row _ _ _ _)
   have bw4:Below w4.heap.size w4 W4:=by rw[hW4];exact mkV_below _ _ _ _
   have bu4:Below W3.heap.size W3 W4:=hb4.trans (bw4.mono hb4.size)
   have HBU4:=Lib.hid bu4
   have HB4:Hid (Below w.heap.size w W4):=Lib.hid (HB3.out.trans (bu4.mono HB3.out.size))
   have HR4:Hid (PrsR W4 W4.heap.size (ansP 0 (R3.1,([]:List Nat))).1 A4a k4a A4b k4b A4c k4c):=Lib.hid (r4.on bw4)
   have HRO4:Hid (ByR W4 W4.heap.size A4d (ansP 0 (R3.1,([]:List Nat))).2.length k4d (lst (ansP 0 (R3.1,([]:List Nat))).2)):=Lib.hid ((ro4.below bw4 (Nat.le_refl _)).more bw4.size)
   have HXPat4:Hid (BoxC W4 (w.heap.size) X 32):=Lib.hid (HXPat3.out.below bu4 HXPat3.out.lt)
   have HX3at4:Hid (BoxC W4 (w3.heap.size) Y3 32):=Lib.hid (HX3at3.out.below bu4 HX3at3.out.lt)
   have HX4at4:=HX4
   have HW4:=Lib.hid hW4
   rw[←hY4]
   clear hW4 hb4 r4 ro4 bw4 bu4 hY4
   have hfi:=HEE.out W4 R3.1 A3a k3a A3b k3b A3c k3c (HR3.out.on HBU4.out) HL3.out.1 HL3.out.2
   rw[HA3.out,←HR5E.out,←HY3E.out]at hfi
   have HFI5:=Lib.hid hfi
   clear hfi
   go_wp2_with (first
    |(refine wpList_store_rowTo rfl _ _ _ rfl rfl w4.heap.size Y4 rfl rfl 32 Z (heap_alloc_new w4 _) (by rw[HY4S.out];exact szPrs) (by rw[HZS.out,HY4S.out]) HY4O.out ?_;rw[show(w4.alloc (.cells Z 32)).setRow w4.heap.size Y4=mkV w4 Z Y4 32 from rfl,←HW4.out])
    |(refine wpList_load_row rfl _ _ rfl (w3.heap.size) rfl _ Y3 (0,0) _ HX3at4.out Tryz.underlying32 rfl (by rw[HY3S.out];exact szPrs) ?_)
    |fail)
   refine HFI5.out.mono ?_
   rintro e w5 ⟨A5a,k5a,A5b,k5b,A5c,k5c,A5d,k5d,rfl,r5,ro5,hb5,-,-⟩
   obtain⟨Y5,hY5⟩:∃Y,Y=prsA (ansP 0 R5).1 A5a k5a A5b k5b A5c k5c:=⟨_,rfl⟩
   have HY5S:Hid (Y5.size=9):=Lib.hid (by rw[hY5];rfl)
   have HY5O:Hid (Y5.all (·.oneCell')=true):=Lib.hid (by rw[hY5];exact prsA_one ..)
   have HY5E:=Lib.hid hY5
   obtain⟨W5,hW5⟩:∃W,W=mkV w5 Z Y5 32:=⟨_,rfl⟩
   have HX5:Hid (BoxC W5 w5.heap.size Y5 32):=Lib.hid (by rw[hW5];exact mkV_row _ _ _ _)
   have bw5:Below w5.heap.size w5 W5:=by rw[hW5];exact mkV_below _ _ _ _
   have bu5:Below W4.heap.size W4 W5:=hb5.trans (bw5.mono hb5.size)
   have HBU5:=Lib.hid bu5
   have HB5:Hid (Below w.heap.size w W5):=Lib.hid (HB4.out.trans (bu5.mono HB4.out.size))
   have HR5:Hid (PrsR W5 W5.heap.size (ansP 0 R5).1 A5a k5a A5b k5b A5c k5c):=Lib.hid (r5.on bw5)
   have HRO5:Hid (ByR W5 W5.heap.size A5d (ansP 0 R5).2.length k5d (lst (ansP 0 R5).2)):=Lib.hid ((ro5.below bw5 (Nat.le_refl _)).more bw5.size)
   have HXPat5:Hid (BoxC W5 (w.heap.size) X 32):=Lib.hid (HXPat4.out.below bu5 HXPat4.out.lt)
   have HX3at5:Hid (BoxC W5 (w3.heap.size) Y3 32):=Lib.hid (HX3at4.out.below bu5 HX3at4.out.lt)
   have HX4at5:Hid (BoxC W5 (w4.heap.size) Y4 32):=Lib.hid (HX4at4.out.below bu5 HX4at4.out.lt)
   have HX5at5:=HX5
   have HW5:=Lib.hid hW5
   rw[←hY5]
   clear hW5 hb5 r5 ro5 bw5 bu5 hY5
   have hf6:=HFF.out W5 R5.1 A5a k5a A5b k5b A5c k5c HR5.out HL5.out.1 HL5.out.2
   rw[HA5.out]at hf6
   have HF6:Hid (Calls Tryz.prog 13 #[.agg Y5] W5 fun e w'=>PrsOut W5 w' e (ansP 6 (flushedP R5.1)) 6):=Lib.hid (by rw[HY5E.out];exact hf6)
   clear hf6
   go_wp2_with (first
    |(refine wpList_store_rowTo rfl _ _ _ rfl rfl w5.heap.size Y5 rfl rfl 32 Z (heap_alloc_new w5 _) (by rw[HY5S.out];exact szPrs) (by rw[HZS.out,HY5S.out]) HY5O.out ?_;rw[show(w5.alloc (.cells Z 32)).setRow w5.heap.size Y5=mkV w5 Z Y5 32 from rfl,←HW5.out])
    |(refine wpList_load_row rfl _ _ rfl (w5.heap.size) rfl _ Y5 (0,0) _ HX5at5.out Tryz.underlying32 rfl (by rw[HY5S.out];exact szPrs) ?_)
    |fail)
   refine HF6.out.mono ?_
   rintro e w6 ⟨A6a,k6a,A6b,k6b,A6c,k6c,A6d,k6d,rfl,r6,ro6,hb6,-,-⟩
   obtain⟨Y6,hY6⟩:∃Y,Y=prsA (ansP 6 (flushedP R5.1)).1 A6a k6a A6b k6b A6c k6c:=⟨_,rfl⟩
   have HY6S:Hid (Y6.size=9):=Lib.hid (by rw[hY6];rfl)
   have HY6O:Hid (Y6.all (·.oneCell')=true):=Lib.hid (by rw[hY6];exact prsA_one ..)
   have HY6E:=Lib.hid hY6
   obtain⟨W6,hW6⟩:∃W,W=mkV w6 Z Y6 32:=⟨_,rfl⟩
   have HX6:Hid (BoxC W6 w6.heap.size Y6 32):=Lib.hid (by rw[hW6];exact mkV_row _ _ _ _)
   have bw6:Below w6.heap.size w6 W6:=by rw[hW6];exact mkV_below _ _ _ _
   have bu6:Below W5.heap.size W5 W6:=hb6.trans (bw6.mono hb6.size)
   have HBU6:=Lib.hid bu6
   have HB6:Hid (Below w.heap.size w W6):=Lib.hid (HB5.out.trans (bu6.mono HB5.out.size))
   have HR6:Hid (PrsR W6 W6.heap.size (ansP 6 (flushedP R5.1)).1 A6a k6a A6b k6b A6c k6c):=Lib.hid (r6.on bw6)
   have HRO6:Hid (ByR W6 W6.heap.size A6d (ansP 6 (flushedP R5.1)).2.length k6d (lst (ansP 6 (flushedP R5.1)).2)):=Lib.hid ((ro6.below bw6 (Nat.le_refl _)).more bw6.size)
   have HXPat6:Hid (BoxC W6 (w.heap.size) X 32):=Lib.hid (HXPat5.out.below bu6 HXPat5.out.lt)
   have HX3at6:Hid (BoxC W6 (w3.heap.size) Y3 32):=Lib.hid (HX3at5.out.below bu6 HX3at5.out.lt)
   have HX4at6:Hid (BoxC W6 (w4.heap.size) Y4 32):=Lib.hid (HX4at5.out.below bu6 HX4at5.out.lt)
   have HX5at6:Hid (BoxC W6 (w5.heap.size) Y5 32):=Lib.hid (HX5at5.out.below bu6 HX5at5.out.lt)
   have HX6at6:=HX6
   have HW6:=Lib.hid hW6
   rw[←hY6]
   clear hW6 hb6 r6 ro6 bw6 bu6 hY6
   have hf7:=HEE.out W6 R5.1 A5a k5a A5b k5b A5c k5c (HR5.out.on HBU6.out) HL5.out.1 HL5.out.2
   rw[HA5.out]at hf7
   have HF7:Hid (Calls Tryz.prog 14 #[.agg Y5] W6 fun e w'=>PrsOut W6 w' e (ansP 6 (finP R5.1)) 6):=Lib.hid (by rw[HY5E.out];exact hf7)
   clear hf7
   go_wp2_with (first
    |(refine wpList_store_rowTo rfl _ _ _ rfl rfl w6.heap.size Y6 rfl rfl 32 Z (heap_alloc_new w6 _) (by rw[HY6S.out];exact szPrs) (by rw[HZS.out,HY6S.out]) HY6O.out ?_;rw[show(w6.alloc (.cells Z 32)).setRow w6.heap.size Y6=mkV w6 Z Y6 32 from rfl,←HW6.out])
    |(refine wpList_load_row rfl _ _ rfl (w5.heap.size) rfl _ Y5 (0,0) _ HX5at6.out Tryz.underlying32 rfl (by rw[HY5S.out];exact szPrs) ?_)
    |fail)
   refine HF7.out.mono ?_
   rintro e w7 ⟨A7a,k7a,A7b,k7b,A7c,k7c,A7d,k7d,rfl,r7,ro7,hb7,-,-⟩
   obtain⟨Y7,hY7⟩:∃Y,Y=prsA (ansP 6 (finP R5.1)).1 A7a k7a A7b k7b A7c k7c:=⟨_,rfl⟩
   have HY7S:Hid (Y7.size=9):=Lib.hid (by rw[hY7];rfl)
   have HY7O:Hid (Y7.all (·.oneCell')=true):=Lib.hid (by rw[hY7];exact prsA_one ..)
   have HY7E:=Lib.hid hY7
   obtain⟨W7,hW7⟩:∃W,W=mkV w7 Z Y7 32:=⟨_,rfl⟩
   have HX7:Hid (BoxC W7 w7.heap.size Y7 32):=Lib.hid (by rw[hW7];exact mkV_row _ _ _ _)
   have bw7:Below w7.heap.size w7 W7:=by rw[hW7];exact mkV_below _ _ _ _
   have bu7:Below W6.heap.size W6 W7:=hb7.trans (bw7.mono hb7.size)
   have HBU7:=Lib.hid bu7
   have HB7:Hid (Below w.heap.size w W7):=Lib.hid (HB6.out.trans (bu7.mono HB6.out.size))
   have HR7:Hid (PrsR W7 W7.heap.size (ansP 6 (finP R5.1)).1 A7a k7a A7b k7b A7c k7c):=Lib.hid (r7.on bw7)
   have HRO7:Hid (ByR W7 W7.heap.size A7d (ansP 6 (finP R5.1)).2.length k7d (lst (ansP 6 (finP R5.1)).2)):=Lib.hid ((ro7.below bw7 (Nat.le_refl _)).more bw7.size)
   have HXPat7:Hid (BoxC W7 (w.heap.size) X 32):=Lib.hid (HXPat6.out.below bu7 HXPat6.out.lt)
   have HX3at7:Hid (BoxC W7 (w3.heap.size) Y3 32):=Lib.hid (HX3at6.out.below bu7 HX3at6.out.lt)
   have HX4at7:Hid (BoxC W7 (w4.heap.size) Y4 32):=Lib.hid (HX4at6.out.below bu7 HX4at6.out.lt)
   have HX5at7:Hid (BoxC W7 (w5.heap.size) Y5 32):=Lib.hid (HX5at6.out.below bu7 HX5at6.out.lt)
   have HX7at7:=HX7
   have HW7:=Lib.hid hW7
   rw[←hY7]
   clear hW7 hb7 r7 ro7 bw7 bu7 hY7
   have q37:PrsR W7 W7.heap.size R3.1 A3a k3a A3b k3b A3c k3c:=(((HR3.out.on HBU4.out).on HBU5.out).on HBU6.out).on HBU7.out
   have q47:PrsR W7 W7.heap.size R3.1 A4a k4a A4b k4b A4c k4c:=((HR4.out.on HBU5.out).on HBU6.out).on HBU7.out
   have hsa:=HSS.out W7 R3.1 R3.1 A3a k3a A3b k3b A3c k3c A4a k4a A4b k4b A4c k4c q37 q47
   rw[sameP_self,←HY3E.out]at hsa
   have HSA:Hid (Calls Tryz.prog 24 #[.agg Y3,.agg Y4] W7 fun e w'=>e=.returned (.bool true)∧Below W7.heap.size W7 w'):=Lib.hid (by rw[HY4E.out];exact hsa)
   clear q37 q47 hsa
   go_wp2_with (first
    |(refine wpList_store_rowTo rfl _ _ _ rfl rfl w7.heap.size Y7 rfl rfl 32 Z (heap_alloc_new w7 _) (by rw[HY7S.out];exact szPrs) (by rw[HZS.out,HY7S.out]) HY7O.out ?_;rw[show(w7.alloc (.cells Z 32)).setRow w7.heap.size Y7=mkV w7 Z Y7 32 from rfl,←HW7.out])
    |(refine wpList_load_row_on (by rfl) _ _ rfl (w3.heap.size) rfl _ Y3 (0,0) _ HX3at7.out Tryz.underlying32 rfl (by rw[HY3S.out];exact szPrs) ?_)
    |(refine wpList_load_row_on (by rfl) _ _ rfl (w4.heap.size) rfl _ Y4 (0,0) _ HX4at7.out Tryz.underlying32 rfl (by rw[HY4S.out];exact szPrs) ?_)
    |fail)
   refine HSA.out.mono ?_
   rintro e W8 ⟨rfl,hb8⟩
   have HX5at8:Hid (BoxC W8 (w5.heap.size) Y5 32):=Lib.hid (HX5at7.out.below hb8 HX5at7.out.lt)
   have HB8:Hid (Below w.heap.size w W8):=Lib.hid (HB7.out.trans (hb8.mono HB7.out.size))
   have HBU8:=Lib.hid hb8
   clear hb8
   have hck:=HCC.out W8 R5.1 A5a k5a A5b k5b A5c k5c (((HR5.out.on HBU6.out).on HBU7.out).on HBU8.out)
   rw[HC5.out]at hck
   have HCK8:Hid (Calls Tryz.prog 16 #[.agg Y5] W8 fun e w'=>e=.returned (.int .i64 0)∧Below W8.heap.size W8 w'):=Lib.hid (by rw[HY5E.out];exact hck)
   clear hck
   go_wp2_with (first
    |(refine wpList_load_row_on (by rfl) _ _ rfl (w5.heap.size) rfl _ Y5 (0,0) _ HX5at8.out Tryz.underlying32 rfl (by rw[HY5S.out];exact szPrs) ?_)
    |fail)
   refine HCK8.out.mono ?_
   rintro e W9 ⟨rfl,hb9⟩
   have HB9:Hid (Below w.heap.size w W9):=Lib.hid (HB8.out.trans (hb9.mono HB8.out.size))
   have HBU9:=Lib.hid hb9
   clear hb9
   go_wp2
   go_ret
   exact⟨rfl,HB9.out⟩
end Go.Proofs.YtokpcpjnihinfaaGreat
namespace Go.Proofs.YtokpcpjnihinfaaGreat
theorem putF_shift(f:Nat→Nat)(d k v:Nat):∀n,putF (fun i=>f (i+d)) k v n=fun j=>putF f (k+8*d) v n (j+d)
 |0=>rfl
 |n+1=>by
  simp only[putF]
  rw[putF_shift f d k v n]
  funext j
  unfold stepF upd
  have e1:(k+8*d+n)/8=(k+n)/8+d:=by omega
  have e2:(k+8*d+n)%8=(k+n)%8:=by omega
  rw[e1,e2]
  by_cases h:j=(k+n)/8
  ·rw[if_pos h,if_pos (by omega)]
  ·rw[if_neg h,if_neg (by omega)]
theorem putsF_shift(d:Nat):∀(P:List (Nat×Nat)) (f:Nat→Nat) (k:Nat),putsF (fun i=>f (i+d)) k P=fun j=>putsF f (k+8*d) P (j+d)
 |[],_,_=>rfl
 |x::P,f,k=>by
  simp only[putsF]
  rw[putF_shift,putsF_shift d P (putF f (k+8*d) x.1 x.2) (k+x.2),show k+x.2+8*d=k+8*d+x.2 by omega]
theorem putsF_low:∀(P:List (Nat×Nat)) (f:Nat→Nat) (k j:Nat),j<k/8→putsF f k P j=f j
 |[],_,_,_,_=>rfl
 |x::P,f,k,j,h=>by
  simp only[putsF]
  rw[putsF_low P _ (k+x.2) j (by omega),putF_lowP f k x.1 x.2 j h]
where
 putF_lowP (f:Nat→Nat) (k v:Nat):∀n j,j<k/8→putF f k v n j=f j
 |0,_,_=>rfl
 |n+1,j,h=>by
  simp only[putF];unfold stepF upd
  rw[if_neg (by omega)]
  exact putF_lowP f k v n j h
theorem preL_drop(F:Nat→Nat)(L d:Nat):(preL F L).drop d=preL (fun j=>F (j+d)) (L-d):=by
 unfold preL
 apply List.ext_getElem?
 intro i
 rw[List.getElem?_drop,List.getElem?_map,List.getElem?_map]
 rcases Nat.lt_or_ge i (L-d)with h|h
 ·rw[List.getElem?_range h,List.getElem?_range (by omega),Nat.add_comm];rfl
 ·rw[List.getElem?_eq_none (by simp;omega),List.getElem?_eq_none (by simp;omega)];rfl
theorem preL_take(F:Nat→Nat){L d:Nat}(h:d≤L):(preL F L).take d=preL F d:=by
 unfold preL
 rw[←List.map_take,List.take_range,Nat.min_eq_left h]
theorem putP_shift(q:List Nat)(K kind:Nat)(raw:List Nat)(l:List Tok)(last:Bool):putP (q.drop (K/8)) (K%8) kind raw l last=((putP q K kind raw l last).1.drop (K/8),(putP q K kind raw l last).2-8*(K/8)):=by
 unfold putP
 rw[Nat.mod_mod]
 obtain⟨P,hP⟩:∃P,P=blkP (K%8) kind raw.length (lst raw) l last:=⟨_,rfl⟩
 rw[←hP]
 have e:lst (q.drop (K/8))=fun i=>lst q (i+K/8):=funext fun j=>lst_drop q _ j
 rw[e,putsF_shift,show K%8+8*(K/8)=K by omega]
 show(_,_)=((preL _ _).drop _,_)
 rw[preL_drop,show(K+bitsT P+7)/8-K/8=(K%8+bitsT P+7)/8 by omega,show K+bitsT P-8*(K/8)=K%8+bitsT P by omega]
theorem putP_take{q:List Nat}{K:Nat}(hq:K/8≤q.length)(kind:Nat)(raw:List Nat)(l:List Tok)(last:Bool):(putP q K kind raw l last).1.take (K/8)=q.take (K/8):=by
 show(preL _ _).take _=_
 rw[preL_take _ (by omega)]
 have e:q.take (K/8)=preL (lst (q.take (K/8))) (q.take (K/8)).length:=(preL_lst2 _).symm
 rw[e,List.length_take,Nat.min_eq_left hq]
 unfold preL
 refine List.map_congr_left fun j hj=>?_
 have hj:=List.mem_range.1 hj
 rw[putsF_low _ _ _ _ hj,lst_take q hj]
def sendP(p:Prs)(kind n:Nat)(l:List Tok)(last:Bool):Prs×List Nat:=
 ({(leftP p (putP p.pen p.k.toNat kind (p.wait.take n) l last) (p.wait.take n)).1 with wait:=p.wait.drop n},(leftP p (putP p.pen p.k.toNat kind (p.wait.take n) l last) (p.wait.take n)).2)
theorem take_mem{l:List Nat}(h:BytesP l)(n:Nat):BytesP (l.take n):=fun x hx=>h x (List.mem_of_mem_take hx)
theorem drop_mem{l:List Nat}(h:BytesP l)(n:Nat):BytesP (l.drop n):=fun x hx=>h x (List.mem_of_mem_drop hx)
structure GoodW (p:Prs):Prop where
 sty:mayS p.s p.h p.m=true
 hist:(p.hist.length:Int)≤p.s
 k0:0≤p.k
 k7:p.k≤7
 len:p.pen.length=(p.k.toNat+7)/8
 clean:Clean (lst p.pen) p.k.toNat
 over:p.over=false
 bh:BytesP p.hist
 bw:BytesP p.wait
theorem GoodP.w{p:Prs}(g:GoodP p):GoodW p:=⟨g.sty,g.hist,g.k0,g.k7,g.len,g.clean,g.over,g.bh,g.bw⟩
theorem GoodW.empty{p:Prs}(g:GoodW p):GoodP {p with wait:=[]}:=⟨g.sty,g.hist,(by have:=mayS_rng g.sty;show((0:Nat):Int)<p.m;omega),g.k0,g.k7,g.len,g.clean,g.over,g.bh,fun x hx=>by cases hx⟩
theorem GoodW.set{p:Prs}(g:GoodW p){b:List Nat}(hb:BytesP b):GoodW {p with wait:=b}:=⟨g.sty,g.hist,g.k0,g.k7,g.len,g.clean,g.over,g.bh,hb⟩
theorem sendP_good{p:Prs}(g:GoodW p)(kind n:Nat)(l:List Tok)(last:Bool):GoodW (sendP p kind n l last).1:=by
 have h:=leftP_good g.empty (putP_clean g.clean kind (p.wait.take n) l last) (putP_len ..) (take_mem g.bw n) (w:=[]) (fun x hx=>by cases hx) (by have:=mayS_rng g.sty;show((0:Nat):Int)<p.m;omega)
 exact h.w.set (drop_mem g.bw n)
theorem sendP_out(p:Prs)(raw:List Nat)(n:Nat)(hw:p.wait.take n=raw):sendP p (bstP p raw) n (tkP p raw) false=({(outP p raw).1 with wait:=p.wait.drop n},(outP p raw).2):=by
 unfold sendP;rw[hw];rfl
theorem wrtP_step{p:Prs}{N:Nat}(hm:mayS p.s p.h p.m=true)(hN:p.wait.length≤N)(h:p.m.toNat≤p.wait.length):
  wrtP N p p.wait=((wrtP N (sendP p (bstP p (p.wait.take p.m.toNat)) p.m.toNat (tkP p (p.wait.take p.m.toNat)) false).1 (p.wait.drop p.m.toNat)).1,(sendP p (bstP p (p.wait.take p.m.toNat)) p.m.toNat (tkP p (p.wait.take p.m.toNat)) false).2++(wrtP N (sendP p (bstP p (p.wait.take p.m.toNat)) p.m.toNat (tkP p (p.wait.take p.m.toNat)) false).1 (p.wait.drop p.m.toNat)).2):=by
 have hs:=mayS_rng hm
 rw[sendP_out p _ _ rfl]
 obtain⟨M,rfl⟩:∃M,N=M+1:=⟨N-1,by omega⟩
 have e:wrtP (M+1) ({(outP p (p.wait.take p.m.toNat)).1 with wait:=p.wait.drop p.m.toNat}) (p.wait.drop p.m.toNat)=wrtP M (outP p (p.wait.take p.m.toNat)).1 (p.wait.drop p.m.toNat):=by
  rw[wrt_wait]
  exact wrt_fuel _ _ _ _ hm (by rw[List.length_drop];omega) (by rw[List.length_drop];omega)
 show _=((wrtP (M+1) _ _).1,_++(wrtP (M+1) _ _).2)
 rw[e]
 simp only[wrtP]
 rw[if_pos h]
theorem wrtP_end{p:Prs}{N:Nat}(h:¬p.m.toNat≤p.wait.length):wrtP N p p.wait=(p,[]):=by
 cases N with
 |zero=>rfl
 |succ N=>simp only[wrtP];rw[if_neg h]
theorem send_most{p:Prs}(g:GoodW p){raw:List Nat}{n:Nat}(hw:p.wait.take n=raw):(sendP p (bstP p raw) n (tkP p raw) false).2.length≤6+raw.length:=by
 rw[sendP_out p raw n hw]
 have h:=out_most (p:={p with wait:=[]}) g.empty raw
 have h7:=g.k7
 have h2:(outP p raw).2.length+((outP p raw).1.k.toNat+7)/8≤(p.k.toNat+7)/8+5+raw.length:=h
 show(outP p raw).2.length≤_
 omega
theorem fin_is{p:Prs}(q:Prs×List Nat)(hq:q=sendP p (bstP p p.wait) p.wait.length (tkP p p.wait) true):finP p=({q.1 with pen:=[],k:=0,over:=true},q.2++q.1.pen):=by
 rw[hq]
 unfold sendP
 rw[List.take_length,List.drop_length]
 obtain⟨E,hE⟩:∃E,E=putP p.pen p.k.toNat (bstP p p.wait) p.wait (tkP p p.wait) true:=⟨_,rfl⟩
 have he:endP p=(E.1,8*E.1.length):=by unfold endP;rw[←hE]
 unfold finP
 rw[he,←hE]
 unfold leftP
 show({p with hist:=_,pen:=E.1.drop (8*E.1.length/8),k:=((8*E.1.length%8:Nat):Int),wait:=[],over:=true},E.1.take (8*E.1.length/8))=({p with hist:=_,wait:=[],pen:=[],k:=0,over:=true},E.1.take (E.2/8)++E.1.drop (E.2/8))
 rw[show 8*E.1.length/8=E.1.length by omega,List.drop_length,List.take_length,List.take_append_drop,show 8*E.1.length%8=0 by omega]
 rfl
def withP(p:Prs)(l:List Tok)(kind:Nat):Nat:=p.k.toNat+bitsT (blkP p.k.toNat kind p.wait.length (lst p.wait) l false)
def wholeN(n:Nat):Nat:=if n%8=0 then n else n+bitsT (blkP (n%8) 0 0 (lst []) [] false)
def codedP(p:Prs)(l:List Tok):Nat:=if withP p l 2<withP p l 1 then 2 else 1
def wayP(p:Prs)(l:List Tok):Nat:=if wholeN (withP p l (codedP p l))<withP p l 0 then codedP p l else 0
theorem wayP_le(p:Prs)(l:List Tok):wayP p l≤2:=by
 have h:codedP p l≤2:=by unfold codedP;split<;>omega
 unfold wayP;split
 ·exact h
 ·omega
theorem withP_is{p:Prs}(g:GoodW p)(l:List Tok)(kind:Nat):withP p l kind=(putP p.pen p.k.toNat kind p.wait l false).2:=by
 have:=g.k7;have:=g.k0
 rw[putP_bits,Nat.mod_eq_of_lt (show p.k.toNat<8 by omega)];rfl
theorem wholeN_is(q:List Nat×Nat):wholeN q.2=(stoP' q).2:=by
 unfold wholeN stoP'
 by_cases h:q.2%8=0
 ·rw[if_pos h,if_pos h]
 ·rw[if_neg h,if_neg h,putP_bits];rfl
def padP(r:Prs×List Nat):Prs×List Nat:=if 0<r.1.k then((sendP r.1 0 0 [] false).1,r.2++(sendP r.1 0 0 [] false).2)else r
theorem pad_none{p:Prs}(g:GoodP p)(hw:p.wait=[]):padP (p,[])=flushedP p:=by
 have hk:=g.k0
 unfold padP
 by_cases h:0<p.k
 ·rw[if_pos h]
  unfold flushedP flushP
  rw[hw,if_pos (show([]:List Nat).length=0 from rfl),if_neg (by omega)]
  unfold sendP
  rw[hw]
  rfl
 ·rw[if_neg h]
  have hk:p.k=0:=by have:=g.k0;omega
  exact(flushed_none g hk hw).symm
theorem pad_left{p:Prs}(_g:GoodW p){q:List Nat×Nat}(_hc:Clean (lst q.1) q.2)(hl:q.1.length=(q.2+7)/8):
  padP ({(leftP p q p.wait).1 with wait:=[]},(leftP p q p.wait).2)=({(leftP p (stoP' q) p.wait).1 with wait:=[]},(leftP p (stoP' q) p.wait).2):=by
 unfold padP
 show(if 0<((q.2%8:Nat):Int)then _ else _)=_
 unfold stoP'
 by_cases h0:q.2%8=0
 ·rw[if_neg (by omega),if_pos h0]
 ·rw[if_pos (by omega),if_neg h0]
  obtain⟨R,hR⟩:∃R,R=putP q.1 q.2 0 [] [] false:=⟨_,rfl⟩
  have hsh:=putP_shift q.1 q.2 0 [] [] false
  have htk:=putP_take (q:=q.1) (K:=q.2) (by omega) 0 [] [] false
  have hbits:=putP_bits q.1 q.2 0 [] [] false
  rw[←hR]at hsh htk hbits⊢
  have hge:q.2≤R.2:=by rw[hbits];omega
  have e6:q.2/8+(R.2-8*(q.2/8))/8=R.2/8:=by omega
  have e7:(R.2-8*(q.2/8))%8=R.2%8:=by omega
  have e8:q.1.take (q.2/8)++(R.1.drop (q.2/8)).take ((R.2-8*(q.2/8))/8)=R.1.take (R.2/8):=by
   rw[←htk,←e6]
   exact(List.take_add ..).symm
  have e9:(R.1.drop (q.2/8)).drop ((R.2-8*(q.2/8))/8)=R.1.drop (R.2/8):=by rw[List.drop_drop,e6]
  obtain⟨N,hN⟩:∃N,N=lastN p.s.toNat (p.hist++p.wait):=⟨_,rfl⟩
  have e5:lastN p.s.toNat (N++[])=N:=by
   have:=lastN_le p.s.toNat (p.hist++p.wait)
   rw[←hN]at this
   rw[List.append_nil]
   unfold lastN
   rw[show N.length-p.s.toNat=0 by omega];rfl
  have el:∀Q:List Nat×Nat,leftP p Q p.wait=({p with hist:=N,pen:=Q.1.drop (Q.2/8),k:=((Q.2%8:Nat):Int)},Q.1.take (Q.2/8)):=fun Q=>by rw[hN];rfl
  rw[el,el]
  have hs:∀p':Prs,p'=({p with hist:=N,pen:=q.1.drop (q.2/8),k:=((q.2%8:Nat):Int),wait:=[]}:Prs)→sendP p' 0 0 [] false=({p with hist:=N,pen:=R.1.drop (R.2/8),k:=((R.2%8:Nat):Int),wait:=[]},(R.1.drop (q.2/8)).take ((R.2-8*(q.2/8))/8)):=fun p' hp'=>by
   have a1:p'.pen=q.1.drop (q.2/8):=by rw[hp']
   have a2:p'.k.toNat=q.2%8:=by rw[hp'];exact Int.toNat_natCast _
   have a3:p'.wait=[]:=by rw[hp']
   have a4:p'.hist=N:=by rw[hp']
   have a5:p'.s=p.s:=by rw[hp']
   unfold sendP
   rw[a1,a2,a3,List.take_nil,List.drop_nil,hsh]
   unfold leftP
   rw[a4,a5,e5]
   show(_,_)=(_,_)
   rw[e9,e7,hp']
  rw[hs _ rfl]
  show({p with hist:=N,pen:=R.1.drop (R.2/8),k:=((R.2%8:Nat):Int),wait:=[]},q.1.take (q.2/8)++(R.1.drop (q.2/8)).take ((R.2-8*(q.2/8))/8))=_
  rw[e8]
theorem flush_is{p:Prs}(g:GoodP p)(hw:0<p.wait.length):padP (sendP p (wayP p (tkP p p.wait)) p.wait.length (tkP p p.wait) false)=flushedP p:=by
 obtain⟨l,hl⟩:∃l,l=tkP p p.wait:=⟨_,rfl⟩
 rw[←hl]
 unfold sendP
 rw[List.take_length,List.drop_length]
 rw[pad_left g.w (putP_clean g.clean _ _ _ _) (putP_len ..)]
 unfold flushedP
 suffices h:stoP' (putP p.pen p.k.toNat (wayP p l) p.wait l false)=flushP p by rw[h]
 unfold flushP
 rw[if_neg (by omega),←hl]
 obtain⟨one,h1⟩:∃q,q=putP p.pen p.k.toNat 0 p.wait l false:=⟨_,rfl⟩
 obtain⟨two,h2⟩:∃q,q=putP p.pen p.k.toNat 1 p.wait l false:=⟨_,rfl⟩
 obtain⟨three,h3⟩:∃q,q=putP p.pen p.k.toNat 2 p.wait l false:=⟨_,rfl⟩
 have w0:=withP_is g.w l 0;have w1:=withP_is g.w l 1;have w2:=withP_is g.w l 2
 rw[←h1]at w0;rw[←h2]at w1;rw[←h3]at w2
 have s1:stoP' one=one:=by
  unfold stoP';rw[if_pos]
  rw[h1,putP_bits,sto_bits];unfold padN
  have:=g.k7;have:=g.k0
  omega
 have hc:putP p.pen p.k.toNat (codedP p l) p.wait l false=lessP two three∧withP p l (codedP p l)=(lessP two three).2:=by
  unfold codedP lessP
  rw[w1,w2]
  by_cases h:three.2<two.2
  ·rw[if_pos h,if_pos h];exact⟨h3.symm,w2⟩
  ·rw[if_neg h,if_neg h];exact⟨h2.symm,w1⟩
 rw[←h1,←h2,←h3]
 unfold wayP
 rw[hc.2,wholeN_is,w0]
 conv=>rhs;unfold lessP
 by_cases h:(stoP' (lessP two three)).2<one.2
 ·rw[if_pos h,hc.1]
  have e:lessP two three=if three.2<two.2 then three else two:=rfl
  rw[if_pos (by rw[←e];exact h),←e]
 ·rw[if_neg h,←h1,s1]
  have e:lessP two three=if three.2<two.2 then three else two:=rfl
  rw[if_neg (by rw[←e];exact h)]
end Go.Proofs.YtokpcpjnihinfaaGreat
namespace Go.Proofs.YtokpcpjnihinfaaGreat
def FitN(x:Nat×Nat):Prop:=x.1<2^x.2∧x.2≤16
def val3(F:Nat→Nat)(L:Nat):Nat:=F L+256*F (L+1)+65536*F (L+2)
theorem putF_low(f:Nat→Nat)(k v:Nat):∀n j,j<k/8→putF f k v n j=f j
 |0,_,_=>rfl
 |n+1,j,h=>by
  simp only[putF];unfold stepF upd
  rw[if_neg (by omega)]
  exact putF_low f k v n j h
theorem val3_step(G:Nat→Nat)(k n b:Nat)(hn:n≤15):val3 (stepF G (k+n) b) (k/8)=val3 G (k/8)+b*2^(k%8+n):=by
 obtain⟨p,hp⟩:∃p,p=2^((k+n)%8):=⟨_,rfl⟩
 have hd:(k+n)/8=k/8∨(k+n)/8=k/8+1∨(k+n)/8=k/8+2:=by omega
 rcases hd with hd|hd|hd
 ·have e:2^(k%8+n)=p:=by rw[hp,show(k+n)%8=k%8+n by omega]
  rw[e]
  unfold val3 stepF upd
  rw[hd,←hp,if_pos rfl,if_neg (by omega),if_neg (by omega)]
  omega
 ·have e:2^(k%8+n)=256*p:=by rw[hp,show k%8+n=8+(k+n)%8 by omega,Nat.pow_add]
  rw[e,Nat.mul_left_comm]
  unfold val3 stepF upd
  rw[hd,←hp,if_neg (by omega),if_pos rfl,if_neg (by omega)]
  omega
 ·have e:2^(k%8+n)=65536*p:=by rw[hp,show k%8+n=16+(k+n)%8 by omega,Nat.pow_add]
  rw[e,Nat.mul_left_comm]
  unfold val3 stepF upd
  rw[hd,←hp,if_neg (by omega),if_neg (by omega),if_pos rfl]
  omega
theorem putF_val{f:Nat→Nat}{k:Nat}(hc:Clean f k)(v:Nat):∀n,n≤16→val3 (putF f k v n) (k/8)=f (k/8)+(v%2^n)*2^(k%8)
 |0,_=>by
  unfold val3
  simp only[putF]
  rw[hc.2.1 (k/8+1) (by omega),hc.2.1 (k/8+2) (by omega),Nat.pow_zero,Nat.mod_one];omega
 |n+1,h=>by
  have ih:=putF_val hc v n (by omega)
  simp only[putF]
  rw[val3_step _ _ _ _ (by omega),ih,Nat.mod_pow_succ,Nat.add_mul,Nat.add_assoc,Nat.mul_comm (2^n),Nat.mul_assoc,←Nat.pow_add,Nat.add_comm n]
theorem val3_next{F:Nat→Nat}(hF:∀j,F j<256)(L:Nat)(h:F (L+3)=0):val3 F L%256=F L∧val3 F L/256=val3 F (L+1):=by
 have h0:=hF L
 have h1:=hF (L+1)
 have h2:=hF (L+2)
 unfold val3
 rw[show L+1+1=L+2 by omega,show L+1+2=L+3 by omega,h]
 omega
theorem clean_off{F:Nat→Nat}{K:Nat}(h:Clean F K)(j:Nat)(hj:K<8*j):F j=0:=h.2.1 j (by omega)
theorem val3_end{F:Nat→Nat}{K:Nat}(h:Clean F K):val3 F (K/8)=F (K/8):=by
 unfold val3
 rw[h.2.1 (K/8+1) (by omega),h.2.1 (K/8+2) (by omega)];omega
theorem val3_lt{F:Nat→Nat}(hF:∀j,F j<256)(L:Nat):val3 F L<16777216:=by
 have h0:=hF L
 have h1:=hF (L+1)
 have h2:=hF (L+2)
 unfold val3;omega
theorem stepF_zero(f:Nat→Nat)(k:Nat):stepF f k 0=f:=by
 funext j;unfold stepF upd
 by_cases h:j=k/8
 ·rw[if_pos h,h];omega
 ·rw[if_neg h]
theorem putF_zero(f:Nat→Nat)(k:Nat):∀n,putF f k 0 n=f
 |0=>rfl
 |n+1=>by
  simp only[putF]
  rw[putF_zero f k n,Nat.zero_div,Nat.zero_mod,stepF_zero]
theorem putsF_noughts(f:Nat→Nat):∀n k,putsF f k (List.replicate n (0,1))=f
 |0,_=>rfl
 |n+1,k=>by
  rw[List.replicate_succ]
  simp only[putsF]
  rw[putF_zero,putsF_noughts f n]
theorem puts_pad(f:Nat→Nat)(k p:Nat)(P:List (Nat×Nat)):putsF f k ((0,p)::P)=putsF f k (List.replicate p (0,1)++P)∧bitsT ((0,p)::P)=bitsT (List.replicate p (0,1)++P):=by
 constructor
 ·rw[putsF_app,putsF_noughts,bits_rep]
  simp only[putsF]
  rw[putF_zero]
 ·rw[bitsT_app,bits_rep];rfl
theorem putF_byte{f:Nat→Nat}{k:Nat}(hc:Clean f k)(h8:k%8=0)(v:Nat)(hv:v<256):putF f k v 8=upd f (k/8) v:=by
 have hcl:=hc.put v 8
 have h1:=putF_val hc v 8 (by omega)
 have hz:f (k/8)=0:=by have:=hc.2.2;rw[h8]at this;have e:(2:Nat)^0=1:=rfl;omega
 have e1:(2:Nat)^0=1:=rfl
 have e2:(2:Nat)^8=256:=rfl
 rw[h8,hz,e1,e2,Nat.mod_eq_of_lt hv]at h1
 have z1:=clean_off hcl (k/8+2) (by omega)
 have z2:=hcl.2.2
 rw[show(k+8)/8=k/8+1 by omega,show(k+8)%8=0 by omega,e1]at z2
 unfold val3 at h1
 funext j
 unfold upd
 by_cases h:j=k/8
 ·rw[if_pos h,h];omega
 ·rw[if_neg h]
  rcases Nat.lt_or_ge j (k/8)with g|g
  ·exact putF_low f k v 8 j g
  ·rw[hc.2.1 j (by omega)]
   rcases Nat.lt_or_ge (k/8+1) j with g2|g2
   ·exact clean_off hcl j (by omega)
   ·obtain rfl:j=k/8+1:=by omega
    omega
def rawF(f:Nat→Nat)(L n:Nat)(r:Nat→Nat)(j:Nat):Nat:=if j<L then f j else if j<L+n then r (j-L)else 0
theorem puts_raw{f:Nat→Nat}{k:Nat}(hc:Clean f k)(h8:k%8=0)(r:Nat→Nat)(hr:∀j,r j<256):∀n,putsF f k ((List.range n).map fun i=>(r i,8))=rawF f (k/8) n r
 |0=>by
  funext j
  simp only[List.range_zero,List.map_nil,putsF]
  unfold rawF
  by_cases h:j<k/8
  ·rw[if_pos h]
  ·rw[if_neg h,if_neg (by omega)]
   rcases Nat.lt_or_ge (k/8) j with g|g
   ·exact hc.2.1 j g
   ·have:=hc.2.2
    rw[h8]at this
    have e:(2:Nat)^0=1:=rfl
    rw[show j=k/8 by omega];omega
 |n+1=>by
  have ih:=puts_raw hc h8 r hr n
  have hcl:=hc.puts ((List.range n).map fun i=>(r i,8))
  rw[bits_map8,ih]at hcl
  rw[List.range_succ,List.map_append,putsF_app,bits_map8,ih]
  simp only[List.map_cons,List.map_nil,putsF]
  rw[putF_byte hcl (by omega) _ (hr n),show(k+8*n)/8=k/8+n by omega]
  funext j
  unfold upd rawF
  by_cases h:j=k/8+n
  ·rw[if_pos h,if_neg (by omega),if_pos (by omega),show j-k/8=n by omega]
  ·rw[if_neg h]
   by_cases h1:j<k/8
   ·rw[if_pos h1,if_pos h1]
   ·rw[if_neg h1,if_neg h1]
    by_cases h2:j<k/8+n
    ·rw[if_pos h2,if_pos (by omega)]
    ·rw[if_neg h2,if_neg (by omega)]
theorem fit_mk{v b:Nat}(hv:v<2^b)(hb:b≤16):FitN (v,b):=⟨hv,hb⟩
theorem ext_fit{t:Tok}(hm:mayT t=true)(hx:t.x<256)(h0:t.n≠0):FitN ((lgX t.n).toNat,(lgB t.n).toNat)∧FitN ((frX t.d).toNat,(frB t.d).toNat):=by
 obtain⟨hE1,hE2,_⟩:=(sym_lt hm hx).2.2 h0
 obtain⟨_,_,_,_,p1,p2,p3,p4⟩:=long_there hE1
 obtain⟨_,_,_,_,q1,q2,q3,q4⟩:=far_there hE2
 exact⟨fit_mk (by omega) (by omega),fit_mk (by omega) (by omega)⟩
theorem runX_fit{l:List Tok}(hl:l.length≤1000000){r:Int×Int}(hr:r∈runD l):FitN (r.2.toNat,(bitV r.1).toNat):=by
 obtain⟨s0,s18,x0,x128,hx⟩:=(run_ok l hl).1 r hr
 have hb:=bitsR_le' r.1
 have e2:bitV r.1=(bitsR r.1:Nat):=by unfold bitV;rw[if_pos (by omega)]
 rw[e2,Int.toNat_natCast]
 exact fit_mk (by omega) (by omega)
end Go.Proofs.YtokpcpjnihinfaaGreat
namespace Go.Proofs.YtokpcpjnihinfaaGreat
open Go.RowKit Go.ChangeShapes Go.WideShapes Go.ChangeAt Go.Joins
def styE(s h m:Int):Int:=if mayS s h m=true then 0 else 8
def tokE(t:Tok):Int:=if mayT t=true then 0 else 8
theorem szStyle:(Tryz.prog.info? 27).map (·.size)=some 4:=by kernel_rfl
end Go.Proofs.YtokpcpjnihinfaaGreat
