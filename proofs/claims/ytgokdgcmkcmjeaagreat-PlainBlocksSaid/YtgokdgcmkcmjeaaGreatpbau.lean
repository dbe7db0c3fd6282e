/-
  Words and walks.
-/
import Derived.OneCell
import Derived.Test.YtgokdgcmkcmjeaaGreatpbaa
import Derived.Test.YtgokdgcmkcmjeaaGreatpbad
import Derived.Test.YtgokdgcmkcmjeaaGreatpbai
import Derived.Test.YtgokdgcmkcmjeaaGreatpbat
set_option maxRecDepth 100000
set_option maxHeartbeats 16000000
namespace Go.Proofs.YtgokdgcmkcmjeaaGreat
open Go.RowKit
structure CodeOk (F:Nat→Nat) (n:Nat):Prop where
 top:n≤320
 le:∀j,j<n→F j≤15
 all:allN F n≤32768
theorem CodeOk.of{F:Nat→Nat}{n:Nat}{most:Int}(h:checkE F n most=0):CodeOk F n:=by
 obtain⟨h1,h2,h3,h4,h5,_⟩:=check_ok h
 exact⟨h3,fun j hj=>by have:=h4 j hj;omega,h5⟩
structure BlkIn (k:Blk13):Prop where
 kind:k.kind≤2
 left:k.left≤65535
 F:k.kind≠0→CodeOk k.F k.n
 G:k.kind≠0→CodeOk k.G k.m
def nxtV(r:Tok×Bool×Nat×Int):Value:=.tuple #[.agg #[.int .u8 (r.1.x:Int),.int .i64 r.1.d,.int .i64 r.1.n],.bool r.2.1,.int .i64 (r.2.2.1:Int),.int .i64 r.2.2.2]
theorem built_tok0:Tryz.prog.built 36 []=some #[.int .u8 0,.int .i64 0,.int .i64 0]:=by kernel_rfl
theorem built_tok1p(x:Nat):Tryz.prog.built 36 [(0,.int .u8 (x:Int))]=some #[.int .u8 (x:Int),.int .i64 0,.int .i64 0]:=by kernel_rfl
theorem built_tok2(d n:Int):Tryz.prog.built 36 [(1,.int .i64 d),(2,.int .i64 n)]=some #[.int .u8 0,.int .i64 d,.int .i64 n]:=by kernel_rfl
theorem oneTok(x:Nat)(d n:Int):(#[.int .u8 (x:Int),.int .i64 d,.int .i64 n]:Array Value).all (·.oneCell')=true:=by simp[Value.oneCell']
theorem below_rowU13{B:Nat}{a w:World}(h:Below B a w){g:Nat}(hp:B≤g)(cs:Array Value):Below B a (w.setRow g cs):=
 ⟨h.os,h.tape,h.output,by rw[size_setRow];exact h.size,fun k hk=>(setRow_other w g k cs (by omega)).trans (h.block k hk)⟩
end Go.Proofs.YtgokdgcmkcmjeaaGreat
namespace Go.Proofs.YtgokdgcmkcmjeaaGreat
theorem sums_cut{f:Nat→Nat}{n:Nat}:∀m,n≤m→(∀i,n≤i→i<m→f i=0)→allN f m=allN f n∧usedN f m=usedN f n
 |0,h,_=>by rw[show n=0 by omega];exact⟨rfl,rfl⟩
 |m+1,h,e=>by
  rcases Nat.eq_or_lt_of_le h with g|g
  ·rw[g];exact⟨rfl,rfl⟩
  ·obtain⟨h1,h2⟩:=sums_cut m (by omega) fun i a b=>e i a (by omega)
   simp only[allN,usedN]
   rw[e m (by omega) (by omega),if_neg (by omega),if_neg (by omega),h1,h2]
   exact⟨rfl,rfl⟩
theorem check_cutP{f:Nat→Nat}{n m:Nat}{most:Int}(h:checkE f m most=0)(hn:n≤m)(e:∀i,n≤i→i<m→f i=0):checkE f n most=0:=by
 obtain⟨h1,h2,h3,h4,h5,h6⟩:=check_ok h
 obtain⟨s1,s2⟩:=sums_cut m hn e
 rw[s1,s2]at h6
 rw[s1]at h5
 unfold checkE
 rw[if_neg (by omega),if_neg (by omega),bigB_mk (fun j hj=>h4 j (by omega)),if_neg (by decide)]
 unfold endE
 rw[if_neg (by omega),if_pos h6]
theorem lenM_checkP{c:Nat→Nat}{n most:Nat}(h1:1≤most)(h2:most≤15)(hn:n≤320)(hn2:n≤2^most)(hc:∀i,c i≤1073741824):checkE (lenM c n most) n (most:Int)=0:=by
 have h:=(out_may (ask_frq h1 h2 hn hn2 hc)).2.1
 rwa[frqL_length]at h
theorem cutN_outP{f:Nat→Nat}{least n i:Nat}(h:cutN f least n≤i)(hi:i<n):f i=0:=by
 rcases Nat.eq_zero_or_pos (f i)with g|g
 ·exact g
 ·have:=cutN_in f least n i hi (by omega);omega
theorem dyn_check(l:List Tok)(hl:l.length≤1000000):checkE (lnA l) (nA l) 15=0∧checkE (lnB l) (nB l) 15=0∧checkE (lnR l) 19 7=0:=by
 obtain⟨_,_,_,_,a1,a2,b1,b2,_⟩:=dyn_ok l hl
 have h1:checkE (lnA l) 286 15=0:=lenM_checkP (c:=cntA l) (n:=286) (most:=15) (by omega) (by omega) (by omega) (by decide) (fun i=>by have:=cntA_le l i;omega)
 have h2:checkE (lnB l) 30 15=0:=lenM_checkP (c:=cntB l) (n:=30) (most:=15) (by omega) (by omega) (by omega) (by decide) (fun i=>by have:=cntB_le l i;omega)
 have h3:checkE (lnR l) 19 7=0:=lenM_checkP (c:=cntR (runD l)) (n:=19) (most:=7) (by omega) (by omega) (by omega) (by decide) (fun i=>by have:=cntR_le (runD l) i;have:=(run_ok l hl).2;omega)
 exact⟨check_cutP h1 a2 fun i g1 g2=>cutN_outP g1 g2,check_cutP h2 b2 fun i g1 g2=>cutN_outP g1 g2,h3⟩
theorem ord_all:∀j,j<19→∃i,i<19∧ordN i=j:=by
 have:∀j:Fin 19,∃i:Fin 19,ordN i.1=j.1:=by decide
 intro j hj
 obtain⟨i,hi⟩:=this ⟨j,hj⟩
 exact⟨i.1,i.2,hi⟩
theorem sh_read{f:Nat→Nat}{g:Nat→Nat}{a:Nat}:∀n,Stn g a ((List.range n).map fun i=>(f (ordN i),3))→∀j,((∃i,i<n∧ordN i=j)→shR g a n j=f j)∧((∀i,i<n→ordN i≠j)→shR g a n j=0)
 |0,_,j=>⟨fun⟨i,h,_⟩=>absurd h (by omega),fun _=>rfl⟩
 |n+1,hS,j=>by
  rw[List.range_succ,List.map_append]at hS
  obtain⟨S1,S2⟩:=(stn_app _ _ _).1 hS
  have hb:∀n,bitsT ((List.range n).map fun i=>(f (ordN i),3))=3*n:=by
   intro n
   induction n with
   |zero=>rfl
   |succ n ih=>
    rw[List.range_succ,List.map_append,bitsT_app,ih]
    simp only[List.map_cons,List.map_nil,bitsT]
    omega
  rw[hb]at S2
  have e:numN g (a+3*n) 3=f (ordN n):=S2.1
  obtain⟨i1,i2⟩:=sh_read n S1 j
  simp only[shR,upd]
  by_cases h:j=ordN n
  ·rw[if_pos h,e,h]
   exact⟨fun _=>rfl,fun h2=>absurd rfl (h2 n (by omega))⟩
  ·rw[if_neg h]
   refine⟨fun⟨i,hi,h3⟩=>i1 ⟨i,?_,h3⟩,fun h3=>i2 fun i hi=>h3 i (by omega)⟩
   rcases Nat.eq_or_lt_of_le (Nat.le_of_lt_succ hi)with g|g
   ·exact absurd (g▸h3).symm h
   ·exact g
theorem sh_is{f:Nat→Nat}{g:Nat→Nat}{a n:Nat}(hS:Stn g a ((List.range n).map fun i=>(f (ordN i),3)))(hz:∀i,n≤i→i<19→f (ordN i)=0):∀j,j<19→shR g a n j=f j:=fun j hj=>by
 obtain⟨i1,i2⟩:=sh_read n hS j
 obtain⟨i,hi,e⟩:=ord_all j hj
 by_cases h:i<n
 ·exact i1 ⟨i,h,e⟩
 ·have h0:=hz i (by omega) hi
  rw[e]at h0
  by_cases h2:∃i,i<n∧ordN i=j
  ·exact i1 h2
  ·rw[i2 fun i hi e=>h2 ⟨i,hi,e⟩,h0]
theorem times_pos(s x:Int):1≤timesR s x:=by unfold timesR;split;omega;split<;>omega
theorem runs_read{F:Nat→Nat}(hF:checkE F 19 7=0){g:Nat→Nat}{L n:Nat}:∀(rs:List (Int×Int)) (out res:List Nat) (K k:Nat),(∀r∈rs,0≤r.1∧r.1≤18∧0<F r.1.toNat∧0≤r.2)→strR n rs out=(0,res)→
  Stn g K (rs.flatMap (runP F))→K+bitsT (rs.flatMap (runP F))≤8*L→n≤out.length+k→lenR F g L n k K out=(res,K+bitsT (rs.flatMap (runP F)),0)
 |[],out,res,K,k,_,h,_,_,_=>by
  simp only[strR]at h
  split at h
  ·rename_i e
   have e2:out=res:=congrArg Prod.snd h
   subst e2
   cases k with
   |zero=>rfl
   |succ k=>rw[lenR_s,if_pos (by omega)];rfl
  ·have:=congrArg Prod.fst h
   simp at this
 |(s,x)::rs,out,res,K,k,hr,h,hS,hL,hk=>by
  simp only[strR]at h
  split at h
  ·have:=congrArg Prod.fst h
   simp at this
  ·rename_i c1
   split at h
   ·have:=congrArg Prod.fst h
    simp at this
   ·rename_i c2
    obtain⟨r1,r2,r3,r4⟩:=hr (s,x) List.mem_cons_self
    simp only at r1 r2 r3 r4
    have ht:=times_pos s x
    rw[List.flatMap_cons]at hS hL⊢
    rw[bitsT_app]at hL⊢
    obtain⟨S1,S2⟩:=(stn_app _ _ _).1 hS
    have eb:(bitV s).toNat=bitsR s:=by unfold bitV;rw[if_pos ⟨r1,r2⟩];exact Int.toNat_natCast _
    have hb:bitsT (runP F (s,x))=F s.toNat+bitsR s:=by
     show F s.toNat+((bitV s).toNat+0)=_
     rw[eb];rfl
    rw[hb]at hL⊢ S2
    have q1:numN g K (F s.toNat)=turnN (codeB F 19 s.toNat) (F s.toNat):=S1.1
    have q2:numN g (K+F s.toNat) (bitV s).toNat=x.toNat:=S1.2.1
    rw[eb]at q2
    obtain⟨k',rfl⟩:∃k',k=k'+1:=⟨k-1,by omega⟩
    have l1:K+F s.toNat≤8*L:=by omega
    have l2:¬8*L<K+F s.toNat+bitsR s:=by omega
    have c3:¬n≤out.length:=by omega
    have es:((s.toNat:Nat):Int)=s:=by omega
    have ex:((x.toNat:Nat):Int)=x:=by omega
    rw[lenR_s,if_neg c3,code_read hF (by omega) r3 q1 l1]
    unfold lenG
    rw[if_neg (fun h=>h rfl)]
    simp only[es]
    rw[if_neg l2,q2,ex,if_neg c2]
    have ih:=runs_read (g:=g) (L:=L) (n:=n) hF rs (out++List.replicate (timesR s x) (valR s out)) res (K+F s.toNat+bitsR s) k' (fun r h=>hr r (List.mem_cons_of_mem _ h)) h (by rwa[←Nat.add_assoc]at S2) (by omega) (by rw[List.length_append,List.length_replicate];omega)
    rw[ih]
    simp only[Nat.add_assoc]
theorem str_same{n:Nat}{s:Int}(h0:0≤s):∀(rs:List (Int×Int)) (out res:List Nat),(∀r∈rs,r.1=s)→strR n rs out=(0,res)→
  (16<s→(∀x∈out,x=0)→∀x∈res,x=0)∧(s<16→(∀x∈out,x=s.toNat)→∀x∈res,x=s.toNat)
 |[],out,res,_,h=>by
  simp only[strR]at h
  split at h
  ·have e2:out=res:=congrArg Prod.snd h
   subst e2
   exact⟨fun _ h=>h,fun _ h=>h⟩
  ·have:=congrArg Prod.fst h
   simp at this
 |(s',x)::rs,out,res,hr,h=>by
  obtain rfl:s'=s:=hr _ List.mem_cons_self
  simp only[strR]at h
  split at h
  ·have:=congrArg Prod.fst h
   simp at this
  ·split at h
   ·have:=congrArg Prod.fst h
    simp at this
   ·obtain⟨i1,i2⟩:=str_same h0 rs _ res (fun r hr2=>hr r (List.mem_cons_of_mem _ hr2)) h
    refine⟨fun g ho=>i1 g fun y hy=>?_,fun g ho=>i2 g fun y hy=>?_⟩
    ·rcases List.mem_append.1 hy with hy|hy
     ·exact ho y hy
     ·rw[(List.mem_replicate.1 hy).2];unfold valR;rw[if_neg (by omega),if_neg (by omega)]
    ·rcases List.mem_append.1 hy with hy|hy
     ·exact ho y hy
     ·rw[(List.mem_replicate.1 hy).2];unfold valR;rw[if_neg (by omega),if_pos g]
theorem lead_all{f:Nat→Nat}{n x:Nat}:∀d a,a+d=n→(∀j,a≤j→j<n→f j=x)→leadN x (dropU f n a)=d
 |0,a,h,_=>by rw[dropU_end (by omega)];rfl
 |d+1,a,h,e=>by
  rw[lead_go (by omega) (e a (by omega) (by omega)),lead_all d (a+1) (by omega) fun j h1 h2=>e j (by omega) h2]
theorem run_twoP{f:Nat→Nat}{n:Nat}(h15:∀i,i<n→f i≤15)(hn:5≤n){i:Nat}(hi:i<n)(h0:f i≠0)(s:Int):∃r∈ofU f n 0,r.1≠s:=by
 rcases Classical.em (∃r∈ofU f n 0,r.1≠s)with g|g
 ·exact g
 ·exfalso
  have hs:∀r∈ofU f n 0,r.1=s:=fun r hr=>Classical.byContradiction fun h=>g ⟨r,hr,h⟩
  obtain⟨c1,c2,c3⟩:=ofU_cons (f:=f) (n:=n) (a:=0) (by omega) h15
  have hd:dropU f n 0=(List.range n).map f:=rfl
  have hstr:=(ofR_back n n none (dropU f n 0) [] (by rw[dropU_length];omega) (dropU_mem h15) rfl (by rw[dropU_length];simp)).1
  have hof:ofR n none (dropU f n 0)=ofU f n 0:=rfl
  rw[hof,List.nil_append]at hstr
  have hi2:f i∈dropU f n 0:=by rw[hd];exact List.mem_map.2 ⟨i,List.mem_range.2 hi,rfl⟩
  have hr1:(fstU f n 0).1∈ofU f n 0:=by rw[c1];exact List.mem_cons_self
  have hb:=ofU_ok h15 _ hr1
  rw[hs _ hr1]at hb
  obtain⟨k1,k2⟩:=str_same hb.1 _ _ _ hs hstr
  by_cases s16:s=16
  ·have e:=(fstR_spec (prvU f 0) (f 0) (ldsU f n 0) (h15 0 (by omega)) (lds_le (by omega)).1).2.2.2.2.1
   have e2:=e ((hs _ hr1).trans s16)
   cases e2
  ·by_cases s17:16<s
   ·exact h0 (k1 s17 (fun x hx=>by cases hx) _ hi2)
   ·have hall:∀j,j<n→f j=s.toNat:=fun j hj=>k2 (by omega) (fun x hx=>by cases hx) _ (by rw[hd];exact List.mem_map.2 ⟨j,List.mem_range.2 hj,rfl⟩)
    have hsn:s.toNat≠0:=by rw[←hall i hi];exact h0
    have e1:(fstU f n 0).2=1:=by
     unfold fstU fstR
     rw[hall 0 (by omega)]
     rw[if_neg (fun h=>hsn h.1),if_neg (fun h=>hsn h.1),if_neg (fun h=>by have:=h.2.1;cases this)]
    rw[e1]at c1
    obtain⟨d1,_,_⟩:=ofU_cons (f:=f) (n:=n) (a:=0+1) (by omega) h15
    have hr2:(fstU f n (0+1)).1∈ofU f n 0:=by rw[c1,d1];exact List.mem_cons_of_mem _ List.mem_cons_self
    have hl:ldsU f n (0+1)=n-1:=by
     unfold ldsU
     rw[hall (0+1) (by omega),lead_all (n-2) (0+1+1) (by omega) fun j h1 h2=>hall j h2]
     omega
    have e2:(fstU f n (0+1)).1.1=16:=by
     unfold fstU fstR
     rw[hall (0+1) (by omega),hl]
     have hp:prvU f (0+1)=some s.toNat:=by
      unfold prvU
      rw[if_neg (by omega)]
      exact congrArg some (hall 0 (by omega))
     rw[if_neg (fun h=>hsn h.1),if_neg (fun h=>hsn h.1),if_pos ⟨hsn,hp,by omega⟩]
    exact s16 ((hs _ hr2).symm.trans e2)
theorem used_two{f:Nat→Nat}:∀n i j,i<j→j<n→0<f i→0<f j→2≤usedN f n
 |0,_,_,_,h,_,_=>absurd h (by omega)
 |n+1,i,j,hij,hj,hi,h=>by
  have one:∀n i,i<n→0<f i→1≤usedN f n:=by
   intro n
   induction n with
   |zero=>intro i h _;omega
   |succ n ih=>
    intro i hn hf
    simp only[usedN]
    rcases Nat.eq_or_lt_of_le (Nat.le_of_lt_succ hn)with e|e
    ·subst e;rw[if_pos hf];omega
    ·have:=ih i e hf;omega
  simp only[usedN]
  rcases Nat.eq_or_lt_of_le (Nat.le_of_lt_succ hj)with e|e
  ·subst e
   have:=one j i hij hi
   rw[if_pos h];omega
  ·have:=used_two n i j hij e hi h;omega
theorem cntR_pos{l:List (Int×Int)}{r:Int×Int}(h:r∈l)(h0:0≤r.1):0<cntR l r.1.toNat:=List.countP_pos_iff.2 ⟨r,h,by
 have:((r.1.toNat:Nat):Int)=r.1:=by omega
 simp[this]⟩
theorem lnR_whole(l:List Tok)(hl:l.length≤1000000):(∀r∈runD l,0<lnR l r.1.toNat)∧allN (lnR l) 19=32768:=by
 obtain⟨d1,d2,d3,d4,a1,a2,b1,b2,h1,h2⟩:=dyn_ok l hl
 obtain⟨hr,hr2⟩:=run_ok l hl
 obtain⟨_,_,r3,_⟩:=lenM_may (c:=cntR (runD l)) (n:=19) (most:=7) (by omega) (by omega) (by omega) (by decide) (fun i=>by have:=cntR_le (runD l) i;omega)
 have hpos:∀r∈runD l,0<lnR l r.1.toNat:=fun r hm=>by
  obtain⟨g1,g2,_⟩:=hr r hm
  exact(r3 r.1.toNat (by omega)).2 (cntR_pos hm g1)
 have hall:=all_le l hl
 have h256:allF l 256≠0:=by
  have:=h1 256 (by omega) (cntA_end l)
  unfold allF cat
  rw[if_pos this.1];omega
 have ht:=fun s=>run_twoP (f:=allF l) (n:=nA l+nB l) (fun i _=>hall i) (by omega) (i:=256) (by omega) h256 s
 obtain⟨u,hu,_⟩:=ht 0
 obtain⟨v,hv,hne⟩:=ht u.1
 have hu':u∈runD l:=hu
 have hv':v∈runD l:=hv
 obtain⟨p1,p2,_⟩:=hr u hu'
 obtain⟨q1,q2,_⟩:=hr v hv'
 have hused:2≤usedN (lnR l) 19:=by
  rcases Nat.lt_or_ge u.1.toNat v.1.toNat with g|g
  ·exact used_two 19 _ _ g (by omega) (hpos u hu') (hpos v hv')
  ·exact used_two 19 _ _ (show v.1.toNat<u.1.toNat by omega) (by omega) (hpos v hv') (hpos u hu')
 obtain⟨_,_,_,_,_,c6⟩:=check_ok (dyn_check l hl).2.2
 refine⟨hpos,?_⟩
 rcases c6 with c|c|c
 ·exact c
 ·omega
 ·omega
def allL(l:List Tok):List Nat:=(List.range (nA l+nB l)).map (allF l)
def dynG(last:Bool)(res:List Nat)(n m:Nat):Blk13:=⟨2,last,0,lst res,n,lst (res.drop n),m⟩
theorem codes_of(last:Bool){res:List Nat}{n m:Nat}{F G:Nat→Nat}(cF:checkE F n 15=0)(cG:checkE G m 15=0)(eF:∀j,j<n→lst res j=F j)(eG:∀j,j<m→lst (res.drop n) j=G j):Codes (dynG last res n m) F n G m:=
 ⟨(fun h=>by cases h),rfl,rfl,rfl,cF,cG,eF,eG⟩
theorem allL_at(l:List Tok){i:Nat}(h:i<nA l+nB l):lst (allL l) i=allF l i:=by
 unfold lst allL;rw[List.getD_eq_getElem?_getD];simp[h]
theorem cat_low{f h:Nat→Nat}{n j:Nat}(hj:j<n):cat f n h j=f j:=if_pos hj
theorem cat_high{f h:Nat→Nat}{n j:Nat}:cat f n h (j+n)=h j:=(if_neg (by omega)).trans (by rw[Nat.add_sub_cancel])
theorem allL_A(l:List Tok){j:Nat}(hj:j<nA l):lst (allL l) j=lnA l j:=
 (allL_at l (Nat.lt_of_lt_of_le hj (Nat.le_add_right _ _))).trans (cat_low hj)
theorem allL_B(l:List Tok){j:Nat}(hj:j<nB l):lst ((allL l).drop (nA l)) j=lnB l j:=
 (lst_drop _ _ _).trans ((allL_at l (Nat.lt_of_lt_of_eq (Nat.add_lt_add_right hj _) (Nat.add_comm _ _))).trans cat_high)
theorem dyn_codes(last:Bool)(l:List Tok)(hl:l.length≤1000000):Codes (dynG last (allL l) (nA l) (nB l)) (lnA l) (nA l) (lnB l) (nB l):=
 codes_of last (dyn_check l hl).1 (dyn_check l hl).2.1 (fun _ hj=>allL_A l hj) (fun _ hj=>allL_B l hj)
theorem runP_same{F R:Nat→Nat}(e:∀j,j<19→F j=R j):∀rs:List (Int×Int),(∀r∈rs,0≤r.1∧r.1≤18)→rs.flatMap (runP F)=rs.flatMap (runP R)
 |[],_=>rfl
 |r::rs,h=>by
  obtain⟨g1,g2⟩:=h r List.mem_cons_self
  have eP:runP F r=runP R r:=by
   unfold runP codP
   have:codeB F 19 r.1.toNat=codeB R 19 r.1.toNat:=by
    rw[←ext_code F (show 19≤320 by omega) (show r.1.toNat<19 by omega),←ext_code R (show 19≤320 by omega) (show r.1.toNat<19 by omega),ext_eq e]
   rw[e _ (show r.1.toNat<19 by omega),this]
  rw[List.flatMap_cons,List.flatMap_cons,eP,runP_same e rs fun u hu=>h u (List.mem_cons_of_mem _ hu)]
theorem bits_row(f:Nat→Nat):∀n,bitsT ((List.range n).map fun i=>(f i,3))=3*n
 |0=>rfl
 |n+1=>by
  rw[List.range_succ,List.map_append,bitsT_app,bits_row f n]
  simp only[List.map_cons,List.map_nil,bitsT]
  omega
theorem beg_any{g:Nat→Nat}{L K:Nat}(last:Bool){R:Nat→Nat}{NA NB NR:Nat}{rs:List (Int×Int)}{res:List Nat}{P:List (Nat×Nat)}
  (hS:Stn g K ([(lastB last,1),(2,2)]++([(NA-257,5),(NB-1,5),(NR-4,4)]++((List.range NR).map fun i=>(R (ordN i),3))++rs.flatMap (runP R)++P)))
  (a1:257≤NA) (a2:NA≤286) (b1:1≤NB) (b2:NB≤30) (r1:4≤NR) (r2:NR≤19)
  (hz:∀i,NR≤i→i<19→R (ordN i)=0) (hchk:checkE R 19 7=0) (hall:allN R 19=32768)
  (hrs:∀r∈rs,0≤r.1∧r.1≤18∧0<R r.1.toNat∧0≤r.2) (hstr:strR (NA+NB) rs []=(0,res))
  (h256:lst res 256≠0) (cA:checkE (lst res) NA 15=0) (cB:checkE (lst (res.drop NA)) NB 15=0)
  (hL:K+3+(14+3*NR+bitsT (rs.flatMap (runP R)))≤8*L):
  begR g L K=(dynG last res NA NB,K+3+(14+3*NR+bitsT (rs.flatMap (runP R))),0):=by
 have h3:=beg_first hS.1 hS.2.1
 have hb:=lastB_lt last
 have S2:=((stn_app _ _ _).1 ((stn_app _ _ _).1 hS).2).1
 have e3:bitsT [(lastB last,1),(2,2)]=3:=rfl
 rw[e3]at S2
 obtain⟨S3,S6⟩:=(stn_app _ _ _).1 S2
 obtain⟨S4,S5⟩:=(stn_app _ _ _).1 S3
 rw[bitsT_app]at S6
 have e14:bitsT [(NA-257,5),(NB-1,5),(NR-4,4)]=14:=rfl
 rw[e14,bits_row]at S6
 rw[e14]at S5
 have q1:numN g (K+3) 5=NA-257:=S4.1
 have q2:numN g (K+3+5) 5=NB-1:=S4.2.1
 have q3:numN g (K+3+5+5) 4=NR-4:=S4.2.2.1
 clear hS S2 S3 S4
 have hv:numN g (K+3) 14=(NA-257)+32*(NB-1)+1024*(NR-4):=by
  have n1:=numN_add g (K+3) 5 9
  have n2:=numN_add g (K+3+5) 5 4
  rw[show 5+4=9 by rfl,q2,q3]at n2
  rw[show 5+9=14 by rfl,q1,n2]at n1
  rw[n1,show(2:Nat)^5=32 by rfl]
  omega
 have m1:numN g (K+3) 14%32+257=NA:=by rw[hv];omega
 have m2:numN g (K+3) 14/32%32+1=NB:=by rw[hv];omega
 have m3:numN g (K+3) 14/1024+4=NR:=by rw[hv];omega
 have hsh:∀j,j<19→shR g (K+3+14) NR j=R j:=sh_is (f:=R) S5 hz
 have eF:=runP_same (F:=shR g (K+3+14) NR) hsh rs fun r hr=>⟨(hrs r hr).1,(hrs r hr).2.1⟩
 have hcF:checkE (shR g (K+3+14) NR) 19 7=0:=by rw[check_congr 7 hsh];exact hchk
 have l1:K+3+14+3*NR+bitsT (rs.flatMap (runP R))≤8*L:=by omega
 have S7:Stn g (K+3+14+3*NR) (rs.flatMap (runP R)):=by rw[show K+3+14+3*NR=K+3+(14+3*NR) by omega];exact S6
 have hlen:lenR (shR g (K+3+14) NR) g L (NA+NB) (NA+NB) (K+3+14+3*NR) []=(res,K+3+14+3*NR+bitsT (rs.flatMap (runP R)),0):=by
  rw[←eF]at S7 l1⊢
  exact runs_read hcF rs [] res _ _ (fun r hr=>⟨(hrs r hr).1,(hrs r hr).2.1,by rw[hsh _ (by have:=(hrs r hr).2.1;have:=(hrs r hr).1;omega)];exact(hrs r hr).2.2.1,(hrs r hr).2.2.2⟩) hstr S7 l1 (by show _≤0+_;omega)
 have k1:¬8*L<K+3:=by omega
 have k2:¬8*L<K+3+14:=by omega
 have k3:¬8*L<K+3+14+3*NR:=by omega
 have k4:K+3+14+3*NR+bitsT (rs.flatMap (runP R))=K+3+(14+3*NR+bitsT (rs.flatMap (runP R))):=by omega
 clear S5 S6 S7 l1 hL
 unfold begR
 rw[if_neg k1,h3]
 unfold begW
 rw[if_neg (by omega),if_pos (by omega),lastB_is]
 unfold dynR
 rw[if_neg k2]
 unfold dynV
 rw[m1,m2,m3,if_neg (by omega),if_neg k3]
 unfold dynS
 rw[if_neg (by rw[hcF,(sums_congr 19 hsh).1,hall];omega),hlen]
 unfold dynL
 rw[if_neg (fun h=>h rfl)]
 unfold dynQ
 rw[if_neg (by rintro(h|h|h);exact h256 h;exact h cA;exact h cB),k4]
 rfl
theorem beg_dyn{g:Nat→Nat}{L K:Nat}(last:Bool){l:List Tok}(hl:l.length≤1000000){P:List (Nat×Nat)}(hS:Stn g K ([(lastB last,1),(2,2)]++(dynP l++P)))(hL:K+3+bitsT (dynP l)≤8*L):
  begR g L K=(dynG last (allL l) (nA l) (nB l),K+3+bitsT (dynP l),0):=by
 obtain⟨_,_,_,_,a1,a2,b1,b2,hA,_⟩:=dyn_ok l hl
 obtain⟨w1,w2⟩:=lnR_whole l hl
 have hchk:=(dyn_check l hl).2.2
 have cF:=(dyn_check l hl).1
 have cG:=(dyn_check l hl).2.1
 have eF':∀j,j<nA l→lst (allL l) j=lnA l j:=fun _ hj=>allL_A l hj
 have eG':∀j,j<nB l→lst ((allL l).drop (nA l)) j=lnB l j:=fun _ hj=>allL_B l hj
 have h256:=hA 256 (by decide) (cntA_end l)
 have hstr:=(ofR_back (nA l+nB l) (nA l+nB l) none (dropU (allF l) (nA l+nB l) 0) [] (by rw[dropU_length];exact Nat.le_refl _) (dropU_mem fun i _=>all_le l hl i) rfl (by rw[dropU_length,List.length_nil,Nat.zero_add,Nat.sub_zero])).1
 have hof:ofR (nA l+nB l) none (dropU (allF l) (nA l+nB l) 0)=runD l:=rfl
 have hd:dropU (allF l) (nA l+nB l) 0=allL l:=rfl
 rw[hof,hd,List.nil_append]at hstr
 have hb:bitsT (dynP l)=14+3*nR l+bitsT ((runD l).flatMap (runP (lnR l))):=by
  unfold dynP
  rw[bitsT_app,bitsT_app,bits_row];rfl
 rw[hb]at hL⊢
 exact beg_any last (R:=lnR l) (NA:=nA l) (NB:=nB l) (NR:=nR l) (rs:=runD l) (res:=allL l) (P:=P) hS a1 a2 b1 b2 (cutN_ge (rowR l) 4 19) (cutN_le (rowR l) 4 19 (by decide))
  (fun i h1 h2=>cutN_outP (f:=rowR l) h1 h2) hchk w2 (fun r hm=>⟨((run_ok l hl).1 r hm).1,((run_ok l hl).1 r hm).2.1,w1 r hm,((run_ok l hl).1 r hm).2.2.1⟩) hstr
  (by rw[eF' 256 h256.1];exact Nat.pos_iff_ne_zero.1 h256.2) (by rw[check_congr 15 eF'];exact cF) (by rw[check_congr 15 eG'];exact cG) hL
end Go.Proofs.YtgokdgcmkcmjeaaGreat
