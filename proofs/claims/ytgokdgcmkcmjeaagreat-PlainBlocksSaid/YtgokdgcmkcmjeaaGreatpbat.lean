/-
  Words and walks.
-/
import Derived.Test.YtgokdgcmkcmjeaaGreatpbad
import Derived.Test.YtgokdgcmkcmjeaaGreatpbai
import Derived.Test.YtgokdgcmkcmjeaaGreatpbal
import Derived.Test.YtgokdgcmkcmjeaaGreatpbam
import Derived.Test.YtgokdgcmkcmjeaaGreatpbap
import Derived.Test.YtgokdgcmkcmjeaaGreatpbas
set_option maxRecDepth 100000
set_option maxHeartbeats 16000000
namespace Go.Proofs.YtgokdgcmkcmjeaaGreat
def Stn(g:Nat→Nat):Nat→List (Nat×Nat)→Prop
 |_,[]=>True
 |k,x::P=>numN g k x.2=x.1∧Stn g (k+x.2) P
theorem stn_app{g:Nat→Nat}:∀(P Q:List (Nat×Nat)) (k:Nat),Stn g k (P++Q)↔Stn g k P∧Stn g (k+bitsT P) Q
 |[],Q,k=>by simp[Stn,bitsT]
 |x::P,Q,k=>by
  simp only[List.cons_append,Stn,bitsT]
  rw[stn_app P Q,Nat.add_assoc,and_assoc]
theorem num_bit(g:Nat→Nat)(k:Nat){n j:Nat}(h:j<n):numN g k n/2^j%2=bitAt g (k+j):=by
 have e:=numN_add g k j (n-j)
 have e2:=numN_add g (k+j) 1 (n-j-1)
 rw[show 1+(n-j-1)=n-j by omega]at e2
 rw[show j+(n-j)=n by omega]at e
 have h1:=numN_lt g k j
 have h3:numN g (k+j) 1=bitAt g (k+j):=by simp[numN]
 have:=bitAt_lt g (k+j)
 rw[e,Nat.add_mul_div_left _ _ (Nat.two_pow_pos j),Nat.div_eq_of_lt h1,e2,h3]
 omega
theorem code_read{F:Nat→Nat}{n:Nat}{most:Int}(h:checkE F n most=0){i:Nat}(hi:i<n)(h0:0<F i){g:Nat→Nat}{L K:Nat}(hs:numN g K (F i)=turnN (codeB F n i) (F i))(hL:K+F i≤8*L):
  readR F n g L K 17 0=(i,K+F i,0):=
 back_read h hi h0 (fun j hj=>by rw[←num_bit g K hj,hs]) hL
theorem ext_eq{F F':Nat→Nat}{n:Nat}(e:∀j,j<n→F' j=F j):extF n F'=extF n F:=by
 funext j;unfold extF;split
 ·exact e j (by assumption)
 ·rfl
theorem read_congr{F F':Nat→Nat}{n:Nat}(hn:n≤320)(e:∀j,j<n→F' j=F j)(g:Nat→Nat)(L a:Nat):readR F' n g L a 17 0=readR F n g L a 17 0:=by
 rw[←ext_read hn,←ext_read (f:=F) hn,ext_eq e]
theorem sums_congr{F F':Nat→Nat}:∀n,(∀j,j<n→F' j=F j)→allN F' n=allN F n∧usedN F' n=usedN F n
 |0,_=>⟨rfl,rfl⟩
 |n+1,e=>by
  obtain⟨h1,h2⟩:=sums_congr n fun j hj=>e j (by omega)
  simp only[allN,usedN]
  rw[h1,h2,e n (by omega)]
  exact⟨rfl,rfl⟩
theorem check_congr{F F':Nat→Nat}{n:Nat}(most:Int)(e:∀j,j<n→F' j=F j):checkE F' n most=checkE F n most:=by
 have hb:bigB F' n most=bigB F n most:=by
  unfold bigB
  have:(∃j,j<n∧most<(F' j:Int))↔(∃j,j<n∧most<(F j:Int)):=
   ⟨fun⟨j,hj,h⟩=>⟨j,hj,by rw[←e j hj];exact h⟩,fun⟨j,hj,h⟩=>⟨j,hj,by rw[e j hj];exact h⟩⟩
  simp only[this]
 unfold checkE
 rw[hb,(sums_congr n e).1,(sums_congr n e).2]
structure Codes (k:Blk13) (F:Nat→Nat) (n:Nat) (G:Nat→Nat) (m:Nat):Prop where
 kind:k.kind≠0
 left:k.left=0
 hn:k.n=n
 hm:k.m=m
 cF:checkE F n 15=0
 cG:checkE G m 15=0
 eF:∀j,j<n→k.F j=F j
 eG:∀j,j<m→k.G j=G j
structure TokFit (F:Nat→Nat) (n:Nat) (G:Nat→Nat) (m:Nat) (t:Tok):Prop where
 may:mayT t=true
 x:t.x<256
 a:symA t<n∧0<F (symA t)
 b:t.n≠0→symB t<m∧0<G (symB t)
theorem ext_long{n:Int}(hE:lgE n=0){g:Nat→Nat}{L K:Nat}(hs:numN g K (lgB n).toNat=(lgX n).toNat)(hL:K+(lgB n).toNat≤8*L):extR false (lgS n).toNat g L K=(n,K+(lgB n).toNat,0):=by
 obtain⟨p1,p2,p3,p4,p5,p6,p7,p8⟩:=long_there hE
 have hr:=lg_ok hE
 have c1:((lgS n).toNat:Int)=lgS n:=by
  have:lgS n=((257+lgI n:Nat):Int):=if_pos hr
  omega
 have c2:((lgX n).toNat:Int)=lgX n:=by omega
 have e1:extE false (lgS n).toNat=0:=by show lbE (((lgS n).toNat:Nat):Int)=0;rw[c1];exact p3
 have e2:extB false (lgS n).toNat=(lgB n).toNat:=by show(lbV (((lgS n).toNat:Nat):Int)).toNat=_;rw[c1,p4]
 unfold extR
 rw[if_neg (by omega),e2,if_neg (by omega),hs]
 show(loV (((lgS n).toNat:Nat):Int) (((lgX n).toNat:Nat):Int),_,loE (((lgS n).toNat:Nat):Int) (((lgX n).toNat:Nat):Int))=_
 rw[c1,c2,p1,p2]
theorem ext_far{n:Int}(hE:frE n=0){g:Nat→Nat}{L K:Nat}(hs:numN g K (frB n).toNat=(frX n).toNat)(hL:K+(frB n).toNat≤8*L):extR true (frS n).toNat g L K=(n,K+(frB n).toNat,0):=by
 obtain⟨p1,p2,p3,p4,p5,p6,p7,p8⟩:=far_there hE
 have hr:=fr_ok hE
 have c1:((frS n).toNat:Int)=frS n:=by
  have:frS n=((frI n:Nat):Int):=if_pos hr
  omega
 have c2:((frX n).toNat:Int)=frX n:=by omega
 have e1:extE true (frS n).toNat=0:=by show fbE (((frS n).toNat:Nat):Int)=0;rw[c1];exact p3
 have e2:extB true (frS n).toNat=(frB n).toNat:=by show(fbV (((frS n).toNat:Nat):Int)).toNat=_;rw[c1,p4]
 unfold extR
 rw[if_neg (by omega),e2,if_neg (by omega),hs]
 show(foV (((frS n).toNat:Nat):Int) (((frX n).toNat:Nat):Int),_,foE (((frS n).toNat:Nat):Int) (((frX n).toNat:Nat):Int))=_
 rw[c1,c2,p1,p2]
theorem mayT_two{t:Tok}(h:mayT t=true):(t.n=0→t=⟨t.x,0,0⟩)∧(t.n≠0→t=⟨0,t.d,t.n⟩):=by
 unfold mayT at h
 simp only[decide_eq_true_eq]at h
 obtain⟨x,d,n⟩:=t
 simp only at h⊢
 refine⟨fun h0=>?_,fun h0=>?_⟩
 ·subst h0
  obtain rfl:d=0:=by omega
  rfl
 ·obtain rfl:x=0:=by omega
  rfl
theorem tok_next{k:Blk13}{F:Nat→Nat}{n:Nat}{G:Nat→Nat}{m:Nat}(H:Codes k F n G m){t:Tok}(T:TokFit F n G m t){g:Nat→Nat}{L K:Nat}(hS:Stn g K (tokP F n G m t))(hL:K+bitsT (tokP F n G m t)≤8*L):
  nextR k g L K=(t,false,K+bitsT (tokP F n G m t),0):=by
 obtain⟨_,_,hn,_⟩:=check_ok H.cF
 obtain⟨_,_,hm,_⟩:=check_ok H.cG
 obtain⟨i1,i2⟩:=T.a
 obtain⟨s1,s2,s3⟩:=sym_lt T.may T.x
 unfold nextR
 rw[if_neg H.kind,H.hn,read_congr hn H.eF]
 by_cases h0:t.n=0
 ·have eP:tokP F n G m t=[codP F n t.x]:=by unfold tokP;rw[if_pos h0]
  rw[eP]at hS hL⊢
  rw[s2 h0]at i1 i2
  have hb:bitsT [codP F n t.x]=F t.x:=rfl
  rw[hb]at hL⊢
  rw[code_read H.cF i1 i2 hS.1 hL]
  unfold nxtA
  rw[if_neg (fun h=>h rfl),if_pos T.x]
  show((⟨t.x,0,0⟩:Tok),false,K+F t.x,(0:Int))=_
  rw[←(mayT_two T.may).1 h0]
 ·have eP:tokP F n G m t=[codP F n (lgS t.n).toNat,((lgX t.n).toNat,(lgB t.n).toNat),codP G m (frS t.d).toNat,((frX t.d).toNat,(frB t.d).toNat)]:=by unfold tokP;rw[if_neg h0]
  obtain⟨hE1,hE2,a257,b30⟩:=s3 h0
  obtain⟨j1,j2⟩:=T.b h0
  have ea:symA t=(lgS t.n).toNat:=by unfold symA;rw[if_neg h0]
  have eb:symB t=(frS t.d).toNat:=rfl
  rw[ea]at i1 i2 a257
  rw[eb]at j1 j2
  rw[eP]at hS hL⊢
  have hb:bitsT [codP F n (lgS t.n).toNat,((lgX t.n).toNat,(lgB t.n).toNat),codP G m (frS t.d).toNat,((frX t.d).toNat,(frB t.d).toNat)]=F (lgS t.n).toNat+((lgB t.n).toNat+(G (frS t.d).toNat+((frB t.d).toNat+0))):=rfl
  rw[hb]at hL⊢
  have l1:K+F (lgS t.n).toNat≤8*L:=by omega
  have l2:K+F (lgS t.n).toNat+(lgB t.n).toNat≤8*L:=by omega
  have l3:K+F (lgS t.n).toNat+(lgB t.n).toNat+G (frS t.d).toNat≤8*L:=by omega
  have l4:K+F (lgS t.n).toNat+(lgB t.n).toNat+G (frS t.d).toNat+(frB t.d).toNat≤8*L:=by omega
  have n1:¬(lgS t.n).toNat<256:=by omega
  have n2:¬(lgS t.n).toNat=256:=by omega
  have e5:K+F (lgS t.n).toNat+(lgB t.n).toNat+G (frS t.d).toNat+(frB t.d).toNat=K+(F (lgS t.n).toNat+((lgB t.n).toNat+(G (frS t.d).toNat+((frB t.d).toNat+0)))):=by omega
  obtain⟨q1,q2,q3,q4,_⟩:=hS
  have q2':numN g (K+F (lgS t.n).toNat) (lgB t.n).toNat=(lgX t.n).toNat:=q2
  have q3':numN g (K+F (lgS t.n).toNat+(lgB t.n).toNat) (G (frS t.d).toNat)=turnN (codeB G m (frS t.d).toNat) (G (frS t.d).toNat):=q3
  have q4':numN g (K+F (lgS t.n).toNat+(lgB t.n).toNat+G (frS t.d).toNat) (frB t.d).toNat=(frX t.d).toNat:=q4
  rw[code_read H.cF i1 i2 q1 l1]
  unfold nxtA
  rw[if_neg (fun h=>h rfl),if_neg n1,if_neg n2]
  rw[ext_long hE1 q2' l2]
  unfold nxtB
  rw[if_neg (fun h=>h rfl),H.hm,read_congr hm H.eG]
  rw[code_read H.cG j1 j2 q3' l3]
  unfold nxtC
  rw[if_neg (fun h=>h rfl),ext_far hE2 q4' l4]
  have eD:nxtD t.n (t.d,K+F (lgS t.n).toNat+(lgB t.n).toNat+G (frS t.d).toNat+(frB t.d).toNat,0)=(⟨0,t.d,t.n⟩,false,K+F (lgS t.n).toNat+(lgB t.n).toNat+G (frS t.d).toNat+(frB t.d).toNat,0):=rfl
  rw[eD,←(mayT_two T.may).2 h0,e5]
theorem end_next{k:Blk13}{F:Nat→Nat}{n:Nat}{G:Nat→Nat}{m:Nat}(H:Codes k F n G m)(h256:256<n∧0<F 256){g:Nat→Nat}{L K:Nat}(hS:Stn g K [codP F n 256])(hL:K+F 256≤8*L):
  nextR k g L K=(tokZ,true,K+F 256,0):=by
 obtain⟨_,_,hn,_⟩:=check_ok H.cF
 unfold nextR
 rw[if_neg H.kind,H.hn,read_congr hn H.eF,code_read H.cF h256.1 h256.2 hS.1 hL]
 unfold nxtA
 rw[if_neg (fun h=>h rfl),if_neg (by show¬(256:Nat)<256;omega),if_pos rfl]
def Plays:List Nat→List Tok→Prop
 |_,[]=>True
 |out,t::l=>t.d≤(out.length:Int)∧Plays (stpT out t) l
def stoB(last:Bool)(n:Nat):Blk13:=⟨0,last,n,nof13,0,nof13,0⟩
theorem sto_next(last:Bool)(n:Nat){x:Nat}{g:Nat→Nat}{L K:Nat}(hS:numN g K 8=x)(hL:K+8≤8*L):nextR (stoB last (n+1)) g L K=(⟨x,0,0⟩,false,K+8,0):=by
 show nxtS (n+1) g L K=_
 unfold nxtS
 rw[if_neg (by omega),if_neg (by omega),hS]
theorem sto_end(last:Bool){g:Nat→Nat}{L K:Nat}:nextR (stoB last 0) g L K=(tokZ,true,K,0):=by
 rfl
def lastB(last:Bool):Nat:=if last then 1 else 0
theorem lastB_lt(last:Bool):lastB last<2:=by unfold lastB;split<;>omega
theorem lastB_is(last:Bool)(k:Nat):decide ((lastB last+2*k)%2=1)=last:=by
 cases last
 ·exact decide_eq_false (by show¬((0+2*k)%2=1);omega)
 ·exact decide_eq_true (by show(1+2*k)%2=1;omega)
theorem beg_first{g:Nat→Nat}{K b k:Nat}(h1:numN g K 1=b)(h2:numN g (K+1) 2=k):numN g K 3=b+2*k:=by
 have:=numN_add g K 1 2
 rw[h1,h2]at this
 exact this
theorem beg_fix{g:Nat→Nat}{L K:Nat}(last:Bool){P:List (Nat×Nat)}(hS:Stn g K ([(lastB last,1),(1,2)]++P))(hL:K+3≤8*L):begR g L K=(⟨1,last,0,fixA,288,fixB,32⟩,K+3,0):=by
 have h3:=beg_first hS.1 hS.2.1
 have hb:=lastB_lt last
 unfold begR
 rw[if_neg (by omega),h3]
 unfold begW
 rw[if_neg (by omega),if_neg (by omega),if_pos (by omega),lastB_is]
theorem beg_sto{g:Nat→Nat}{L K n:Nat}(last:Bool){P:List (Nat×Nat)}(hn:n≤65535)(hS:Stn g K ([(lastB last,1),(0,2)]++(List.replicate (padN (K%8)) (0,1)++[(n,16),(65535-n,16)]++P)))(hL:K+3+padN (K%8)+32≤8*L):
  begR g L K=(stoB last n,K+3+padN (K%8)+32,0):=by
 have h3:=beg_first hS.1 hS.2.1
 have hb:=lastB_lt last
 have S2:=((stn_app _ _ _).1 hS).2
 have S3:=((stn_app _ _ _).1 ((stn_app _ _ _).1 S2).1).2
 rw[bits_rep]at S3
 have e3:bitsT [(lastB last,1),(0,2)]=3:=rfl
 rw[e3]at S3
 have q1:numN g (K+3+padN (K%8)) 16=n:=S3.1
 have q2:numN g (K+3+padN (K%8)+16) 16=65535-n:=S3.2.1
 have q3:=numN_add g (K+3+padN (K%8)) 16 16
 rw[q1,q2,show 16+16=32 by rfl,show(2:Nat)^16=65536 by rfl]at q3
 have hp:(K+3+7)/8*8=K+3+padN (K%8):=by unfold padN;omega
 unfold begR
 rw[if_neg (by omega),h3]
 unfold begW
 rw[if_neg (by omega),if_neg (by omega),if_neg (by omega),lastB_is,hp]
 unfold stoR
 rw[if_neg (by omega),q3]
 unfold stoV
 rw[if_neg (by omega),show(n+65536*(65535-n))%65536=n by omega]
 rfl
end Go.Proofs.YtgokdgcmkcmjeaaGreat
namespace Go.Proofs.YtgokdgcmkcmjeaaGreat
open Go.RowKit
theorem OwnS.fr{S:Nat→Prop}{w w':World}{base:Nat}{v:Value}{s:List Int}(h:OwnS w base v s)(k:Fr S w w')(hS:∀j,S j→j<base):OwnS w' base v s:=
 own_blk h fun j hj=>k.block j (own_blk_lt h j hj).2 fun hs=>by have:=hS j hs;have:=(own_blk_lt h j hj).1;omega
theorem infoTree13:(Tryz.prog.info? 26).map (fun i=>(i.zero,i.size))=some (some (.agg (trA (fun _=>0) (.slice none 0 0))),17):=by kernel_rfl
theorem szTree17{Y:Array Value}(h:Y.size=17):(Tryz.prog.info? 26).map (·.size)=some Y.size:=by rw[h];exact szTree
theorem pgrow_any(w:World)(p:Nat)(A:Option Addr)(l c:Nat)(s:Rz)(h:Rdr w p A l c s)(B:Option Addr)(n cB:Nat)(f:Nat→Nat)(hB:RdB w w.heap.size B n f)(hn:n≤1000000)(most:Int):
  Calls Tryz.prog 95 #[.pointer (some ⟨p,0,none⟩),.slice B n cB,.int .i64 most] w fun e w'=>∃u,e=.returned (.agg (trA (grC f n most) u))∧Rdr w' p A l c (gwS f n most s)∧OwnS w' w.heap.size u (grS f n most)∧Fr (At p) w w':=by
 have hp:=h.lt
 obtain⟨Z,hZ⟩:∃Z,Z=trA (fun _=>0) (.slice none 0 0):=⟨_,rfl⟩
 obtain⟨k,hk⟩:∃k,k=w.heap.size:=⟨_,rfl⟩
 obtain⟨W1,hW1⟩:∃W1,W1=w.alloc (.cells Z 26):=⟨_,rfl⟩
 have hb1:Below k w W1:=by rw[hW1,hk];exact(Below.refl _ _).alloc (Nat.le_refl _) _
 have hs1:W1.heap.size=k+1:=by rw[hW1,hk];simp
 have z1:BoxC W1 k Z 26:=by rw[hW1,hk];exact BoxC.new w _ _
 have h1:Rdr W1 p A l c s:=BoxC.below h hb1 (by omega)
 have HC:=Lib.hid (tgrow_own W1 B n cB f most ((hB.below (hk▸hb1) (Nat.le_refl _)).more (by omega)) hn)
 have HZS:Hid (Z.size=17):=Lib.hid (by rw[hZ,trA_size])
 have hzb:∀u:World,(zeroValue 26).run Tryz.prog u=.ok (.agg Z) u:=by rw[hZ];exact(zero_of_info infoTree13).1
 have HG:Hid (gwS f n most s=wantS s (checkE f n most==0) 132):=Lib.hid rfl
 obtain⟨E,hE⟩:∃E,E=checkE f n most:=⟨_,rfl⟩
 rw[←hE]at HC HG
 have HW1:=Lib.hid hW1;have HK:=Lib.hid hk;have HB1:=Lib.hid hb1;have HS1:=Lib.hid hs1;have HZ1:=Lib.hid z1;have HR1:=Lib.hid h1;have HP:=Lib.hid hp
 clear h hB hZ hW1 hk hb1 hs1 z1 h1 hp hE
 go_enter Tryz.func95,Tryz.ntmps95
 go_wp2_with (first|(rw[←HW1.out,←HK.out])|fail)
 refine HC.out.mono ?_
 rintro e w2 ⟨u,rfl,o2,hb2⟩
 obtain⟨Y,hY⟩:∃Y,Y=trA (grC f n most) u:=⟨_,rfl⟩
 rw[←hY]
 have one:=o2.one
 have HYS:Hid (Y.size=17):=Lib.hid (by rw[hY,trA_size])
 have HYO:Hid (Y.all (·.oneCell')=true):=Lib.hid (by rw[hY];exact trA_one _ _ one)
 obtain⟨s2,hs2⟩:∃s,s=w2.heap.size:=⟨_,rfl⟩
 obtain⟨W3,hW3⟩:∃W,W=mkV w2 Z Y 26:=⟨_,rfl⟩
 have hb3:Below w2.heap.size w2 W3:=by rw[hW3];exact mkV_below _ _ _ _
 have y3:BoxC W3 s2 Y 26:=by rw[hW3,hs2];exact mkV_row w2 Z Y _
 have hsz:k+1≤w2.heap.size:=by have:=hb2.size;rw[HS1.out]at this;exact this
 have hb23:Below W1.heap.size W1 W3:=hb2.trans (hb3.mono hb2.size)
 have hr3:Rdr W3 p A l c s:=BoxC.below HR1.out hb23 (by rw[HS1.out];have:=HP.out;rw[←HK.out]at this;omega)
 have HZ3:Hid (BoxC W3 k Z 26):=Lib.hid (BoxC.below HZ1.out hb23 (by rw[HS1.out];omega))
 have HO3:Hid (OwnS W3 (k+1) u (grS f n most)):=Lib.hid (by rw[HS1.out]at o2;exact own_keepG o2 hb3)
 have HF3:Hid (Fr (At p) w W3):=Lib.hid ((Fr.of (HK.out▸HB1.out)).trans (Fr.of hb23))
 have HWA:=Lib.hid (pwant_any W3 p A l c s hr3 (E==0) 132)
 have HW3:=Lib.hid hW3;have HS2:=Lib.hid hs2;have HY3:=Lib.hid y3;have HYE:=Lib.hid hY;have HSZ:=Lib.hid hsz
 clear hY hs2 hW3 hb3 y3 hsz hb23 hr3 o2 hb2 one
 go_wp2_with (first
  |(refine wpList_store_rowTo rfl _ _ _ rfl rfl w2.heap.size Y rfl rfl 26 Z (heap_alloc_new w2 _) (szTree17 HYS.out) (by rw[HZS.out,HYS.out]) HYO.out ?_;change wpList _ _ _ _ _ (mkV w2 Z Y 26);rw[←HW3.out,←HS2.out])
  |fail)
 refine HWA.out.mono ?_
 rintro e w4 ⟨rfl,r4,f4⟩
 have hps:¬At p s2:=by show¬s2=p;have:=HSZ.out;have:=HS2.out;have:=HP.out;rw[←HK.out]at this;omega
 have hpk:¬At p k:=by show¬k=p;have:=HP.out;rw[←HK.out]at this;omega
 have HY4:=Lib.hid (HY3.out.fr f4 hps)
 have HZ4:=Lib.hid (HZ3.out.fr f4 hpk)
 have HO4:=Lib.hid (HO3.out.fr f4 (fun j (hj:j=p)=>by have:=HP.out;rw[←HK.out]at this;omega))
 have HR4:=Lib.hid r4;have HF4:=Lib.hid (HF3.out.trans f4)
 clear r4 f4 hps hpk
 go_wp2_with (first
  |(refine wpList_load_row rfl _ _ rfl s2 rfl _ Y (0,0) _ HY4.out Tryz.underlying26 rfl (szTree17 HYS.out) ?_)
  |(refine wpList_store_rowTo rfl _ _ _ rfl rfl k Y rfl rfl 26 Z HZ4.out (szTree17 HYS.out) (by rw[HZS.out,HYS.out]) HYO.out ?_)
  |fail)
 have hpk:p≠k:=by have:=HP.out;rw[←HK.out]at this;omega
 refine bodyPost_ret (v:=.agg Y) (results_cell_row rfl _ _ k _ _ (0,0) _ rfl (setRow_heap _ _ _ _ _ _ HZ4.out) Tryz.underlying26 rfl (szTree17 HYS.out)) rfl ⟨u,by rw[HYE.out],?_,?_,?_⟩
 ·rw[HG.out];exact BoxC.rowO HR4.out hpk _
 ·rw[←HK.out];exact ownsRow_lower (own_blk HO4.out fun j hj=>setRow_other _ _ _ _ (by have:=(own_blk_lt HO4.out j hj).1;omega)) (by omega)
 ·exact HF4.out.from (Fr.row w4 k Y) fun j hj=>.inr (by rw[←HK.out];exact Nat.le_of_eq hj.symm)
theorem infoRun13:(Tryz.prog.info? 208).map (fun i=>(i.zero,i.size))=some (some (.agg #[.int .i64 0,.int .i64 0]),2):=by kernel_rfl
theorem ptimes_any(w:World)(y x:Nat)(hy:y≤320)(hx:x≤1000):
  Calls Tryz.prog 138 #[.agg #[.int .i64 (y:Int),.int .i64 (x:Int)]] w fun e w'=>e=.returned (.int .i64 (timesR (y:Int) (x:Int):Int))∧Below w.heap.size w w':=by
 obtain⟨T,hT⟩:∃T:Nat,T=timesR (y:Int) (x:Int):=⟨_,rfl⟩
 rw[←hT]
 unfold timesR at hT
 by_cases e16:y=16
 ·subst e16
  rw[if_pos (.inl rfl)]at hT
  have e1:(3:Int)+(x:Int)=(T:Int):=by omega
  clear hT
  go_enter Tryz.func138,Tryz.ntmps138
  go_wp2
  go_ret
  exact⟨by first|rfl|go_num,(Below.refl _ _).alloc (Nat.le_refl _) _⟩
 by_cases e17:y=17
 ·subst e17
  rw[if_pos (.inr rfl)]at hT
  have e1:(3:Int)+(x:Int)=(T:Int):=by omega
  clear hT e16
  go_enter Tryz.func138,Tryz.ntmps138
  go_wp2
  go_ret
  exact⟨by first|rfl|go_num,(Below.refl _ _).alloc (Nat.le_refl _) _⟩
 rw[if_neg (by omega)]at hT
 by_cases e18:y=18
 ·subst e18
  rw[if_pos (show((18:Nat):Int)=18 from rfl)]at hT
  have e1:(11:Int)+(x:Int)=(T:Int):=by omega
  clear hT e16 e17
  go_enter Tryz.func138,Tryz.ntmps138
  go_wp2
  go_ret
  exact⟨by first|rfl|go_num,(Below.refl _ _).alloc (Nat.le_refl _) _⟩
 rw[if_neg (by omega)]at hT
 subst hT
 have q1:((y:Int)==16)=false:=beq_eq_false_iff_ne.2 (by omega)
 have q2:((y:Int)==17)=false:=beq_eq_false_iff_ne.2 (by omega)
 have q3:((y:Int)==18)=false:=beq_eq_false_iff_ne.2 (by omega)
 clear e16 e17 e18
 go_enter Tryz.func138,Tryz.ntmps138
 go_wp2
 go_ret
 exact⟨by first|rfl|go_num,(Below.refl _ _).alloc (Nat.le_refl _) _⟩
end Go.Proofs.YtgokdgcmkcmjeaaGreat
namespace Go.Proofs.YtgokdgcmkcmjeaaGreat
open Go.RowKit
theorem bitV_nat(y:Nat):bitV (y:Int)=((bitsR (y:Int):Nat):Int):=by
 unfold bitV
 split
 ·rfl
 ·unfold bitsR
  rw[if_neg (by omega),if_neg (by omega),if_neg (by omega)];rfl
theorem built_run13(y x:Int):Tryz.prog.built 208 [(0,.int .i64 y),(1,.int .i64 x)]=some #[.int .i64 y,.int .i64 x]:=by kernel_rfl
theorem szRun13{Y:Array Value}(h:Y.size=2):(Tryz.prog.info? 208).map (·.size)=some Y.size:=by rw[h];exact(zero_of_info infoRun13).2
theorem prun_any(w:World)(p:Nat)(A:Option Addr)(l c:Nat)(g:Nat→Nat)(s:Rz)(h:Rdr w p A l c s)(S:Nat→Prop)(hS:S p)(hg:RdF S w A l g)(hl:l≤1000000)(hs:s.1≤8*l)(F:Nat→Nat)(ct:Nat→Int)(u:Value)(hu:u.oneCell'=true)(ht:s.2=0→TrF S w F ct u):
  Calls Tryz.prog 137 #[.pointer (some ⟨p,0,none⟩),.agg (trA ct u)] w fun e w'=>e=.returned (.agg #[.int .i64 (ruY F g l s:Int),.int .i64 (ruX F g l s:Int)])∧Rdr w' p A l c (ruS F g l s)∧Fr (At p) w w':=by
 have hp:=h.lt
 obtain⟨k,hk⟩:∃k,k=w.heap.size:=⟨_,rfl⟩
 obtain⟨T,hT⟩:∃T,T=trA ct u:=⟨_,rfl⟩
 rw[←hT]
 obtain⟨W1,hW1⟩:∃W1,W1=(w.alloc (.cells T 26)).alloc (.cells #[.int .i64 0,.int .i64 0] 208):=⟨_,rfl⟩
 have hb1:Below k w W1:=by rw[hW1,hk];exact((Below.refl _ _).alloc (Nat.le_refl _) _).alloc (by simp) _
 have hs1:W1.heap.size=k+2:=by rw[hW1,hk];simp
 have t1:BoxC W1 k T 26:=by rw[hW1,hk];exact(BoxC.new w _ _).old _
 have z1:BoxC W1 (k+1) #[.int .i64 0,.int .i64 0] 208:=by rw[hW1,hk];have:=BoxC.new (w.alloc (.cells T 26)) #[.int .i64 0,.int .i64 0] 208;rwa[World.size_alloc]at this
 have fW:Fr S w W1:=Fr.of (hk▸hb1)
 have hTS:Hid (T.size=17):=Lib.hid (by rw[hT,trA_size])
 have HC:=psym_any W1 p A l c g s (BoxC.below h hb1 (by omega)) (hg.fr fW).1 hl hs S F ct u hu (fun e=>(ht e).fr fW)
 rw[←hT]at HC
 have hpk:¬At p k:=by show¬k=p;omega
 have hpk1:¬At p (k+1):=by show¬k+1=p;omega
 have hy:syV (readR F 320 g l s.1 17 0) s=ruY F g l s:=rfl
 have hss:syS (readR F 320 g l s.1 17 0) s=ruS1 F g l s:=rfl
 rw[hy,hss]at HC
 have hx:ruX F g l s=tkV g l (bitsR (ruY F g l s:Int)) (ruS1 F g l s):=rfl
 have hxs:ruS F g l s=tkS l (bitsR (ruY F g l s:Int)) (ruS1 F g l s):=rfl
 have hin:(ruS1 F g l s).1≤8*l:=syS_in hs
 have h7:=bitsR_le (ruY F g l s:Int)
 have HBV:bitV (ruY F g l s:Int)=_:=bitV_nat _
 obtain⟨y,hy2⟩:∃y,y=ruY F g l s:=⟨_,rfl⟩
 obtain⟨s1,hs12⟩:∃y,y=ruS1 F g l s:=⟨_,rfl⟩
 rw[←hy2,←hs12]at HC hx hxs
 rw[←hy2]at HBV h7⊢
 rw[←hs12]at hin
 rw[hx,hxs]
 obtain⟨n,hn⟩:∃n,n=bitsR (y:Int):=⟨_,rfl⟩
 rw[←hn]at HBV h7⊢
 have HB10:=Lib.hid fun V=>bits10_any V (y:Int)
 rw[HBV]at HB10
 obtain⟨bE,hbE⟩:∃b,b=bitE (y:Int):=⟨_,rfl⟩
 rw[←hbE]at HB10
 have HCC:=Lib.hid HC;have HW1:=Lib.hid hW1;have HK:=Lib.hid hk;have HT1:=Lib.hid t1;have HZ1:=Lib.hid z1;have HFW:=Lib.hid (Fr.of (S:=At p) (hk▸hb1));have HGF:=Lib.hid (hg.fr fW);have HS1:=Lib.hid hs1
 have HNA:Hid (¬At p k∧¬At p (k+1)):=Lib.hid ⟨hpk,hpk1⟩
 have HSP:Hid (∀j,At p j→S j):=Lib.hid fun j (e:j=p)=>e▸hS
 clear h hg hT hW1 hk hb1 hs1 t1 z1 fW HC hpk hpk1 hy hss hx hxs hy2 hs12 hn HBV hbE hp hu ht hS
 go_enter Tryz.func137,Tryz.ntmps137
 go_wp2_with (first
  |(rw[←HW1.out,←HK.out])
  |(refine wpList_load_row rfl _ _ rfl k rfl _ T (0,0) _ HT1.out Tryz.underlying26 rfl (szTree17 hTS.out) ?_)
  |fail)
 refine HCC.out.mono ?_
 rintro e w2 ⟨rfl,r2,f2⟩
 have HR2:=Lib.hid r2;have HF2:=Lib.hid (HFW.out.trans f2);have HZ2:=Lib.hid (HZ1.out.fr f2 HNA.out.2);have HG2:=Lib.hid (HGF.out.fr (f2.mono HSP.out));have HX2:=Lib.hid f2.size
 clear r2 f2
 go_wp2_with fail
 refine(HB10.out w2).mono ?_
 rintro e w3 ⟨rfl,hb3⟩
 have HR3:=Lib.hid (BoxC.below HR2.out hb3 HR2.out.lt:Rdr w3 p A l c s1);have HF3:=Lib.hid (HF2.out.on hb3);have HZ3:=Lib.hid (HZ2.out.below hb3 HZ2.out.lt);have HG3:=Lib.hid (HG2.out.fr (Fr.of hb3))
 have HTK:=Lib.hid (ptake_any w3 p A l c g s1 HR3.out HG3.out.1 hl hin n (by omega))
 clear hb3 HB10 HCC HR2 HG2 HZ2
 go_wp2_with fail
 refine HTK.out.mono ?_
 rintro e w4 ⟨rfl,r4,f4⟩
 obtain⟨x,hx⟩:∃x,x=tkV g l n s1:=⟨_,rfl⟩
 rw[←hx]
 have HR4:=Lib.hid r4;have HF4:=Lib.hid (HF3.out.trans f4);have HZ4:=Lib.hid (HZ3.out.fr f4 HNA.out.2)
 have HBU:Hid (Tryz.prog.built 208 [(0,.int .i64 (y:Int)),(1,.int .i64 (x:Int))]=some #[.int .i64 (y:Int),.int .i64 (x:Int)]):=Lib.hid (built_run13 _ _)
 obtain⟨Y,hY⟩:∃Y:Array Value,Y=#[.int .i64 (y:Int),.int .i64 (x:Int)]:=⟨_,rfl⟩
 rw[←hY]at HBU
 have HYE:=Lib.hid hY;have HXE:=Lib.hid hx
 have HYS:Hid (Y.size=2):=Lib.hid (by rw[hY];rfl)
 have HYO:Hid (Y.all (·.oneCell')=true):=Lib.hid (by rw[hY];simp[Value.oneCell'])
 clear r4 f4 HTK hx hY HZ3 HR3 HG3
 go_wp2_with (first
  |(refine wpList_buildTo rfl 208 #[(0,.tmp 16),(1,.tmp 19)] rfl (some 20) rfl Y ?_ ?_;focus(simpa[Act.eval]using HBU.out))
  |(refine wpList_store_rowTo rfl _ _ _ rfl rfl (k+1) Y rfl rfl 208 #[.int .i64 0,.int .i64 0] HZ4.out (szRun13 HYS.out) (by rw[HYS.out];rfl) HYO.out ?_)
  |fail)
 refine bodyPost_ret (v:=.agg Y) (results_cell_row rfl _ _ (k+1) _ _ (0,0) _ rfl (setRow_heap _ _ _ _ _ _ HZ4.out) Tryz.underlying208 rfl (szRun13 HYS.out)) rfl ⟨by rw[HYE.out,HXE.out],?_,?_⟩
 ·exact BoxC.rowO HR4.out (fun e=>HNA.out.2 e.symm) _
 ·exact HF4.out.from (Fr.row w4 (k+1) Y) fun j hj=>.inr (by rw[←HK.out];have:j=k+1:=hj;omega)
theorem al_int(a:Nat):((a:Int)+7)/8*8=(((a+7)/8*8:Nat):Int):=by omega
theorem psize_any(w:World)(p:Nat)(A:Option Addr)(l c:Nat)(g:Nat→Nat)(s:Rz)(h:Rdr w p A l c s)(S:Nat→Prop)(hS:S p)(hg:RdF S w A l g)(hl:l≤1000000)(hs:s.1≤8*l):
  Calls Tryz.prog 53 #[.pointer (some ⟨p,0,none⟩)] w fun e w'=>e=.returned (.int .i64 (sizV g l s:Int))∧Rdr w' p A l c (sizS g l s)∧Fr (At p) w w':=by
 have c1:=h.a
 have f1:=h.free 1
 have HSP:Hid (∀j,At p j→S j):=Lib.hid fun j (e:j=p)=>e▸hS
 have ha:=al_int s.1
 have hal:alS s=((s.1+7)/8*8,s.2):=rfl
 obtain⟨b,hb⟩:∃b,b=(s.1+7)/8*8:=⟨_,rfl⟩
 rw[←hb]at ha hal
 have hb8:b≤8*l:=by omega
 have hs8:s.1≤8000000:=by omega
 obtain⟨W1,hW1⟩:∃W,W=w.setCell ⟨p,1,none⟩ (.int .i64 (b:Int)):=⟨_,rfl⟩
 have r1:Rdr W1 p A l c (b,s.2):=by rw[hW1];exact h.setA b
 have HF1:Hid (Fr (At p) w W1):=Lib.hid (by rw[hW1];exact Fr.cell _ _ _ _)
 have HG1:=Lib.hid (hg.fr (HF1.out.mono HSP.out))
 have HT1:=Lib.hid (ptake_lit W1 p A l c g (b,s.2) r1 HG1.out.1 hl hb8 16 16 rfl (by omega))
 have hV:sizV g l s=tkV g l 16 (b,s.2):=by unfold sizV;rw[hal]
 have hSS:sizS g l s=wantS (tkS l 16 (tkS l 16 (b,s.2))) (decide ((tkV g l 16 (tkS l 16 (b,s.2)):Int)=65535-(tkV g l 16 (b,s.2):Int))) 131:=by unfold sizS;rw[hV,hal]
 rw[hV,hSS]
 obtain⟨x,hx⟩:∃x,x=tkV g l 16 (b,s.2):=⟨_,rfl⟩
 obtain⟨s2,hs2⟩:∃x,x=tkS l 16 (b,s.2):=⟨_,rfl⟩
 rw[←hx,←hs2]at HT1⊢
 have h2:s2.1≤8*l:=by rw[hs2];exact tkS_in hb8
 have hx2:x<65536:=by rw[hx];exact tkV_lt _ _ _ _
 obtain⟨y,hy⟩:∃x,x=tkV g l 16 s2:=⟨_,rfl⟩
 have hy2:y<65536:=by rw[hy];exact tkV_lt _ _ _ _
 rw[←hy]
 have HY:=Lib.hid hy;have HW1:=Lib.hid hW1
 obtain⟨a,e⟩:=s
 have c1':w.cell? ⟨p,1,none⟩=some (.int .i64 (a:Int)):=c1
 have ha':((a:Int)+7)/8*8=(b:Int):=ha
 have hs8':a≤8000000:=hs8
 clear h hg c1 ha hal hb hb8 hs8 r1 hV hSS hx hs2 hy hW1 hs hS
 go_enter Tryz.func53,Tryz.ntmps53
 go_wp2_with fail
 rw[←HW1.out]
 refine HT1.out.mono ?_
 rintro e w2 ⟨rfl,r2,f2⟩
 have HR2:=Lib.hid r2;have HF2:=Lib.hid (HF1.out.trans f2);have HG2:=Lib.hid (HG1.out.fr (f2.mono HSP.out))
 have HT2:=Lib.hid (ptake_lit w2 p A l c g s2 HR2.out HG2.out.1 hl h2 16 16 rfl (by omega))
 rw[←HY.out]at HT2
 clear r2 f2 HT1 HG1 HF1
 go_wp2_with fail
 refine HT2.out.mono ?_
 rintro e w3 ⟨rfl,r3,f3⟩
 have HW:=Lib.hid (pwant_any w3 p A l c _ r3 (decide ((y:Int)=65535-(x:Int))) 131)
 have HF3:=Lib.hid (HF2.out.trans f3)
 clear r3 f3 HT2 HG2 HF2 HR2
 go_wp2_with fail
 refine HW.out.mono ?_
 rintro e w4 ⟨rfl,r4,f4⟩
 have HR4:=Lib.hid r4;have HF4:=Lib.hid (HF3.out.trans f4)
 clear r4 f4 HW HF3
 go_wp2
 go_ret
 exact⟨rfl,HR4.out,HF4.out⟩
theorem cell_twoT{fn:Func}{p q:Tmp}(h:fn.results=#[.cell p 26,.cell q 26])(tmps:Array Value)(w:World)(g g2:Nat)(X Y:Array Value)(hX:X.size=17)(hY:Y.size=17)(hp:tmps.getD p undef=.pointer (some ⟨g,0,none⟩))(hq:tmps.getD q undef=.pointer (some ⟨g2,0,none⟩))
  (ht:BoxC w g X 26) (ht2:BoxC w g2 Y 26):
  (results fn tmps).run Tryz.prog w=.ok (.tuple #[.agg X,.agg Y]) w:=by
 have hp':tmps[p]?.getD undef=.pointer (some ⟨g,0,none⟩):=by simpa using hp
 have hq':tmps[q]?.getD undef=.pointer (some ⟨g2,0,none⟩):=by simpa using hq
 have hl:=run_loadVar_row (P:=Tryz.prog) w g 26 26 _ (0,0) _ ht Tryz.underlying26 rfl (szTree17 hX)
 have hl2:=run_loadVar_row (P:=Tryz.prog) w g2 26 26 _ (0,0) _ ht2 Tryz.underlying26 rfl (szTree17 hY)
 simp[results,h,hp',hq',asAddr,hl,hl2]
end Go.Proofs.YtgokdgcmkcmjeaaGreat
