/-
  Words and walks.
-/
import Derived.Test.YtgokdgcmkcmjeaaGreatptar
import Derived.Test.YtgokdgcmkcmjeaaGreatptas
import Derived.Test.YtgokdgcmkcmjeaaGreatptay
import Derived.Test.YtgokdgcmkcmjeaaGreatptbc
set_option maxRecDepth 100000
set_option maxHeartbeats 16000000
namespace Go.Proofs.YtgokdgcmkcmjeaaGreat
open Go.RowKit
structure Tld (w Wk:World) (s0 gK:Nat) (X:Array Value) (q:Nat) (G:Nat→Nat) (At:Option Addr) (ct:Nat) (W:World):Prop where
 own:W.ownsRow w.heap.size 5 1 (.slice At q ct) q (bytesL q G)
 away:∀j,(Value.slice At q ct).ownBlock=some j→j<s0∨gK<j
 box:BoxC W gK X 73
 keep:∀j,s0≤j→j<gK→W.heap[j]?=Wk.heap[j]?
 bel:Below w.heap.size w W
 base:w.heap.size≤s0
 ord:s0≤gK
section
variable {w Wk W:World} {s0 gK:Nat} {X:Array Value} {q:Nat} {G:Nat→Nat} {At:Option Addr} {ct:Nat}
theorem Tld.on(h:Tld w Wk s0 gK X q G At ct W){W':World}(hb:Below W.heap.size W W'):Tld w Wk s0 gK X q G At ct W':=
 ⟨own_keep h.own hb,h.away,h.box.below hb h.box.lt,fun j h1 h2=>(hb.block j (Nat.lt_trans h2 h.box.lt)).trans (h.keep j h1 h2),h.bel.trans (hb.mono h.bel.size),h.base,h.ord⟩
theorem Tld.one(h:Tld w Wk s0 gK X q G At ct W)(hq:q≤1000000)(x:Nat)(hx:x=G q):
  ∃A' c' W',(Builtin.append_ #[22,22] 22 #[.slice At q ct,.slice (some ⟨W.heap.size,0,none⟩) 1 1]).run Tryz.prog (W.alloc (.cells #[.int .u8 (x:Int)] 5))=.ok (.slice A' (q+1) c') W'∧
   Tld w Wk s0 gK X (q+1) G A' c' W'∧∀g cs t,BoxC W g cs t→(5==t)=false→BoxC W' g cs t:=by
 obtain⟨A',c',W',h1,h2,h3,h4,h5⟩:=run_oneB_s W w.heap.size At q ct G h.own x hx (by omega) h.bel.size
 refine⟨A',c',W',h1,⟨h2,fun j hj=>?_,?_,fun j j1 j2=>?_,h.bel.trans h3,h.base,h.ord⟩,fun g cs t hb ht=>?_⟩
 ·rcases h5 j hj with h6|h6
  ·exact h.away j h6
  ·have:=h.box.lt;omega
 ·exact(h4 gK h.box.lt (own_type h.own h.box (by kernel_rfl))).trans h.box
 ·refine(h4 j (Nat.lt_trans j2 h.box.lt) fun e=>?_).trans (h.keep j j1 j2)
  rcases h.away j e with h6|h6<;>omega
 ·exact(h4 g hb.lt (own_type h.own hb ht)).trans hb
theorem Tld.set(h:Tld w Wk s0 gK X q G At ct W)(v:Value):Tld w Wk s0 gK (X.setIfInBounds 2 v) q G At ct (W.setCell ⟨gK,2,none⟩ v):=by
 refine⟨own_blk h.own fun j hj=>Below.heap_setCell _ _ _ j fun e=>?_,h.away,h.box.set 2 v,fun j h1 h2=>(Below.heap_setCell _ _ _ j (by show j≠gK;omega)).trans (h.keep j h1 h2),h.bel.setCell (p:=⟨gK,2,none⟩) (by show w.heap.size≤gK;have:=h.base;have:=h.ord;omega) _,h.base,h.ord⟩
 have e':j=gK:=e
 subst e'
 exact own_type h.own h.box (by kernel_rfl) hj
theorem Tld.ext(h:Tld w Wk s0 gK X q G At ct W){F:Nat→Nat}(e:∀j,j<q→G j=F j):Tld w Wk s0 gK X q F At ct W:=
 ⟨by rw[←bytesL_ext e];exact h.own,h.away,h.box,h.keep,h.bel,h.base,h.ord⟩
theorem Tld.rd(h:Tld w Wk s0 gK X q G At ct W){A:Option Addr}{n:Nat}{F:Nat→Nat}(r:RdB Wk gK A n F)(hn:NewAt s0 n A):RdB W W.heap.size A n F:=
 r.move fun b o e h0=>by
  have h1:=hn b o h0 e
  have h2:b<gK:=by
   obtain⟨b',o',e',hlt,_⟩:=r.2 h0
   rw[e]at e';cases e';exact hlt
  exact⟨Nat.lt_trans h2 h.box.lt,h.keep b h1 h2⟩
end
theorem infoTok13:(Tryz.prog.info? 36).map (fun i=>(i.zero,i.size))=some (some (.agg #[.int .u8 0,.int .i64 0,.int .i64 0]),3):=by kernel_rfl
def TldD(w:World)(R:List Nat×Nat×Int)(e:Ending)(w':World):Prop:=
 ∃A' c',e=.returned (.tuple #[.slice A' R.1.length c',.int .i64 (R.2.1:Int),.int .i64 R.2.2])∧ByR w' w'.heap.size A' R.1.length c' (lst R.1)∧Below w.heap.size w w'
theorem TldD.of{w w':World}{R:List Nat×Nat×Int}{L:List Nat}{a q ct:Nat}{x:Int}{At:Option Addr}(hR:R=(L,a,x))(hq:q=L.length)(hL:∀y∈L,y<256)(ho:w'.ownsRow w.heap.size 5 1 (.slice At q ct) q (bytesL q (lst L)))(hb:Below w.heap.size w w'):
  TldD w R (.returned (.tuple #[.slice At q ct,.int .i64 (a:Int),.int .i64 x])) w':=by
 subst hR;subst hq
 exact⟨At,ct,rfl,ByR.of_own ho (lst_lt hL),hb⟩
theorem TldD.tl{w w' Wk:World}{R:List Nat×Nat×Int}{L:List Nat}{a q ct s0 gK:Nat}{X:Array Value}{x:Int}{At:Option Addr}(hR:R=(L,a,x))(hq:q=L.length)(hL:∀y∈L,y<256)(h:Tld w Wk s0 gK X q (lst L) At ct w'):
  TldD w R (.returned (.tuple #[.slice At q ct,.int .i64 (a:Int),.int .i64 x])) w':=TldD.of hR hq hL h.own h.bel
theorem bytesL_inj{n:Nat}{f g:Nat→Nat}(e:bytesL n f=bytesL n g)(j:Nat)(hj:j<n):f j=g j:=by
 have h:(bytesL n f)[j]?=(bytesL n g)[j]?:=by rw[e]
 rw[bytesL_get,bytesL_get,if_pos hj,if_pos hj]at h
 injection h with h;injection h with _ h;exact Int.ofNat.inj h
def tokG(L:List Nat)(t:Tok):Nat→Nat:=if t.n=0 then cat (lst L) L.length (fun _=>t.x)else cat (lst L) L.length (copF L.length (lst L) t.d.toNat)
theorem tokG_lo{L:List Nat}{t:Tok}{j:Nat}(h:j<L.length):lst L j=tokG L t j:=by
 unfold tokG
 split<;>(unfold cat;rw[if_pos h])
theorem tokG_lit{L:List Nat}{t:Tok}(h:t.n=0)(i:Nat):tokG L t (L.length+i)=t.x:=by
 unfold tokG;rw[if_pos h];unfold cat;rw[if_neg (by omega)]
theorem tokG_cop{L:List Nat}{t:Tok}(h:t.n≠0)(h1:1≤t.d)(h2:t.d≤(L.length:Int))(i:Nat):tokG L t (L.length+i-t.d.toNat)=tokG L t (L.length+i):=by
 unfold tokG;rw[if_neg h]
 rw[←cop_ahead (f:=lst L) (n:=L.length) (d:=t.d.toNat) (by omega) (by omega)]
 unfold cat;rw[if_neg (by omega)];congr 1;omega
theorem tokG_lt{L:List Nat}{t:Tok}(hL:∀x∈L,x<256)(hx:t.x<256)(j:Nat):tokG L t j<256:=by
 unfold tokG
 split
 ·exact cat_lt (lst_lt hL) (fun _=>hx) j
 ·exact cat_lt (lst_lt hL) (copF_lt (lst_lt hL)) j
theorem tokG_stp{L:List Nat}{t:Tok}{j:Nat}(h:j<L.length+lenT t):tokG L t j=lst (stpT L t) j:=by
 unfold tokG stpT
 by_cases h0:t.n=0
 ·rw[if_pos h0,if_pos h0]
  have hl:lenT t=1:=by unfold lenT;rw[if_pos h0]
  unfold cat
  by_cases hj:j<L.length
  ·rw[if_pos hj];unfold lst;rw[List.getD_eq_getElem?_getD,List.getD_eq_getElem?_getD,List.getElem?_append_left hj]
  ·rw[if_neg hj,show j=L.length by omega];exact(lst_one L t.x).2.symm
 ·rw[if_neg h0,if_neg h0]
  have hl:lenT t=t.n.toNat:=by unfold lenT;rw[if_neg h0]
  have e:=lst_copy L t.d.toNat t.n.toNat
  have e2:=(bytesL_inj e) j (by omega)
  exact e2
end Go.Proofs.YtgokdgcmkcmjeaaGreat
namespace Go.Proofs.YtgokdgcmkcmjeaaGreat
open Go.RowKit
def leftB(k:Blk13)(lf:Nat):Blk13:={k with left:=lf}
theorem leftB_in{k:Blk13}{lf y:Nat}(h:BlkIn (leftB k lf))(hy:y≤lf):BlkIn (leftB k y):=⟨h.kind,Nat.le_trans hy h.left,h.F,h.G⟩
theorem leftB_set(k:Blk13)(lf y:Nat)(A1:Option Addr)(c1:Nat)(A2:Option Addr)(c2:Nat):(blkC (leftB k lf) A1 c1 A2 c2).setIfInBounds 2 (.int .i64 (y:Int))=blkC (leftB k y) A1 c1 A2 c2:=rfl
theorem told_h0{g:Nat→Nat}{L lim a p:Nat}{out:List Nat}{f:Int}{R:List Nat×Nat×Int}{k:Blk13}(ha:a≤8*L)(h:toldA g L lim none out a=R)(hd:begR g L a=(k,p,f)):(f≠0→R=(out,a,f))∧(f=0→toldA g L lim (some k) out p=R):=by
 rw[told_head ha,hd]at h
 constructor
 ·intro hf;rw[if_pos hf]at h;exact h.symm
 ·intro hf;rw[if_neg (fun e=>e hf)]at h;exact h
theorem told_s0{g:Nat→Nat}{L lim a p:Nat}{out:List Nat}{f:Int}{R:List Nat×Nat×Int}{k:Blk13}{t:Tok}{en:Bool}(ha:a≤8*L)(h:toldA g L lim (some k) out a=R)(hd:nextR k g L a=(t,en,p,f)):
  (f≠0→R=(out,a,f))∧(f=0→(en=true→(k.last=true→R=(out,p,0))∧(k.last=false→toldA g L lim none out p=R))∧
   (en=false→((out.length:Int)<t.d→R=(out,p,60))∧(t.d≤(out.length:Int)→(lim<out.length+lenT t→R=(out,p,140))∧(out.length+lenT t≤lim→toldA g L lim (some (lessK k)) (stpT out t) p=R)))):=by
 rw[told_step ha,hd]at h
 dsimp only at h
 refine⟨fun hf=>?_,fun hf=>⟨fun he=>⟨fun hl=>?_,fun hl=>?_⟩,fun he=>⟨fun h1=>?_,fun h1=>⟨fun h2=>?_,fun h2=>?_⟩⟩⟩⟩
 ·rw[if_pos hf]at h;exact h.symm
 all_goals rw[if_neg (fun e=>e hf)]at h
 ·rw[if_pos he,if_pos hl]at h;exact h.symm
 ·rw[if_pos he,if_neg (by rw[hl];decide)]at h;exact h
 all_goals rw[if_neg (by rw[he];decide)]at h
 ·rw[if_pos h1]at h;exact h.symm
 all_goals rw[if_neg (by omega)]at h
 ·rw[if_pos h2]at h;exact h.symm
 ·rw[if_neg (by omega)]at h;exact h
theorem rtold13_any(w:World)(A:Option Addr)(l c:Nat)(g:Nat→Nat)(hg:RdB w w.heap.size A l g)(hl:l≤131072)(a lim:Nat)(ha:a≤8*l)(hlim:lim≤131072):
  Calls Tryz.prog 36 #[.slice A l c,.int .i64 (a:Int),.int .i64 (lim:Int)] w fun e w'=>TldD w (toldA g l lim none [] a) e w':=by
 obtain⟨R,hR⟩:∃R,R=toldA g l lim none [] a:=⟨_,rfl⟩
 rw[←hR]
 obtain⟨ZK,hZK⟩:∃Z,Z=z5:=⟨_,rfl⟩
 obtain⟨Z3,hZ3⟩:∃Z:Array Value,Z=#[.int .u8 0,.int .i64 0,.int .i64 0]:=⟨_,rfl⟩
 have HKS:Hid (ZK.size=5):=Lib.hid (by rw[hZK];rfl)
 have HTS0:Hid (Z3.size=3):=Lib.hid (by rw[hZ3];rfl)
 have hzk:∀u:World,(zeroValue 73).run Tryz.prog u=.ok (.agg ZK) u:=by rw[hZK];exact(zero_of_info infoBlk13).1
 have hzt:∀u:World,(zeroValue 36).run Tryz.prog u=.ok (.agg Z3) u:=by rw[hZ3];exact(zero_of_info infoTok13).1
 have HG:=Lib.hid hg;have HRR:=Lib.hid hR;have HLL:=Lib.hid hl;have HLIM:=Lib.hid hlim
 clear hg hR hZK hZ3
 go_enter Tryz.func36,Tryz.ntmps36
 go_wp2
 go_loopw [1,9] (fun av ov wr=>∃(a' q:Nat) (At:Option Addr) (ct:Nat) (L:List Nat),a'≤8*l∧q≤131072∧av=.int .i64 (a':Int)∧ov=.slice At q ct∧Hid (q=L.length)∧Hid (toldA g l lim none L a'=R)∧Hid (∀x∈L,x<256)∧Hid (wr.ownsRow w.heap.size 5 1 (.slice At q ct) q (bytesL q (lst L)))∧Hid (Below w.heap.size w wr)) (fun av _ _=>8*l-(intOf av).toNat)
 case atStart=>exact⟨a,0,none,0,[],ha,Nat.zero_le _,rfl,rfl,Lib.hid rfl,Lib.hid HRR.out.symm,Lib.hid (fun x hx=>by cases hx),Lib.hid (World.ownsRow_nil _ _ _ _),Lib.hid (Below.refl _ _)⟩
 case round=>
  obtain⟨a',q,At,ct,L,ha',hq,rfl,rfl,HQ,HR,HL,HO,HB⟩:=hrel
  obtain⟨wo,rfl⟩:∃wo:World,wo=wr:=⟨_,rfl⟩
  have hbg:=rbeg13_any wo A l c g ((HG.out.below HB.out (Nat.le_refl _)).more HB.out.size) (by omega) a' ha'
  obtain⟨D,hD⟩:∃D,D=begR g l a':=⟨_,rfl⟩
  rw[←hD]at hbg
  obtain⟨k,p,f⟩:=D
  have hfw:=beg_fwd (g:=g) (L:=l) (a:=a')
  rw[←hD]at hfw
  obtain⟨r1,r2⟩:=told_h0 ha' HR.out hD.symm
  have HBG:=Lib.hid hbg;have HFW:=Lib.hid hfw;have RR1:=Lib.hid r1;have RR2:=Lib.hid r2
  clear hbg hfw hD r1 r2
  go_wp2_with fail
  refine HBG.out.mono ?_
  rintro e w3 ⟨⟨B1,e1,B2,e2,rfl,rd1,rd2,n1,n2,hin⟩,hb3⟩
  try dsimp only at rd1
  try dsimp only at rd2
  try dsimp only at n1
  try dsimp only at n2
  try dsimp only at hin
  try dsimp only
  obtain⟨X,hX⟩:∃X,X=blkC k B1 e1 B2 e2:=⟨_,rfl⟩
  rw[←hX]
  have HXS:Hid (X.size=5):=Lib.hid (by rw[hX];rfl)
  have HXO:Hid (X.all (·.oneCell')=true):=Lib.hid (by rw[hX];simp[blkC,Value.oneCell'])
  obtain⟨W4,hW4⟩:∃W,W=mkV w3 ZK X 73:=⟨_,rfl⟩
  obtain⟨gK,hgK⟩:∃s,s=w3.heap.size:=⟨_,rfl⟩
  have hb4:Below w3.heap.size w3 W4:=by rw[hW4];exact mkV_below _ _ _ _
  have x4:BoxC W4 gK X 73:=by rw[hW4,hgK];exact mkV_row w3 ZK X _
  have hb34:Below wo.heap.size wo W4:=hb3.trans (hb4.mono hb3.size)
  have HRD:Hid (RdB W4 gK B1 k.n k.F∧RdB W4 gK B2 k.m k.G):=Lib.hid (by rw[hgK];exact⟨rd1.below hb4 (Nat.le_refl _),rd2.below hb4 (Nat.le_refl _)⟩)
  have ho4:=own_keep HO.out hb34
  have HTL:Hid (Tld w W4 wo.heap.size gK X q (lst L) At ct W4):=Lib.hid ⟨ho4,fun j hj=>.inl (own_blk_lt HO.out j hj).2,x4,fun _ _ _=>rfl,HB.out.trans (hb34.mono HB.out.size),HB.out.size,by rw[hgK];exact hb3.size⟩
  have HN:=Lib.hid (And.intro n1 n2);have HIN:=Lib.hid hin;have HW4:=Lib.hid hW4;have HGK:=Lib.hid hgK;have HXE:=Lib.hid hX
  clear rd1 rd2 n1 n2 hin hb3 hX hW4 hgK hb4 x4 hb34 ho4 HBG HO
  by_cases f0:f=0
  case neg=>
   have d1:(f !=0)=true:=by simpa using f0
   have HRE:=Lib.hid (RR1.out f0)
   clear f0
   go_wp2_with (first
    |(refine wpList_store_rowTo rfl _ _ _ rfl rfl w3.heap.size X rfl rfl 73 ZK (heap_alloc_new w3 _) (szBlk5 _ HXS.out) (by rw[HKS.out,HXS.out]) HXO.out ?_;change wpList _ _ _ _ _ (mkV w3 ZK X 73);rw[←HW4.out,←HGK.out])
    |fail)
   refine bodyPost_ret (results_tmp3 rfl _ _ _) rfl ?_
   exact TldD.tl HRE.out HQ.out HL.out HTL.out
  have d1:(f !=0)=false:=by simp[f0]
  subst f0
  have hp1:=(HFW.out rfl).1
  have hp2:=(HFW.out rfl).2
  change a'+3≤p at hp1
  change p≤8*l at hp2
  have HT0:=Lib.hid (RR2.out rfl)
  have HIN0:Hid (BlkIn (leftB k k.left)):=Lib.hid (HIN.out rfl)
  have HTL0:Hid (Tld w W4 wo.heap.size gK (blkC (leftB k k.left) B1 e1 B2 e2) q (lst L) At ct W4):=Lib.hid (by have h:=HTL.out;rw[HXE.out]at h;exact h)
  clear RR1 RR2 HFW HIN HTL HB
  obtain⟨s0,hs0⟩:∃s,s=wo.heap.size:=⟨_,rfl⟩
  rw[←hs0]at HTL0 HN
  clear hs0
  go_wp2_with (first
   |(refine wpList_store_rowTo rfl _ _ _ rfl rfl w3.heap.size X rfl rfl 73 ZK (heap_alloc_new w3 _) (szBlk5 _ HXS.out) (by rw[HKS.out,HXS.out]) HXO.out ?_;change wpList _ _ _ _ _ (mkV w3 ZK X 73);rw[←HW4.out,←HGK.out])
   |fail)
  go_loopw [1,9] (fun av ov wr=>∃(a2 q2:Nat) (At2:Option Addr) (ct2:Nat) (L2:List Nat) (lf:Nat),a2≤8*l∧p≤a2∧q2≤131072∧av=.int .i64 (a2:Int)∧ov=.slice At2 q2 ct2∧Hid (q2=L2.length)∧Hid (∀x∈L2,x<256)∧Hid (BlkIn (leftB k lf))∧Hid (toldA g l lim (some (leftB k lf)) L2 a2=R)∧Hid (Tld w W4 s0 gK (blkC (leftB k lf) B1 e1 B2 e2) q2 (lst L2) At2 ct2 wr)) (fun av _ _=>8*l-(intOf av).toNat)
  case atStart=>exact⟨p,q,At,ct,L,k.left,hp2,Nat.le_refl _,hq,rfl,rfl,HQ,HL,HIN0,HT0,HTL0⟩
  case round=>
   obtain⟨a2,q2,At2,ct2,L2,lf,ha2,hpa,hq2,rfl,rfl,HQ2,HL2,HIN2,HR2,HT2⟩:=hrel
   obtain⟨wi,rfl⟩:∃wi:World,wi=wr:=⟨_,rfl⟩
   have hnx:=rnext13_any wi (leftB k lf) B1 e1 B2 e2 HIN2.out (HT2.out.rd HRD.out.1 HN.out.1) (HT2.out.rd HRD.out.2 HN.out.2) A l c g ((HG.out.below HT2.out.bel (Nat.le_refl _)).more HT2.out.bel.size) (by omega) a2 ha2
   obtain⟨D,hD⟩:∃D,D=nextR (leftB k lf) g l a2:=⟨_,rfl⟩
   have hfw:=next_fwd (k:=leftB k lf) (g:=g) ha2
   have hmy:=next_may (k:=leftB k lf) (g:=g) (L:=l) (a:=a2)
   rw[←hD]at hnx hfw hmy
   obtain⟨t,en,sa,se⟩:=D
   obtain⟨r1,r2⟩:=told_s0 ha2 HR2.out hD.symm
   obtain⟨KX,hKX⟩:∃X,X=blkC (leftB k lf) B1 e1 B2 e2:=⟨_,rfl⟩
   rw[←hKX]at hnx HT2
   obtain⟨T,hT⟩:∃T:Array Value,T=#[.int .u8 (t.x:Int),.int .i64 t.d,.int .i64 t.n]:=⟨_,rfl⟩
   have hnv:nxtV (t,en,sa,se)=.tuple #[.agg T,.bool en,.int .i64 (sa:Int),.int .i64 se]:=by rw[hT];rfl
   rw[hnv]at hnx
   have HKX5:Hid (KX.size=5):=Lib.hid (by rw[hKX];rfl)
   have HKXO:Hid (KX.all (·.oneCell')=true):=Lib.hid (by rw[hKX];simp[blkC,Value.oneCell'])
   have HTS:Hid (T.size=3):=Lib.hid (by rw[hT];rfl)
   have HTO:Hid (T.all (·.oneCell')=true):=Lib.hid (by rw[hT];simp[Value.oneCell'])
   have HBX:=Lib.hid HT2.out.box
   have HNX:=Lib.hid hnx;have HFW:=Lib.hid hfw;have HMY:=Lib.hid hmy;have RR1:=Lib.hid r1;have RR2:=Lib.hid r2;have HKXE:=Lib.hid hKX;have HTE:=Lib.hid hT
   clear hnx hfw hmy hD r1 r2 hKX hT hnv
   go_wp2_with (first
    |(refine wpList_load_row rfl _ _ rfl gK rfl _ KX (0,0) _ HBX.out Tryz.underlying73 rfl (szBlk5 _ HKX5.out) ?_)
    |fail)
   refine HNX.out.mono ?_
   rintro e w5 ⟨rfl,hb5⟩
   obtain⟨W6,hW6⟩:∃W,W=mkV w5 Z3 T 36:=⟨_,rfl⟩
   obtain⟨gT,hgT⟩:∃s,s=w5.heap.size:=⟨_,rfl⟩
   have hb6:Below w5.heap.size w5 W6:=by rw[hW6];exact mkV_below _ _ _ _
   have hb56:Below wi.heap.size wi W6:=hb5.trans (hb6.mono hb5.size)
   have HT6:=Lib.hid (HT2.out.on hb56)
   have tb:BoxC W6 gT T 36:=by rw[hW6,hgT];exact mkV_row w5 Z3 T _
   have HTB:=Lib.hid tb;have HW6:=Lib.hid hW6;have HGT:=Lib.hid hgT
   clear hb5 hW6 hgT hb6 hb56 tb HNX HT2 HBX
   by_cases s0':se=0
   case neg=>
    have d2:(se !=0)=true:=by simpa using s0'
    have HRE:=Lib.hid (RR1.out s0')
    clear s0'
    go_wp2_with (first
     |(refine wpList_store_rowTo rfl _ _ _ rfl rfl w5.heap.size T rfl rfl 36 Z3 (heap_alloc_new w5 _) (by rw[HTS.out];exact szTok) (by rw[HTS0.out,HTS.out]) HTO.out ?_;change wpList _ _ _ _ _ (mkV w5 Z3 T 36);rw[←HW6.out,←HGT.out])
     |fail)
    refine bodyPost_ret (results_tmp3 rfl _ _ _) rfl ?_
    exact TldD.tl HRE.out HQ2.out HL2.out HT6.out
   have d2:(se !=0)=false:=by simp[s0']
   subst s0'
   have hfw:=HFW.out rfl
   have hsa1:a2≤sa:=hfw.1
   have hsa2:sa≤8*l:=hfw.2.1
   have HSA:=Lib.hid hfw.2.2
   have RR:=Lib.hid (RR2.out rfl)
   have kl:W6.cell? ⟨gK,1,none⟩=some (.bool k.last):=HT6.out.box.cell.trans (by rw[HKXE.out];rfl)
   have kf:W6.cell? ⟨gK,2,none⟩=some (.int .i64 (lf:Int)):=HT6.out.box.cell.trans (by rw[HKXE.out];rfl)
   clear RR1 RR2 HFW hfw
   cases en
   case true=>
    obtain⟨q1,q2'⟩:=RR.out.1 rfl
    rcases Bool.eq_false_or_eq_true k.last with hkl|hkl
    ·have HRE:=Lib.hid (q1 hkl)
     rw[hkl]at kl
     clear q1 q2' hkl
     go_wp2_with (first
      |(refine wpList_store_rowTo rfl _ _ _ rfl rfl w5.heap.size T rfl rfl 36 Z3 (heap_alloc_new w5 _) (by rw[HTS.out];exact szTok) (by rw[HTS0.out,HTS.out]) HTO.out ?_;change wpList _ _ _ _ _ (mkV w5 Z3 T 36);rw[←HW6.out,←HGT.out])
      |fail)
     refine bodyPost_ret (results_tmp3 rfl _ _ _) rfl ?_
     exact TldD.tl HRE.out HQ2.out HL2.out HT6.out
    ·have HRE:=Lib.hid (q2' hkl)
     have HO6:=Lib.hid HT6.out.own
     have HB6:=Lib.hid HT6.out.bel
     rw[hkl]at kl
     have hdec:8*l-sa<8*l-a':=by omega
     clear q1 q2' hkl
     go_wp2_with (first
      |(refine wpList_store_rowTo rfl _ _ _ rfl rfl w5.heap.size T rfl rfl 36 Z3 (heap_alloc_new w5 _) (by rw[HTS.out];exact szTok) (by rw[HTS0.out,HTS.out]) HTO.out ?_;change wpList _ _ _ _ _ (mkV w5 Z3 T 36);rw[←HW6.out,←HGT.out])
      |fail)
     go_roundw
     case rel=>exact⟨sa,q2,At2,ct2,L2,hsa2,hq2,rfl,rfl,HQ2,HRE,HL2,HO6,HB6⟩
     case measure=>exact hdec
   case false=>
    have hsa3:a2+1≤sa:=HSA.out rfl
    have hmy:mayT t=true∧t.x<256:=HMY.out rfl rfl
    have RF:=Lib.hid (RR.out.2 rfl)
    clear kl RR HSA HMY
    have t0:W6.cell? ⟨gT,0,none⟩=some (.int .u8 (t.x:Int)):=HTB.out.cell.trans (by rw[HTE.out];rfl)
    have t1:W6.cell? ⟨gT,1,none⟩=some (.int .i64 t.d):=HTB.out.cell.trans (by rw[HTE.out];rfl)
    have t2:W6.cell? ⟨gT,2,none⟩=some (.int .i64 t.n):=HTB.out.cell.trans (by rw[HTE.out];rfl)
    obtain⟨hm1,hm2⟩:=hmy
    have hmt:=mayT_is hm1
    obtain⟨tx,td,tn⟩:=t
    try dsimp only at hm2
    try dsimp only at hmt
    try dsimp only at t0
    try dsimp only at t1
    try dsimp only at t2
    obtain⟨N,hN⟩:∃N,N=lenT ⟨tx,td,tn⟩:=⟨_,rfl⟩
    rw[←hN]at RF
    have hdn:0≤td∧td≤32768∧0≤tn∧tn≤258:=by rcases hmt with⟨h1,h2⟩|⟨_,_,h3,h4,h5,h6⟩<;>omega
    have HGL:Hid (∀j,tokG L2 ⟨tx,td,tn⟩ j<256):=Lib.hid (tokG_lt HL2.out hm2)
    obtain⟨gs,hgs⟩:∃gs,gs=q2+N:=⟨_,rfl⟩
    have egs:(q2:Int)+(N:Int)=(gs:Int):=by omega
    have RF1:=Lib.hid (RF.out.1);have RF2:=Lib.hid (RF.out.2)
    rw[←HQ2.out]at RF1 RF2
    rw[←hgs]at RF2
    have HN:=Lib.hid hN;have HGS:=Lib.hid hgs;have HM1:=Lib.hid hm1;have HM2:=Lib.hid hm2;have HMT:=Lib.hid hmt;have HNN:=HN
    clear RF hm1 hm2 hmt
    by_cases hn0:tn=0
    ·have hN1:N=1:=by rw[hN];unfold lenT;rw[if_pos hn0]
     subst hn0
     have htd:td=0:=by rcases HMT.out with⟨_,h2⟩|⟨h1,_⟩;exact h2;exact absurd rfl h1
     subst htd
     have e0:((0:Int)==0)=true:=by decide
     have egs1:(q2:Int)+1=(gs:Int):=by omega
     have hdq:¬(q2:Int)<0:=by omega
     have hdq2:decide ((q2:Int)<0)=false:=decN hdq
     have RF3:=Lib.hid (RF2.out (Int.not_lt.1 hdq))
     by_cases hmany:lim<gs
     ·have HRE:=Lib.hid (RF3.out.1 hmany)
      have dm:decide ((lim:Int)<(gs:Int))=true:=decY (by omega)
      have dm2:decide (lim<gs)=true:=decY hmany
      have dm3:(lim:Int)<(gs:Int):=by omega
      clear egs hN1 hgs hN
      go_wp2_with (first
       |(refine wpList_store_rowTo rfl _ _ _ rfl rfl w5.heap.size T rfl rfl 36 Z3 (heap_alloc_new w5 _) (by rw[HTS.out];exact szTok) (by rw[HTS0.out,HTS.out]) HTO.out ?_;change wpList _ _ _ _ _ (mkV w5 Z3 T 36);rw[←HW6.out,←HGT.out])
       |fail)
      refine bodyPost_ret (results_tmp3 rfl _ _ _) rfl ?_
      exact TldD.tl HRE.out HQ2.out HL2.out HT6.out
     have HRN:=Lib.hid (RF3.out.2 (by omega))
     have dm:decide ((lim:Int)<(gs:Int))=false:=decN (by omega)
     have dm2:decide (lim<gs)=false:=decN hmany
     have dm3:¬(lim:Int)<(gs:Int):=by omega
     have hgb:gs≤131072:=by omega
     obtain⟨G,hG⟩:∃G,G=tokG L2 ⟨tx,0,0⟩:=⟨_,rfl⟩
     rw[←hG]at HGL
     have HTA:Hid (Tld w W4 s0 gK KX q2 G At2 ct2 W6):=Lib.hid (HT6.out.ext fun j hj=>by rw[hG];exact tokG_lo (by rw[←HQ2.out];exact hj))
     have HGX:Hid (∀i,tx=G (q2+i)):=Lib.hid fun i=>by rw[hG,HQ2.out];exact(tokG_lit (t:=⟨tx,0,0⟩) rfl i).symm
     have HGF:Hid (∀j,j<q2+N→G j=lst (stpT L2 ⟨tx,0,0⟩) j):=Lib.hid fun j hj=>by rw[hG];exact tokG_stp (by rw[←HNN.out,←HQ2.out];exact hj)
     have HLN:Hid (gs=(stpT L2 ⟨tx,0,0⟩).length):=Lib.hid (by rw[len_stp,←HNN.out,←HQ2.out];exact hgs)
     have HL3:=Lib.hid (stp_lt (L:=L2) (t:=⟨tx,0,0⟩) HL2.out HM2.out)
     obtain⟨L3,hL3⟩:∃L,L=stpT L2 ⟨tx,0,0⟩:=⟨_,rfl⟩
     rw[←hL3]at HGF HLN HL3 HRN
     clear hG hL3 hmany hN egs hgs
     obtain⟨wj,rfl⟩:∃wj:World,wj=W6:=⟨_,rfl⟩
     go_wp2_with (first
      |(refine wpList_store_rowTo rfl _ _ _ rfl rfl w5.heap.size T rfl rfl 36 Z3 (heap_alloc_new w5 _) (by rw[HTS.out];exact szTok) (by rw[HTS0.out,HTS.out]) HTO.out ?_;change wpList _ _ _ _ _ (mkV w5 Z3 T 36);rw[←HW6.out,←HGT.out])
      |fail)
     go_loopw [9,18] (fun ov iv wr=>∃(i z:Nat) (Ai:Option Addr) (ci:Nat),i≤N∧z=q2+i∧ov=.slice Ai z ci∧iv=.int .i64 (i:Int)∧Hid (BoxC wr gT T 36)∧Hid (Tld w W4 s0 gK KX z G Ai ci wr)) (fun _ iv _=>N-(intOf iv).toNat)
     case atStart=>exact⟨0,q2,At2,ct2,Nat.zero_le _,rfl,rfl,rfl,HTB,HTA⟩
     case round=>
      obtain⟨i,z,Ai,ci,hi,hz,rfl,rfl,HBT,HTI⟩:=hrel
      have HGSv:=HGS.out
      by_cases hlt:i<N
      ·have dl:(i:Int)<1:=by omega
       have dl2:decide ((i:Int)<1)=true:=decY dl
       have dl3:decide (i<1)=true:=decY (by omega)
       have y0:wr.cell? ⟨gT,0,none⟩=some (.int .u8 (tx:Int)):=HBT.out.cell.trans (by rw[HTE.out];rfl)
       have y1:wr.cell? ⟨gT,1,none⟩=some (.int .i64 0):=HBT.out.cell.trans (by rw[HTE.out];rfl)
       have y2:wr.cell? ⟨gT,2,none⟩=some (.int .i64 0):=HBT.out.cell.trans (by rw[HTE.out];rfl)
       obtain⟨A',c',w',hrun,ht3,hbx⟩:=HTI.out.one (by omega) tx (by rw[hz];exact HGX.out i)
       have xv:True:=trivial
       have HRUN:=Lib.hid hrun;have HT3:=Lib.hid ht3;have HBT3:=Lib.hid (hbx _ _ _ HBT.out (by kernel_rfl))
       have hz2:z+1=q2+(i+1):=by omega
       have HZ2:=Lib.hid hz2
       have hzb:z≤1000000:=by omega
       clear hrun ht3 hbx hz2 hz HGSv
       go_wp2_with (at_builtin;refine wpList_append_run rfl (.tmp 86) (.tmp 88) 22 rfl (.slice Ai z ci) (.slice (some ⟨wr.heap.size,0,none⟩) 1 1) (.slice A' (z+1) c') w' rfl rfl HRUN.out ?_)
       go_roundw
       case rel=>exact⟨i+1,z+1,A',c',by omega,HZ2.out,rfl,by go_num,HBT3,HT3⟩
       case measure=>simp[intOf];omega
      ·obtain rfl:i=N:=by omega
       have dl:¬(i:Int)<1:=by omega
       have dl2:decide ((i:Int)<1)=false:=decN dl
       have dl3:decide (i<1)=false:=decN (by omega)
       have hzg:z=gs:=by omega
       have HT7:Hid (Tld w W4 s0 gK (blkC (leftB k lf) B1 e1 B2 e2) z (lst L3) Ai ci wr):=Lib.hid (by
        have h:=HTI.out.ext (F:=lst L3) fun j hj=>HGF.out j (by omega)
        rw[HKXE.out]at h;exact h)
       have kf3:wr.cell? ⟨gK,2,none⟩=some (.int .i64 (lf:Int)):=HT7.out.box.cell.trans rfl
       have fz:wr.frozen? ⟨gK,2,none⟩=false:=HT7.out.box.free
       have hzb:z≤131072:=by omega
       have HZL:Hid (z=L3.length):=Lib.hid (hzg.trans HLN.out)
       have hdec:8*l-sa<8*l-a2:=by omega
       clear hzg hz HGSv
       by_cases hlf:lf=0
       ·subst hlf
        have HR3:Hid (toldA g l lim (some (leftB k 0)) L3 sa=R):=Lib.hid HRN.out
        go_wp2
        go_roundw
        case rel=>exact⟨sa,z,Ai,ci,L3,0,hsa2,by omega,hzb,rfl,rfl,HZL,HL3,HIN2,HR3,HT7⟩
        case measure=>exact hdec
       ·obtain⟨y,hy⟩:∃y,y=lf-1:=⟨_,rfl⟩
        have ey:(lf:Int)-1=(y:Int):=by omega
        have e5:decide ((0:Int)<(lf:Int))=true:=decY (by omega)
        have e6:decide (0<lf)=true:=decY (by omega)
        have hlf65:lf≤65535:=HIN2.out.left
        have HR3:Hid (toldA g l lim (some (leftB k y)) L3 sa=R):=Lib.hid (by rw[hy];exact HRN.out)
        have HIN3:Hid (BlkIn (leftB k y)):=Lib.hid (leftB_in HIN2.out (by omega))
        have HT8:Hid (Tld w W4 s0 gK (blkC (leftB k y) B1 e1 B2 e2) z (lst L3) Ai ci (wr.setCell ⟨gK,2,none⟩ (.int .i64 (y:Int)))):=Lib.hid (by
         have h:=HT7.out.set (.int .i64 (y:Int))
         rw[leftB_set]at h;exact h)
        clear hy hlf
        go_wp2
        go_roundw
        case rel=>exact⟨sa,z,Ai,ci,L3,y,hsa2,by omega,hzb,rfl,rfl,HZL,HL3,HIN3,HR3,HT8⟩
        case measure=>exact hdec
    ·have e0:(tn==0)=false:=by simp[hn0]
     have hNt:(N:Int)=tn:=by rw[hN];unfold lenT;rw[if_neg hn0];exact Int.toNat_of_nonneg hdn.2.2.1
     have htd:1≤td:=by rcases HMT.out with⟨h1,_⟩|⟨_,_,_,_,h5,_⟩;exact absurd h1 hn0;exact h5
     obtain⟨d,hd⟩:∃d:Nat,(d:Int)=td:=⟨td.toNat,Int.toNat_of_nonneg (by omega)⟩
     subst hNt;subst hd
     have hN0:0<N:=by omega
     have eN0:decide ((0:Int)<(N:Int))=true:=decY (by omega)
     have eN1:decide (0<N)=true:=decY hN0
     have HN0:=Lib.hid hn0
     have hd1:1≤d:=by omega
     by_cases hdq:(q2:Int)<(d:Int)
     ·have HRE:=Lib.hid (RF1.out hdq)
      have hdq2:decide ((q2:Int)<(d:Int))=true:=decY hdq
      have hdq3:decide (q2<d)=true:=decY (by omega)
      clear hgs hn0 hN
      go_wp2_with (first
       |(refine wpList_store_rowTo rfl _ _ _ rfl rfl w5.heap.size T rfl rfl 36 Z3 (heap_alloc_new w5 _) (by rw[HTS.out];exact szTok) (by rw[HTS0.out,HTS.out]) HTO.out ?_;change wpList _ _ _ _ _ (mkV w5 Z3 T 36);rw[←HW6.out,←HGT.out])
       |fail)
      refine bodyPost_ret (results_tmp3 rfl _ _ _) rfl ?_
      exact TldD.tl HRE.out HQ2.out HL2.out HT6.out
     have hdq2:decide ((q2:Int)<(d:Int))=false:=decN hdq
     have hdq3:decide (q2<d)=false:=decN (by omega)
     have RF3:=Lib.hid (RF2.out (Int.not_lt.1 hdq))
     have hdle:d≤q2:=by omega
     by_cases hmany:lim<gs
     ·have HRE:=Lib.hid (RF3.out.1 hmany)
      have dm:decide ((lim:Int)<(gs:Int))=true:=decY (by omega)
      have dm2:decide (lim<gs)=true:=decY hmany
      have dm3:(lim:Int)<(gs:Int):=by omega
      clear hgs hN
      go_wp2_with (first
       |(refine wpList_store_rowTo rfl _ _ _ rfl rfl w5.heap.size T rfl rfl 36 Z3 (heap_alloc_new w5 _) (by rw[HTS.out];exact szTok) (by rw[HTS0.out,HTS.out]) HTO.out ?_;change wpList _ _ _ _ _ (mkV w5 Z3 T 36);rw[←HW6.out,←HGT.out])
       |fail)
      refine bodyPost_ret (results_tmp3 rfl _ _ _) rfl ?_
      exact TldD.tl HRE.out HQ2.out HL2.out HT6.out
     have HRN:=Lib.hid (RF3.out.2 (by omega))
     have dm:decide ((lim:Int)<(gs:Int))=false:=decN (by omega)
     have dm2:decide (lim<gs)=false:=decN hmany
     have dm3:¬(lim:Int)<(gs:Int):=by omega
     have hgb:gs≤131072:=by omega
     obtain⟨G,hG⟩:∃G,G=tokG L2 ⟨tx,(d:Int),(N:Int)⟩:=⟨_,rfl⟩
     rw[←hG]at HGL
     have HTA:Hid (Tld w W4 s0 gK KX q2 G At2 ct2 W6):=Lib.hid (HT6.out.ext fun j hj=>by rw[hG];exact tokG_lo (by rw[←HQ2.out];exact hj))
     have HGX:Hid (∀i,G (q2+i-d)=G (q2+i)):=Lib.hid fun i=>by
      have h:=tokG_cop (L:=L2) (t:=⟨tx,(d:Int),(N:Int)⟩) HN0.out (by show(1:Int)≤(d:Int);omega) (by show(d:Int)≤(L2.length:Int);rw[←HQ2.out];omega) i
      rw[hG,HQ2.out];exact h
     have HGF:Hid (∀j,j<q2+N→G j=lst (stpT L2 ⟨tx,(d:Int),(N:Int)⟩) j):=Lib.hid fun j hj=>by rw[hG];exact tokG_stp (by rw[←HNN.out,←HQ2.out];exact hj)
     have HLN:Hid (gs=(stpT L2 ⟨tx,(d:Int),(N:Int)⟩).length):=Lib.hid (by rw[len_stp,←HNN.out,←HQ2.out];exact hgs)
     have HL3:=Lib.hid (stp_lt (L:=L2) (t:=⟨tx,(d:Int),(N:Int)⟩) HL2.out HM2.out)
     obtain⟨L3,hL3⟩:∃L,L=stpT L2 ⟨tx,(d:Int),(N:Int)⟩:=⟨_,rfl⟩
     rw[←hL3]at HGF HLN HL3 HRN
     clear hG hL3 hmany hN hgs
     obtain⟨wj,rfl⟩:∃wj:World,wj=W6:=⟨_,rfl⟩
     go_wp2_with (first
      |(refine wpList_store_rowTo rfl _ _ _ rfl rfl w5.heap.size T rfl rfl 36 Z3 (heap_alloc_new w5 _) (by rw[HTS.out];exact szTok) (by rw[HTS0.out,HTS.out]) HTO.out ?_;change wpList _ _ _ _ _ (mkV w5 Z3 T 36);rw[←HW6.out,←HGT.out])
      |fail)
     go_loopw [9,18] (fun ov iv wr=>∃(i z:Nat) (Ai:Option Addr) (ci:Nat),i≤N∧z=q2+i∧ov=.slice Ai z ci∧iv=.int .i64 (i:Int)∧Hid (BoxC wr gT T 36)∧Hid (Tld w W4 s0 gK KX z G Ai ci wr)) (fun _ iv _=>N-(intOf iv).toNat)
     case atStart=>exact⟨0,q2,At2,ct2,Nat.zero_le _,rfl,rfl,rfl,HTB,HTA⟩
     case round=>
      obtain⟨i,z,Ai,ci,hi,hz,rfl,rfl,HBT,HTI⟩:=hrel
      have HGSv:=HGS.out
      by_cases hlt:i<N
      ·have dl:(i:Int)<(N:Int):=by omega
       have dl2:decide ((i:Int)<(N:Int))=true:=decY dl
       have dl3:decide (i<N)=true:=decY (by omega)
       have y0:wr.cell? ⟨gT,0,none⟩=some (.int .u8 (tx:Int)):=HBT.out.cell.trans (by rw[HTE.out];rfl)
       have y1:wr.cell? ⟨gT,1,none⟩=some (.int .i64 (d:Int)):=HBT.out.cell.trans (by rw[HTE.out];rfl)
       have y2:wr.cell? ⟨gT,2,none⟩=some (.int .i64 (N:Int)):=HBT.out.cell.trans (by rw[HTE.out];rfl)
       obtain⟨b2,o2,rfl,_,hcc⟩:=(ByR.of_own HTI.out.own HGL.out).1.2 (by omega)
       obtain⟨v,hv⟩:∃v,v=z-d:=⟨_,rfl⟩
       have ev:(z:Int)-(d:Int)=(v:Int):=by omega
       have hvz:(v:Int)<(z:Int):=by omega
       have hv0:(0:Int)≤(v:Int):=by omega
       have x9:=hcc v (by omega)
       have hgv:G v=G z:=by rw[hv,hz];exact HGX.out i
       obtain⟨u,hu⟩:∃u,u=G z:=⟨_,rfl⟩
       rw[hgv,←hu]at x9
       obtain⟨A',c',w',hrun,ht3,hbx⟩:=HTI.out.one (by omega) u hu
       clear hcc hgv hv hu
       have HRUN:=Lib.hid hrun;have HT3:=Lib.hid ht3;have HBT3:=Lib.hid (hbx _ _ _ HBT.out (by kernel_rfl))
       have hz2:z+1=q2+(i+1):=by omega
       have HZ2:=Lib.hid hz2
       have hzb:z≤1000000:=by omega
       clear hrun ht3 hbx hz2 hz HGSv
       go_wp2_with (at_builtin;refine wpList_append_run rfl (.tmp 86) (.tmp 88) 22 rfl (.slice (some ⟨b2,o2,none⟩) z ci) (.slice (some ⟨wr.heap.size,0,none⟩) 1 1) (.slice A' (z+1) c') w' rfl rfl HRUN.out ?_)
       go_roundw
       case rel=>exact⟨i+1,z+1,A',c',by omega,HZ2.out,rfl,by go_num,HBT3,HT3⟩
       case measure=>simp[intOf];omega
      ·obtain rfl:i=N:=by omega
       have dl:¬(i:Int)<(i:Int):=by omega
       have dl2:decide ((i:Int)<(i:Int))=false:=decN dl
       have dl3:decide (i<i)=false:=decN (by omega)
       have hzg:z=gs:=by omega
       have HT7:Hid (Tld w W4 s0 gK (blkC (leftB k lf) B1 e1 B2 e2) z (lst L3) Ai ci wr):=Lib.hid (by
        have h:=HTI.out.ext (F:=lst L3) fun j hj=>HGF.out j (by omega)
        rw[HKXE.out]at h;exact h)
       have kf3:wr.cell? ⟨gK,2,none⟩=some (.int .i64 (lf:Int)):=HT7.out.box.cell.trans rfl
       have fz:wr.frozen? ⟨gK,2,none⟩=false:=HT7.out.box.free
       have hzb:z≤131072:=by omega
       have HZL:Hid (z=L3.length):=Lib.hid (hzg.trans HLN.out)
       have hdec:8*l-sa<8*l-a2:=by omega
       clear hzg hz HGSv
       by_cases hlf:lf=0
       ·subst hlf
        have HR3:Hid (toldA g l lim (some (leftB k 0)) L3 sa=R):=Lib.hid HRN.out
        go_wp2
        go_roundw
        case rel=>exact⟨sa,z,Ai,ci,L3,0,hsa2,by omega,hzb,rfl,rfl,HZL,HL3,HIN2,HR3,HT7⟩
        case measure=>exact hdec
       ·obtain⟨y,hy⟩:∃y,y=lf-1:=⟨_,rfl⟩
        have ey:(lf:Int)-1=(y:Int):=by omega
        have e5:decide ((0:Int)<(lf:Int))=true:=decY (by omega)
        have e6:decide (0<lf)=true:=decY (by omega)
        have hlf65:lf≤65535:=HIN2.out.left
        have HR3:Hid (toldA g l lim (some (leftB k y)) L3 sa=R):=Lib.hid (by rw[hy];exact HRN.out)
        have HIN3:Hid (BlkIn (leftB k y)):=Lib.hid (leftB_in HIN2.out (by omega))
        have HT8:Hid (Tld w W4 s0 gK (blkC (leftB k y) B1 e1 B2 e2) z (lst L3) Ai ci (wr.setCell ⟨gK,2,none⟩ (.int .i64 (y:Int)))):=Lib.hid (by
         have h:=HT7.out.set (.int .i64 (y:Int))
         rw[leftB_set]at h;exact h)
        clear hy hlf
        go_wp2
        go_roundw
        case rel=>exact⟨sa,z,Ai,ci,L3,y,hsa2,by omega,hzb,rfl,rfl,HZL,HL3,HIN3,HR3,HT8⟩
        case measure=>exact hdec
end Go.Proofs.YtgokdgcmkcmjeaaGreat
namespace Go.Proofs.YtgokdgcmkcmjeaaGreat
open Go.RowKit
def RnfD(w:World)(r:List Nat×Nat×Int)(e:Ending)(w':World):Prop:=TldD w r e w'
def RpfD(w:World)(r:List Nat×Int)(e:Ending)(w':World):Prop:=∃A' c',e=.returned (.tuple #[.slice A' r.1.length c',.int .i64 r.2])∧ByR w' w'.heap.size A' r.1.length c' (lst r.1)∧Below w.heap.size w w'
theorem lim_bad{lim:Int}(h:lim<0∨131072<lim):limE lim=2:=by unfold limE;rw[if_pos h]
theorem lstN(j:Nat):lst [] j<256:=by unfold lst;simp
theorem told_say{w w':World}{R:List Nat×Nat×Int}{e:Ending}(h:TldD w R e w'):∃A' c' n,n=R.1.length∧e=.returned (.tuple #[.slice A' n c',.int .i64 (R.2.1:Int),.int .i64 R.2.2])∧ByR w' w'.heap.size A' n c' (lst R.1)∧Below w.heap.size w w':=by
 obtain⟨A',c',h1,h2,h3⟩:=h;exact⟨A',c',_,rfl,h1,h2,h3⟩
theorem infl_is{g:Nat→Nat}{L:Nat}{a lim:Int}(h1:asked13 L a=0)(h2:limE lim=0)(ha:a.toNat≤8*L):inflR g L a lim=inflT (toldA g L lim.toNat none [] a.toNat):=by
 unfold inflR;rw[if_neg (fun h=>h h1),if_neg (fun h=>h h2),told_A ha (mu_le _ _ _)]
theorem pref_is{g:Nat→Nat}{L:Nat}{lim:Int}(h1:asked13 L 0=0)(h2:limE lim=0):prefR g L lim=prefT (toldA g L lim.toNat none [] 0):=by
 unfold prefR;rw[if_neg (fun h=>h h1),if_neg (fun h=>h h2),told_A (Nat.zero_le _) (mu_le _ _ _)]
theorem rinfl13_any(w:World)(A:Option Addr)(l c:Nat)(g:Nat→Nat)(hg:RdB w w.heap.size A l g)(a:Int)(lim:Int):
  Calls Tryz.prog 16 #[.slice A l c,.int .i64 a,.int .i64 lim] w fun e w'=>RnfD w (inflR g l a lim) e w':=by
 obtain⟨q,hq⟩:∃q,q=asked13 l a:=⟨_,rfl⟩
 have hask:=rask13_any w A l c a
 rw[←hq]at hask
 obtain⟨I,hI⟩:∃I,I=inflR g l a lim:=⟨_,rfl⟩
 rw[←hI]
 have HAS:=Lib.hid hask;have HQ:=Lib.hid hq;have HG:=Lib.hid hg;have HI:=Lib.hid hI
 clear hask hq hI hg
 by_cases q0:q=0
 case neg=>
  have d0:(q==0)=false:=beq_eq_false_iff_ne.2 q0
  have d1:(q !=0)=true:=by simp[bne,d0]
  have HIE:Hid (I=([],0,q)):=Lib.hid (by rw[HI.out];unfold inflR;rw[←HQ.out,if_pos q0])
  clear q0
  go_enter Tryz.func16,Tryz.ntmps16
  go_wp2_with fail
  refine HAS.out.mono ?_
  rintro e w9 ⟨rfl,rfl⟩
  go_wp2
  refine bodyPost_ret (results_tmp3 rfl _ _ _) rfl ?_
  rw[HIE.out];exact⟨none,0,rfl,ByR.nil _ _ _ lstN,Below.refl _ _⟩
 subst q0
 have e0:((0:Int)==0)=true:=rfl
 have e1:((0:Int) !=0)=false:=rfl
 have e2:((2:Int) !=0)=true:=rfl
 by_cases n0:lim<0
 ·have d0:decide (lim<0)=true:=decY n0
  have HIE:Hid (I=([],0,2)):=Lib.hid (by rw[HI.out];unfold inflR;rw[←HQ.out,if_neg (fun h=>h rfl)];rw[lim_bad (.inl n0)];rfl)
  clear n0
  go_enter Tryz.func16,Tryz.ntmps16
  go_wp2_with fail
  refine HAS.out.mono ?_
  rintro e w9 ⟨rfl,rfl⟩
  go_wp2
  refine bodyPost_ret (results_tmp3 rfl _ _ _) rfl ?_
  rw[HIE.out];exact⟨none,0,rfl,ByR.nil _ _ _ lstN,Below.refl _ _⟩
 have d0:decide (lim<0)=false:=decN n0
 by_cases n1:131072<lim
 ·have d1:decide (131072<lim)=true:=decY n1
  have HIE:Hid (I=([],0,2)):=Lib.hid (by rw[HI.out];unfold inflR;rw[←HQ.out,if_neg (fun h=>h rfl)];rw[lim_bad (.inr n1)];rfl)
  clear n0 n1
  go_enter Tryz.func16,Tryz.ntmps16
  go_wp2_with fail
  refine HAS.out.mono ?_
  rintro e w9 ⟨rfl,rfl⟩
  go_wp2
  refine bodyPost_ret (results_tmp3 rfl _ _ _) rfl ?_
  rw[HIE.out];exact⟨none,0,rfl,ByR.nil _ _ _ lstN,Below.refl _ _⟩
 have d1:decide (131072<lim)=false:=decN n1
 have hl3:l≤131072:=by
  have:=HQ.out;unfold asked13 at this
  split at this
  ·omega
  ·omega
 have ha:0≤a∧a≤8*(l:Int):=by
  have:=HQ.out;unfold asked13 at this
  rw[if_neg (by omega)]at this
  split at this
  ·omega
  ·omega
 obtain⟨n,rfl⟩:=Int.eq_ofNat_of_zero_le ha.1
 obtain⟨m,rfl⟩:=Int.eq_ofNat_of_zero_le (show 0≤lim by omega)
 have hi:=infl_is (g:=g) (L:=l) (a:=(n:Int)) (lim:=(m:Int)) HQ.out.symm (by unfold limE;rw[if_neg (by omega)]) (by rw[Int.toNat_natCast];omega)
 rw[Int.toNat_natCast,Int.toNat_natCast]at hi
 have ht:=rtold13_any w A l c g HG.out hl3 n m (by omega) (by omega)
 obtain⟨R,hR⟩:∃R,R=toldA g l m none [] n:=⟨_,rfl⟩
 rw[←hR]at ht hi
 rw[←HI.out]at hi
 have HT:=Lib.hid ht;have HIR:=Lib.hid hi
 clear ht hi hR HI HG HQ hl3
 go_enter Tryz.func16,Tryz.ntmps16
 go_wp2_with fail
 refine HAS.out.mono ?_
 rintro e w9 ⟨rfl,rfl⟩
 go_wp2_with fail
 refine HT.out.mono ?_
 rintro e w2 h
 obtain⟨A',c',k,hk,rfl,hy,hb⟩:=told_say h
 obtain⟨O,p,f⟩:=R
 try dsimp only at hk
 try dsimp only at hy
 try dsimp only
 have HY:=Lib.hid hy;have HB:=Lib.hid hb;have HKK:=Lib.hid hk
 clear h hy hb hk
 by_cases f0:f=0
 ·subst f0
  have HIE:Hid (I=(O,p,0)):=Lib.hid (by rw[HIR.out];unfold inflT;rw[if_neg (fun h=>h rfl)])
  go_wp2
  refine bodyPost_ret (results_tmp3 rfl _ _ _) rfl ?_
  have hk:=HKK.out
  subst hk
  rw[HIE.out];exact⟨A',c',rfl,HY.out,HB.out⟩
 ·have z0:(f !=0)=true:=by simpa using f0
  have HIE:Hid (I=([],0,f)):=Lib.hid (by rw[HIR.out];unfold inflT;rw[if_pos f0])
  clear f0
  go_wp2
  refine bodyPost_ret (results_tmp3 rfl _ _ _) rfl ?_
  rw[HIE.out];exact⟨none,0,rfl,ByR.nil _ _ _ lstN,HB.out⟩
theorem rpref13_any(w:World)(A:Option Addr)(l c:Nat)(g:Nat→Nat)(hg:RdB w w.heap.size A l g)(lim:Int):
  Calls Tryz.prog 18 #[.slice A l c,.int .i64 lim] w fun e w'=>RpfD w (prefR g l lim) e w':=by
 obtain⟨q,hq⟩:∃q,q=asked13 l 0:=⟨_,rfl⟩
 have hask:=rask13_any w A l c 0
 rw[←hq]at hask
 obtain⟨I,hI⟩:∃I,I=prefR g l lim:=⟨_,rfl⟩
 rw[←hI]
 have HAS:=Lib.hid hask;have HQ:=Lib.hid hq;have HG:=Lib.hid hg;have HI:=Lib.hid hI
 clear hask hq hI hg
 by_cases q0:q=0
 case neg=>
  have d0:(q==0)=false:=beq_eq_false_iff_ne.2 q0
  have d1:(q !=0)=true:=by simp[bne,d0]
  have HIE:Hid (I=([],q)):=Lib.hid (by rw[HI.out];unfold prefR;rw[←HQ.out,if_pos q0])
  clear q0
  go_enter Tryz.func18,Tryz.ntmps18
  go_wp2_with fail
  refine HAS.out.mono ?_
  rintro e w9 ⟨rfl,rfl⟩
  go_wp2
  go_ret2
  rw[HIE.out];exact⟨none,0,rfl,ByR.nil _ _ _ lstN,Below.refl _ _⟩
 subst q0
 have e0:((0:Int)==0)=true:=rfl
 have e1:((0:Int) !=0)=false:=rfl
 have e2:((2:Int) !=0)=true:=rfl
 by_cases n0:lim<0
 ·have d0:decide (lim<0)=true:=decY n0
  have HIE:Hid (I=([],2)):=Lib.hid (by rw[HI.out];unfold prefR;rw[←HQ.out,if_neg (fun h=>h rfl)];rw[lim_bad (.inl n0)];rfl)
  clear n0
  go_enter Tryz.func18,Tryz.ntmps18
  go_wp2_with fail
  refine HAS.out.mono ?_
  rintro e w9 ⟨rfl,rfl⟩
  go_wp2
  go_ret2
  rw[HIE.out];exact⟨none,0,rfl,ByR.nil _ _ _ lstN,Below.refl _ _⟩
 have d0:decide (lim<0)=false:=decN n0
 by_cases n1:131072<lim
 ·have d1:decide (131072<lim)=true:=decY n1
  have HIE:Hid (I=([],2)):=Lib.hid (by rw[HI.out];unfold prefR;rw[←HQ.out,if_neg (fun h=>h rfl)];rw[lim_bad (.inr n1)];rfl)
  clear n0 n1
  go_enter Tryz.func18,Tryz.ntmps18
  go_wp2_with fail
  refine HAS.out.mono ?_
  rintro e w9 ⟨rfl,rfl⟩
  go_wp2
  go_ret2
  rw[HIE.out];exact⟨none,0,rfl,ByR.nil _ _ _ lstN,Below.refl _ _⟩
 have d1:decide (131072<lim)=false:=decN n1
 have hl3:l≤131072:=by
  have:=HQ.out;unfold asked13 at this
  split at this
  ·omega
  ·omega
 obtain⟨m,rfl⟩:=Int.eq_ofNat_of_zero_le (show 0≤lim by omega)
 have hi:=pref_is (g:=g) (L:=l) (lim:=(m:Int)) HQ.out.symm (by unfold limE;rw[if_neg (by omega)])
 rw[Int.toNat_natCast]at hi
 have ht:=rtold13_any w A l c g HG.out hl3 0 m (by omega) (by omega)
 obtain⟨R,hR⟩:∃R,R=toldA g l m none [] 0:=⟨_,rfl⟩
 rw[←hR]at ht hi
 rw[←HI.out]at hi
 have HT:=Lib.hid ht;have HIR:=Lib.hid hi
 clear ht hi hR HI HG HQ hl3
 go_enter Tryz.func18,Tryz.ntmps18
 go_wp2_with fail
 refine HAS.out.mono ?_
 rintro e w9 ⟨rfl,rfl⟩
 go_wp2_with fail
 refine HT.out.mono ?_
 rintro e w2 h
 obtain⟨A',c',k,hk,rfl,hy,hb⟩:=told_say h
 obtain⟨O,p,f⟩:=R
 try dsimp only at hk
 try dsimp only at hy
 try dsimp only
 have HY:=Lib.hid hy;have HB:=Lib.hid hb;have HKK:=Lib.hid hk
 clear h hy hb hk
 by_cases f0:f=0
 ·subst f0
  have HIE:Hid (I=(O,0)):=Lib.hid (by rw[HIR.out];unfold prefT;rw[if_neg (fun h=>h.1 rfl)])
  go_wp2
  go_ret2
  have hk:=HKK.out
  subst hk
  rw[HIE.out];exact⟨A',c',rfl,HY.out,HB.out⟩
 have z0:(f !=0)=true:=by simpa using f0
 by_cases f1:f=10
 ·subst f1
  have z1:((10:Int) !=10)=false:=rfl
  have HIE:Hid (I=(O,0)):=Lib.hid (by rw[HIR.out];unfold prefT;rw[if_neg (fun h=>h.2 rfl)])
  clear f0
  go_wp2
  go_ret2
  have hk:=HKK.out
  subst hk
  rw[HIE.out];exact⟨A',c',rfl,HY.out,HB.out⟩
 ·have z1:(f !=10)=true:=by simpa using f1
  have HIE:Hid (I=([],f)):=Lib.hid (by rw[HIR.out];unfold prefT;rw[if_pos ⟨f0,f1⟩])
  clear f0 f1
  go_wp2
  go_ret2
  rw[HIE.out];exact⟨none,0,rfl,ByR.nil _ _ _ lstN,HB.out⟩
end Go.Proofs.YtgokdgcmkcmjeaaGreat
