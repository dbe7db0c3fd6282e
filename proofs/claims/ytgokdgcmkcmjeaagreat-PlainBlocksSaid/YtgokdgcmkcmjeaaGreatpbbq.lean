/-
  Words and walks.
-/
import Derived.Lib.SmallJoins
import Derived.Test.YtgokdgcmkcmjeaaGreatpbad
import Derived.Test.YtgokdgcmkcmjeaaGreatpbae
import Derived.Test.YtgokdgcmkcmjeaaGreatpbai
import Derived.Test.YtgokdgcmkcmjeaaGreatpbar
import Derived.Test.YtgokdgcmkcmjeaaGreatpbaw
import Derived.Test.YtgokdgcmkcmjeaaGreatpbbj
import Derived.Test.YtgokdgcmkcmjeaaGreatpbbk
import Derived.Test.YtgokdgcmkcmjeaaGreatpbbm
import Derived.Test.YtgokdgcmkcmjeaaGreatpbbp
set_option maxRecDepth 100000
set_option maxHeartbeats 16000000
namespace Go.Proofs.YtgokdgcmkcmjeaaGreat
open Go.RowKit
def nilF:Nat→Nat:=fun _=>0
end Go.Proofs.YtgokdgcmkcmjeaaGreat
namespace Go.Proofs.YtgokdgcmkcmjeaaGreat
open Go.RowKit Go.ChangeShapes Go.WideShapes Go.ChangeAt Go.Joins
theorem by_nilF(w:World)(B:Nat):ByR w B none 0 0 nilF:=ByR.nil _ _ _ (fun _=>by show 0<256;omega)
end Go.Proofs.YtgokdgcmkcmjeaaGreat
namespace Go.Proofs.YtgokdgcmkcmjeaaGreat
open Go.RowKit Go.ChangeShapes Go.WideShapes Go.ChangeAt Go.Joins
section
variable {H:Type} {enc:TypeId×Value→H} {P:Program} {w:World} {base:Nat} {spare:Nat→Bool} {held:Bool}
end
theorem byr_list{w:World}{B n c:Nat}{A:Option Addr}{f:Nat→Nat}(h:ByR w B A n c f):∃L:List Nat,L.length=n∧ByR w B A L.length c (lst L):=by
 have hl:BytesP (preL f n):=fun x hx=>by
  unfold preL at hx
  obtain⟨i,_,rfl⟩:=List.mem_map.1 hx
  exact h.1.1 i
 refine⟨preL f n,preL_length _ _,?_⟩
 rw[preL_length]
 refine h.same (lst_lt hl) fun j hj=>?_
 show f j=(preL f n).getD j 0
 rw[preL_get f hj]
end Go.Proofs.YtgokdgcmkcmjeaaGreat
namespace Go.Proofs.YtgokdgcmkcmjeaaGreat
open Go.RowKit Go.ChangeShapes Go.WideShapes Go.ChangeAt Go.Joins
theorem blkP_few{a k n:Nat}{r:Nat→Nat}{l:List Tok}{last:Bool}(hk:k≤2)(hn:n≤200)(hr:∀j,r j<256)(hl:l.length≤100)(hok:∀t∈l,mayT t=true∧t.x<256):bitsT (blkP a k n r l last)≤800000:=by
 have h1:=bitsT_le _ (blkP_ok (a:=a) (n:=n) (last:=last) hk (by omega) hr (by omega) hok)
 have h2:(blkP a k n r l last).length≤50000:=by
  unfold blkP
  rw[List.length_append]
  have h2:∀b:Nat,[(b,1),(k,2)].length=2:=fun _=>rfl
  rw[h2]
  split
  ·have:=toksP_len fixA 288 fixB 32 l;omega
  ·split
   ·have h3:=toksP_len (lnA l) (nA l) (lnB l) (nB l) l
    have h4:=dynP_len l (by omega)
    rw[List.length_append];omega
   ·unfold stoP padN
    simp only[List.length_append,List.length_replicate,List.length_cons,List.length_nil,List.length_map,List.length_range]
    omega
 omega
theorem head_reads{g:Nat→Nat}{L a:Nat}(ha:a≤8*L)(h:(begR g L a).2.2=0){k:Blk13}(hk:(begR g L a).1=k)(i:Nat):
  MayI k.kind ((leftK k i).left:Int) (tcO k.kind k.F k.n) (syO k.kind k.F k.n) (tcO k.kind k.G k.m) (syO k.kind k.G k.m)∧
  ReadsB (leftK k i) k.kind k.last ((leftK k i).left:Int) (tcO k.kind k.F k.n) (syO k.kind k.F k.n) (tcO k.kind k.G k.m) (syO k.kind k.G k.m)∧(syO k.kind k.F k.n).length≤1000000∧(syO k.kind k.G k.m).length≤1000000:=by
 obtain⟨e1,e2,e3,e4,e5,e6,e7,e8⟩:=(head_is (g:=g) (L:=L) ha).1 h
 obtain⟨s1,s2⟩:=beg_small ha h
 rw[hk]at e5 e6 e8 s1 s2
 have hle:(leftK k i).left≤65535:=by show k.left-i≤65535;omega
 by_cases k0:k.kind=0
 ·have t1:∀F n,tcO k.kind F n=fun _=>0:=fun F n=>by unfold tcO;rw[if_pos k0]
  have t2:∀F n,syO k.kind F n=[]:=fun F n=>by unfold syO;rw[if_pos k0]
  rw[t1,t1,t2,t2]
  refine⟨.inl ⟨k0,by omega,by omega,by decide+kernel,by decide+kernel⟩,⟨rfl,rfl,rfl,hle,s1,s2,fun h=>absurd k0 h⟩,by decide,by decide⟩
 ·obtain⟨c0,_,_,_,_,c5,c6⟩:=e8 k0
  have q1:tcO k.kind k.F k.n=grC k.F k.n 15:=by unfold tcO;rw[if_neg k0];funext m;unfold grC;rw[if_pos c5]
  have q2:tcO k.kind k.G k.m=grC k.G k.m 15:=by unfold tcO;rw[if_neg k0];funext m;unfold grC;rw[if_pos c6]
  have q3:syO k.kind k.F k.n=grS k.F k.n 15:=by unfold syO grS;rw[if_neg k0,if_pos c5]
  have q4:syO k.kind k.G k.m=grS k.G k.m 15:=by unfold syO grS;rw[if_neg k0,if_pos c6]
  have g1:=grown_tree c5
  have g2:=grown_tree c6
  have l0:(leftK k i).left=0:=by show k.left-i=0;omega
  rw[q1,q2,q3,q4,l0]
  refine⟨.inr ⟨by omega,rfl,⟨_,g1⟩,⟨_,g2⟩⟩,⟨rfl,rfl,by rw[l0],by rw[l0];omega,s1,s2,fun _=>⟨g1,g2⟩⟩,by have:=(isTree_length g1).2;omega,by have:=(isTree_length g2).2;omega⟩
theorem blkI_left(kd:Nat)(last:Bool)(x y:Int)(c1 c2:Nat→Int)(v1 v2:Value):(blkI kd last x c1 c2 v1 v2).setIfInBounds 2 (.int .i64 y)=blkI kd last y c1 c2 v1 v2:=by kernel_rfl
theorem clean0:Clean (zext 0 nilF) 0:=⟨fun j=>by simp[zext],fun j _=>by simp[zext],by simp[zext]⟩
theorem blocks_nums{kd:Nat}{raw:List Nat}{l:List Tok}{last:Bool}(hb:∀j,lst raw j<256)(hr:raw.length≤200)(hl:l.length≤100)(hin:∀t∈l,TokIn t)(hE:wrtE nilF 0 0 kd raw.length (lst raw) l last=0):
  ∃(K:Nat) (F:Nat→Nat) (k:Blk13) (pl:Nat→Nat),wrtK nilF 0 0 kd raw.length (lst raw) l last=K∧wrtF nilF 0 0 kd raw.length (lst raw) l last=F∧(K+7)/8≤131072∧begR F ((K+7)/8) 0=(k,pl 0,0)∧k.kind=kd∧k.last=last∧
   (∀i,i<(wantT kd raw l).length→nextR (leftK k i) F ((K+7)/8) (pl i)=((wantT kd raw l).getD i tokZ,false,pl (i+1),0))∧
   nextR (leftK k (wantT kd raw l).length) F ((K+7)/8) (pl (wantT kd raw l).length)=(tokZ,true,K,0)∧(wantT kd raw l).length≤200:=by
 have hp:penB nilF 0 0=true:=by decide
 have hE2:=hE
 unfold wrtE at hE2
 rw[if_neg (by rw[hp];decide)]at hE2
 have hask:askW kd raw.length l=0:=by
  rcases Int.decEq (askW kd raw.length l) 0 with h|h
  ·rw[if_pos h]at hE2;exact absurd hE2 h
  ·exact h
 obtain⟨h1,h2,h3,h4⟩:=askW_ok hask
 have hok:∀t∈l,mayT t=true∧t.x<256:=fun t ht=>⟨h4 t ht,(hin t ht).1⟩
 have hfit:=blk_fits (a:=0) (last:=last) h1 h2 hb h3 hok
 have hS:Stn (putsF (zext 0 nilF) 0 (blkP 0 kd raw.length (lst raw) l last)) 0 (blkP 0 kd raw.length (lst raw) l last):=stn_puts _ clean0 hfit
 have hfew:=blkP_few (a:=0) (last:=last) h1 hr hb hl hok
 have hK:wrtK nilF 0 0 kd raw.length (lst raw) l last=bitsT (blkP 0 kd raw.length (lst raw) l last):=by
  unfold wrtK;rw[if_pos hE];exact Nat.zero_add _
 have hF:wrtF nilF 0 0 kd raw.length (lst raw) l last=putsF (zext 0 nilF) 0 (blkP 0 kd raw.length (lst raw) l last):=by
  unfold wrtF;rw[if_pos hE];rfl
 obtain⟨P,hP⟩:∃P,P=blkP 0 kd raw.length (lst raw) l last:=⟨_,rfl⟩
 have hb2:=blk_steps (g:=putsF (zext 0 nilF) 0 (blkP 0 kd raw.length (lst raw) l last)) (L:=(bitsT (blkP 0 kd raw.length (lst raw) l last)+7)/8) (K:=0) last h1 h2 h3 hok hS (by show 0+bitsT (blkP 0 kd raw.length (lst raw) l last)≤_;omega)
 obtain⟨k,pl,q1,q2,q3,q4,q5⟩:=hb2
 refine⟨_,_,k,pl,hK,hF,by omega,q1,q2,q3,q4,?_,?_⟩
 ·rw[Nat.zero_add]at q5;exact q5
 ·unfold wantT;split
  ·rw[List.length_map];exact hr
  ·omega
end Go.Proofs.YtgokdgcmkcmjeaaGreat
namespace Go.Proofs.YtgokdgcmkcmjeaaGreat
open Go.RowKit Go.ChangeShapes Go.WideShapes Go.ChangeAt Go.Joins
theorem decTb{p:Prop}[Decidable p](h:p):decide p=true:=by simp[h]
theorem decFb{p:Prop}[Decidable p](h:¬p):decide p=false:=by simp[h]
theorem stpQ_ok{g:Nat→Nat}{L:Nat}{k:Blk13}{a:Nat}(hL:L≤131072)(ha:a≤8*L):stpQ g L (a:Int) true k=nextR k g L a:=by
 unfold stpQ
 have a1:asked13 L (a:Int)=0:=by unfold asked13;rw[if_neg (by omega),if_neg (by omega)]
 rw[a1,if_neg (fun h=>h rfl),if_neg (by decide),Int.toNat_natCast]
theorem same_as{w:World}{B n n2:Nat}{A A2:Option Addr}{c c2:Nat}{l:List Tok}(hn:n=l.length)(hn2:n2=l.length)(hr:RdT w B A l)(hr2:RdT w B A2 l)(hl:l.length≤1000000):
  Calls Tryz.prog 23 #[.slice A n c,.slice A2 n2 c2] w fun e w'=>e=.returned (.bool true)∧∃q,w'=w.drewN q:=by
 subst hn;subst hn2;exact rsame8_any w B A A2 c c2 l hr hr2 hl
theorem blocks13_main(kd:Nat)(A1:Option Addr)(rc N:Nat)(raw:List Nat)(A2:Option Addr)(m c2:Nat)(l:List Tok)(last:Bool)(w:World)(hkd:kd<256)(hN:N=raw.length)(hn1:¬200<N)(hn2:¬100<m)(hr:ByR w w.heap.size A1 N rc (lst raw))(ht:TkR w w.heap.size A2 m c2 l)
  (K L:Nat) (F:Nat→Nat) (k:Blk13) (pl:Nat→Nat) (T:List Tok) (hwr:∀u,Below w.heap.size w u→Calls Tryz.prog 22 #[.agg #[.slice none 0 0,.int .i64 0],.int .u8 (kd:Int),.slice A1 N rc,.slice A2 m c2,.bool last] u fun e w'=>WrtN u w' e K 0 F)
  (hLd:L=(K+7)/8) (hL:L≤131072) (hhd:headR F L 0=(k,pl 0,0)) (_hk1:k.kind=kd) (_hk2:k.last=last) (hst:∀i,i<T.length→nextR (leftK k i) F L (pl i)=(T.getD i tokZ,false,pl (i+1),0)) (hend:nextR (leftK k T.length) F L (pl T.length)=(tokZ,true,K,0)) (hwn:T.length≤200) (hple:∀i,i≤T.length→pl i≤8*L) (hT:T=wantT kd raw l)
  (c1 d1:Nat→Int) (s1 s2:List Int) (hof:∀(base:Nat) (v:Value) (w':World),OfD base k v w'→∃v1 v2,v=.agg (blkI kd last ((leftK k 0).left:Int) c1 d1 v1 v2)∧OwnS w' base v1 s1∧OwnS w' base v2 s2)
  (hreads:∀i,MayI kd ((leftK k i).left:Int) c1 s1 d1 s2∧ReadsB (leftK k i) kd last ((leftK k i).left:Int) c1 s1 d1 s2∧s1.length≤1000000∧s2.length≤1000000):
  Calls Tryz.prog 6 #[.int .u8 (kd:Int),.slice A1 N rc,.slice A2 m c2,.bool last] w fun e w'=>e=.returned (.bool true)∧Below w.heap.size w w':=by
 have dd1:decide (200<(N:Int))=false:=decFb (by omega)
 have dd2:decide (100<(m:Int))=false:=decFb (by omega)
 obtain⟨n,hn⟩:∃n,n=T.length:=⟨_,rfl⟩
 obtain⟨Zb,hZb⟩:∃Z,Z=blkT 0 false 0 (fun _=>0) (fun _=>0) (.slice none 0 0) (.slice none 0 0):=⟨_,rfl⟩
 have hzb:∀u:World,(zeroValue 28).run Tryz.prog u=.ok (.agg Zb) u:=by rw[hZb];exact(zero_of_info infoBlkT).1
 have HZBS:Hid (Zb.size=37):=Lib.hid (by rw[hZb];exact blkT_size ..)
 obtain⟨sz1,sz2⟩:=(hreads 0).2.2
 have HRD:=Lib.hid hreads;have HR:=Lib.hid hr;have HT:=Lib.hid ht;have HWR:=Lib.hid hwr;have HLD:=Lib.hid hLd;have HL:=Lib.hid hL;have HHD:=Lib.hid hhd;have HST:=Lib.hid hst;have HEND:=Lib.hid hend;have HPL:=Lib.hid hple;have HTE:=Lib.hid hT;have HOF:=Lib.hid hof;have HNN:=Lib.hid hN;have HTN:=Lib.hid hn;have HWN:=Lib.hid hwn;have HN1:=Lib.hid hn1;have HN2:=Lib.hid hn2
 have HSZ:=Lib.hid sz1;have HSZ':=Lib.hid sz2;have HKD:=Lib.hid hkd
 clear hreads hr ht hwr hLd hL hhd hst hend hple hT hof hN hn hwn hZb hn1 hn2 sz1 sz2 _hk1 _hk2 hkd
 go_enter Tryz.func6,Tryz.ntmps6
 go_wp2_with fail
 refine(alive13_any w).mono ?_
 rintro e w1 ⟨rfl,hb⟩
 have HB1:=Lib.hid hb
 clear hb
 go_wp2_with (first
  |(refine wpList_buildTo rfl 62 #[] rfl (some 38) rfl #[.slice none 0 0,.int .i64 0] ?_ ?_;focus(simpa[Act.eval]using built_pen0))
  |fail)
 refine(HWR.out w1 HB1.out).mono ?_
 rintro e w2 ⟨A',c',L',hL',rfl,hy2,hb2,-⟩
 obtain rfl:L'=L:=hL'.trans HLD.out.symm
 obtain⟨bp,hbp⟩:∃h,h=w2.heap.size:=⟨_,rfl⟩
 obtain⟨W3,hW3⟩:∃W,W=w2.alloc (.cells #[.slice A' L' c',.int .i64 (K:Int)] 62):=⟨_,rfl⟩
 have hB2:=HB1.out.trans (hb2.mono HB1.out.size)
 have hb3:Below w2.heap.size w2 W3:=by rw[hW3];exact(Below.refl _ _).alloc (Nat.le_refl _) _
 have hp3:BoxC W3 bp #[.slice A' L' c',.int .i64 (K:Int)] 62:=by rw[hW3,hbp];exact BoxC.new w2 _ _
 have hs3:W3.heap.size=bp+1:=by rw[hW3,hbp];simp
 have hy3:=(hy2.below hb3 (Nat.le_refl _)).more (show w2.heap.size≤bp by omega)
 have p0:W3.cell? ⟨bp,0,none⟩=some (.slice A' L' c'):=hp3.cell.trans rfl
 have hhp:=phead13_any W3 A' L' c' F (hy3.1.more (by omega)) 0 (by decide) (by decide) (by have:=HL.out;omega)
 rw[HHD.out]at hhp
 have HHP:=Lib.hid hhp;have HY3:=Lib.hid hy3;have HP3:=Lib.hid hp3;have HS3:=Lib.hid hs3;have HB3:=Lib.hid (hB2.trans (hb3.mono hB2.size));have HW3:=Lib.hid hW3;have HBP:=Lib.hid hbp;have HPW:Hid (w.heap.size≤bp):=Lib.hid (by have:=hB2.size;omega)
 clear hL' hy2 hb2 hbp hW3 hb3 hp3 hs3 hy3 hhp hB2
 go_wp2_with (first|(rw[←HW3.out,←HBP.out])|fail)
 refine HHP.out.mono ?_
 rintro e w4 ⟨⟨v,rfl,hof,-⟩,hb4⟩
 obtain⟨v1,v2,rfl,o1,o2⟩:=HOF.out _ _ _ hof
 dsimp only
 obtain⟨p00,hp00⟩:∃q,q=pl 0:=⟨_,rfl⟩
 rw[←hp00]
 obtain⟨X,hX⟩:∃X,X=blkI kd last ((leftK k 0).left:Int) c1 d1 v1 v2:=⟨_,rfl⟩
 have hchk:=fun(u:World) (r1:RdS u u.heap.size v1 s1) (r2:RdS u u.heap.size v2 s2)=>pcheck13_any u kd last ((leftK k 0).left:Int) c1 d1 v1 v2 s1 s2 r1 r2 HSZ.out HSZ'.out true ⟨fun _=>(HRD.out 0).1,fun _=>rfl⟩
 rw[←hX]
 rw[←hX]at hchk
 have HXS:Hid (X.size=37):=Lib.hid (by rw[hX];exact blkI_size ..)
 have HXO:Hid (X.all (·.oneCell')=true):=Lib.hid (by rw[hX];exact blkT_one _ _ _ _ _ _ _ o1.rd.one o2.rd.one)
 obtain⟨bb,hbb⟩:∃h,h=w4.heap.size:=⟨_,rfl⟩
 obtain⟨W5,hW5⟩:∃W,W=mkV w4 Zb X 28:=⟨_,rfl⟩
 have hb5:Below w4.heap.size w4 W5:=by rw[hW5];exact mkV_below _ _ _ _
 have x5:BoxC W5 bb X 28:=by rw[hW5,hbb];exact mkV_row w4 Zb X 28
 have s5:W5.heap.size=bb+1:=by rw[hW5,mkV_size,hbb]
 have hpb:bp+1≤bb:=by have:=hb4.size;have:=HS3.out;omega
 have p5:BoxC W5 bp #[.slice A' L' c',.int .i64 (K:Int)] 62:=(HP3.out.below hb4 (by have:=HS3.out;omega)).below hb5 (by omega)
 have hf5:ByR W5 bp A' L' c' F:=(HY3.out.below hb4 (by have:=HS3.out;omega)).below hb5 (by omega)
 have r1:RdS W5 bb v1 s1:=by rw[hbb];exact o1.rd.below hb5 (Nat.le_refl _)
 have r2:RdS W5 bb v2 s2:=by rw[hbb];exact o2.rd.below hb5 (Nat.le_refl _)
 have HCH:=Lib.hid (hchk W5 (r1.more (by omega)) (r2.more (by omega)))
 have a0:W5.cell? ⟨bb,0,none⟩=some (.int .u8 (kd:Int)):=x5.cell.trans (by rw[hX];rfl)
 have a1:W5.cell? ⟨bb,1,none⟩=some (.bool last):=x5.cell.trans (by rw[hX];rfl)
 have e0:((0:Int) !=0)=false:=rfl
 have e1:((kd:Int) !=(kd:Int))=false:=by simp
 have e2:(last !=last)=false:=by simp
 have HB5:=Lib.hid ((HB3.out.trans (hb4.mono HB3.out.size)).trans (hb5.mono (Nat.le_trans HB3.out.size hb4.size)))
 have HX5:=Lib.hid x5;have HS5:=Lib.hid s5;have HPB:=Lib.hid hpb;have HP5:=Lib.hid p5;have HF5:=Lib.hid hf5;have HV1:=Lib.hid r1;have HV2:=Lib.hid r2;have HW5:=Lib.hid hW5;have HBBE:=Lib.hid hbb;have HX:=Lib.hid hX;have HP00:=Lib.hid hp00
 clear hof hb4 o1 o2 hchk hbb hW5 hb5 x5 s5 hpb p5 hf5 r1 r2 p0 hX hp00 HHP
 go_wp2_with (first
  |(refine wpList_store_rowTo rfl _ _ _ rfl rfl w4.heap.size X rfl rfl 28 Zb (heap_alloc_new w4 _) (szBlkT X HXS.out) (by rw[HZBS.out,HXS.out]) HXO.out ?_;change wpList _ _ _ _ _ (mkV w4 Zb X 28);rw[←HW5.out,←HBBE.out])
  |(refine wpList_load_row_on (by rfl) _ _ rfl bb rfl _ X (0,0) _ HX5.out Tryz.underlying28 rfl (szBlkT X HXS.out) ?_)
  |fail)
 refine HCH.out.mono ?_
 rintro e w6 ⟨rfl,hb6⟩
 rw[show chkI true=0 from rfl]
 have HF6:=Lib.hid (HF5.out.below hb6 (by have:=HS5.out;have:=HPB.out;omega))
 have HP6:=Lib.hid (HP5.out.below hb6 (by have:=HS5.out;have:=HPB.out;omega))
 have HX6:=Lib.hid (HX.out▸HX5.out.below hb6 (by have:=HS5.out;omega))
 have HR1:=Lib.hid (riF_of (p:=bb) (HV1.out.below hb6 (by have:=HS5.out;omega)) (by have:=HS5.out;have:=hb6.size;omega))
 have HR2:=Lib.hid (riF_of (p:=bb) (HV2.out.below hb6 (by have:=HS5.out;omega)) (by have:=HS5.out;have:=hb6.size;omega))
 have HS6:Hid (bb+1≤w6.heap.size):=Lib.hid (by have:=HS5.out;have:=hb6.size;omega)
 have HB6:=Lib.hid (HB5.out.trans (hb6.mono HB5.out.size))
 have HRF:Hid (RdF (At bb) w6 A' L' F):=Lib.hid ⟨HF6.out.1.more (by have:=HS6.out;have:=HPB.out;omega),fun b o h0 e hb=>by
  obtain⟨b',o',e',hbb,_⟩:=HF6.out.1.2 h0
  rw[e]at e';cases e'
  have:b=bb:=hb
  have:=HPB.out;omega⟩
 clear hb6 HCH HX5 HP5 HF5 HV1 HV2 a0 a1 e1 e2 HX HY3 HP3
 go_wp2
 go_loopw [13,15,16] (fun av gv iv wr=>∃(i:Nat) (Ag:Option Addr) (cg q:Nat),i≤n∧av=.int .i64 (q:Int)∧gv=.slice Ag i cg∧iv=.int .i64 (i:Int)∧Hid (q=pl i)∧Hid (BoxC wr bb (blkI kd last ((leftK k i).left:Int) c1 d1 v1 v2) 28)∧Hid (Fr (At bb) w6 wr)∧Hid (wr.ownsRow w6.heap.size 36 3 (.slice Ag i cg) i (toksL (T.take i)))) (fun _ _ iv _=>n+1-(intOf iv).toNat)
 case atStart=>exact⟨0,none,0,p00,Nat.zero_le _,rfl,rfl,rfl,HP00,HX6,Lib.hid (Fr.refl _ _),Lib.hid (World.ownsRow_nil _ _ _ _)⟩
 case round=>
  obtain⟨i,Ag,cg,q,hi,rfl,rfl,rfl,HQ,HXR,HFR,HOR⟩:=hrel
  have hib:i≤200:=by have:=HWN.out;have:=HTN.out;omega
  have hi201:decide ((i:Int)≤201)=true:=decTb (by have:=HWN.out;have:=HTN.out;omega)
  have hi201':decide (i≤201)=true:=decTb (by have:=HWN.out;have:=HTN.out;omega)
  have hq8:q≤8*L':=by rw[HQ.out];exact HPL.out i (by have:=HTN.out;omega)
  have hrb:=HRF.out.fr HFR.out
  have hz1:=HR1.out.fr HFR.out
  have hz2:=HR2.out.fr HFR.out
  have hstp:=pstep13_any wr A' L' c' F hrb.1 (q:Int) (by omega) (by have:=HL.out;omega) (by have:=HL.out;omega) kd HKD.out last ((leftK k i).left:Int) c1 d1 v1 v2 s1 s2 hz1.1 hz2.1 HSZ.out HSZ'.out true ⟨fun _=>(HRD.out i).1,fun _=>rfl⟩ (leftK k i) (fun _=>(HRD.out i).2.1)
  rw[stpQ_ok HL.out hq8]at hstp
  have pc:=HP6.out.fr HFR.out (by show¬bp=bb;have:=HPB.out;omega)
  have p0:wr.cell? ⟨bp,0,none⟩=some (.slice A' L' c'):=pc.cell.trans rfl
  obtain⟨x,hx⟩:∃x,x=(leftK k i).left:=⟨_,rfl⟩
  obtain⟨XI,hXI⟩:∃X,X=blkI kd last (x:Int) c1 d1 v1 v2:=⟨_,rfl⟩
  rw[←hx,←hXI]at hstp
  have HXI:Hid (BoxC wr bb XI 28):=Lib.hid (by rw[hXI,hx];exact HXR.out)
  have HXIS:Hid (XI.size=37):=Lib.hid (by rw[hXI];exact blkI_size ..)
  have HXIE:=Lib.hid hXI;have HX:=Lib.hid hx;have HPC:=Lib.hid pc
  have hsr:=HFR.out.size
  have HSR:=Lib.hid hsr
  clear hrb hz1 hz2 hXI hx pc hq8 HXR hsr
  by_cases hlt:i<n
  ·rw[HQ.out,HST.out i (by have:=HTN.out;omega)]at hstp
   rw[←HQ.out]at hstp
   obtain⟨⟨tx,td,tn⟩,htk⟩:∃t,t=T.getD i tokZ:=⟨_,rfl⟩
   rw[←htk]at hstp
   obtain⟨q2,hq2⟩:∃q2,q2=pl (i+1):=⟨_,rfl⟩
   rw[←hq2]at hstp
   unfold nxtV at hstp
   dsimp only at hstp
   have HSTP:=Lib.hid hstp;have HTK:=Lib.hid htk;have HQ2:=Lib.hid hq2
   clear hstp htk hq2
   go_wp2_with (first
    |(refine wpList_load_row rfl _ _ rfl bb rfl _ XI (0,0) _ HXI.out Tryz.underlying28 rfl (szBlkT XI HXIS.out) ?_)
    |fail)
   refine HSTP.out.mono ?_
   rintro e w7 ⟨rfl,hb7⟩
   obtain⟨bt,hbt⟩:∃b,b=w7.heap.size:=⟨_,rfl⟩
   obtain⟨W8,hW8⟩:∃W,W=w7.alloc (.cells #[.int .u8 (tx:Int),.int .i64 td,.int .i64 tn] 36):=⟨_,rfl⟩
   have hb8:Below wr.heap.size wr W8:=by rw[hW8];exact hb7.alloc hb7.size _
   have t8:BoxC W8 bt #[.int .u8 (tx:Int),.int .i64 td,.int .i64 tn] 36:=by rw[hW8,hbt];exact BoxC.new w7 _ _
   have hs8:w6.heap.size≤W8.heap.size:=Nat.le_trans HSR.out hb8.size
   obtain⟨A9,c9,w9,hrun,hown,hb9⟩:=run_oneT W8 w6.heap.size Ag i cg (T.take i) (own_fr HOR.out (Fr.of (S:=fun _=>False) hb8) (fun j h=>h.elim)) ⟨tx,td,tn⟩ (by have:=HWN.out;have:=HTN.out;omega) hs8
   have f9:Fr (At bb) w6 w9:=(HFR.out.on hb8).from (T:=fun j=>w6.heap.size≤j) ⟨hb9.os,hb9.tape,hb9.output,hb9.size,fun j _ hj=>hb9.block j (Nat.lt_of_not_le hj)⟩ (fun j h=>.inr h)
   have hbb6:bb<w6.heap.size:=by have:=HS6.out;omega
   have x9:BoxC w9 bb XI 28:=(HXI.out.below hb8 HXI.out.lt).below hb9 hbb6
   obtain⟨y,hy⟩:∃y,y=(leftK k (i+1)).left:=⟨_,rfl⟩
   have hxy:y=x-1:=by rw[hy,HX.out];show k.left-(i+1)=k.left-i-1;omega
   have yb:y≤65535:=by rw[hy];exact(HRD.out (i+1)).2.1.2.2.2.1
   have a2:w9.cell? ⟨bb,2,none⟩=some (.int .i64 (x:Int)):=x9.cell.trans (by rw[HXIE.out];rfl)
   have fz:w9.frozen? ⟨bb,2,none⟩=false:=x9.free
   obtain⟨W10,hW10⟩:∃W,W=w9.setCell ⟨bb,2,none⟩ (.int .i64 (y:Int)):=⟨_,rfl⟩
   have x10:BoxC W10 bb (blkI kd last ((leftK k (i+1)).left:Int) c1 d1 v1 v2) 28:=by
    have h:=x9.set 2 (.int .i64 (y:Int))
    rw[HXIE.out,blkI_left,hy]at h
    rw[hW10,hy];exact h
   have f10:Fr (At bb) w6 W10:=by rw[hW10];exact f9.trans (Fr.cell w9 bb 2 _)
   have o10:W10.ownsRow w6.heap.size 36 3 (.slice A9 (i+1) c9) (i+1) (toksL (T.take (i+1))):=by
    have e:T.take (i+1)=T.take i++[⟨tx,td,tn⟩]:=by
     have hil:i<T.length:=by have:=HTN.out;omega
     rw[HTK.out,List.take_succ_eq_append_getElem hil,List.getD_eq_getElem?_getD,List.getElem?_eq_getElem hil];rfl
    rw[e,hW10]
    exact own_fr hown (Fr.cell w9 bb 2 _) (fun j (h:j=bb)=>by omega)
   have HRUN:=Lib.hid hrun;have HX10:=Lib.hid x10;have HF10:=Lib.hid f10;have HO10:=Lib.hid o10;have HT8:=Lib.hid t8;have HW8:=Lib.hid hW8;have HBT:=Lib.hid hbt;have HW10:=Lib.hid hW10
   clear hrun hown hb9 f9 x9 hy x10 f10 o10 hb8 t8 hW8 hbt hb7 hs8 hW10 hi p0
   by_cases hx0:x=0
   ·subst hx0
    obtain rfl:y=0:=by omega
    rw[show(((0:Nat):Int))=0 from rfl]at HW10
    clear hxy
    go_wp2_with (first
     |(rw[←HW8.out,←HBT.out])
     |(refine wpList_load_row rfl _ _ rfl bt rfl _ #[.int .u8 (tx:Int),.int .i64 td,.int .i64 tn] (0,0) _ HT8.out Tryz.underlying36 rfl szTok ?_)
     |(at_builtin;refine wpList_append_run rfl (.tmp 93) (.tmp 95) 60 rfl (.slice Ag i cg) (.slice (some ⟨W8.heap.size,0,none⟩) 1 1) (.slice A9 (i+1) c9) w9 rfl rfl HRUN.out ?_)
     |fail)
    go_roundw
    case rel=>exact⟨i+1,A9,c9,q2,by omega,rfl,rfl,by go_num,HQ2,Lib.hid (by rw[←HW10.out];exact HX10.out),Lib.hid (by rw[←HW10.out];exact HF10.out),Lib.hid (by rw[←HW10.out];exact HO10.out)⟩
    case measure=>simp[intOf];omega
   ·have ex:(x:Int)-1=(y:Int):=by omega
    have mx1:(if 0<y then(y:Int)else 0)=(y:Int):=by split<;>omega
    have mx2:(if(y:Int)<0 then(0:Int)else(y:Int))=(y:Int):=by split<;>omega
    clear hxy hx0
    go_wp2_with (first
     |(rw[←HW8.out,←HBT.out])
     |(refine wpList_load_row rfl _ _ rfl bt rfl _ #[.int .u8 (tx:Int),.int .i64 td,.int .i64 tn] (0,0) _ HT8.out Tryz.underlying36 rfl szTok ?_)
     |(at_builtin;refine wpList_append_run rfl (.tmp 93) (.tmp 95) 60 rfl (.slice Ag i cg) (.slice (some ⟨W8.heap.size,0,none⟩) 1 1) (.slice A9 (i+1) c9) w9 rfl rfl HRUN.out ?_)
     |fail)
    go_roundw
    case rel=>exact⟨i+1,A9,c9,q2,by omega,rfl,rfl,by go_num,HQ2,Lib.hid (by rw[←HW10.out];exact HX10.out),Lib.hid (by rw[←HW10.out];exact HF10.out),Lib.hid (by rw[←HW10.out];exact HO10.out)⟩
    case measure=>simp[intOf];omega
  ·obtain rfl:i=n:=by omega
   rw[HQ.out]at hstp
   have hen:=HEND.out
   rw[←HTN.out]at hen
   rw[hen,←HQ.out]at hstp
   unfold nxtV at hstp
   dsimp only at hstp
   have HSTP:=Lib.hid hstp
   clear hstp hen hlt hi
   go_wp2_with (first
    |(refine wpList_load_row rfl _ _ rfl bb rfl _ XI (0,0) _ HXI.out Tryz.underlying28 rfl (szBlkT XI HXIS.out) ?_)
    |fail)
   refine HSTP.out.mono ?_
   rintro e w7 ⟨rfl,hb7⟩
   obtain⟨W8,hW8⟩:∃W,W=w7.alloc (.cells #[.int .u8 ((tokZ.x:Nat):Int),.int .i64 tokZ.d,.int .i64 tokZ.n] 36):=⟨_,rfl⟩
   have hb8:Below wr.heap.size wr W8:=by rw[hW8];exact hb7.alloc hb7.size _
   have f8:Fr (At bb) w6 W8:=HFR.out.on hb8
   have B8:Below w.heap.size w W8:=HB6.out.trans (f8.below (B:=w.heap.size) (fun j (h:j=bb)=>by have:=HPB.out;have:=HPW.out;omega) HB6.out.size)
   have p8:=HPC.out.below hb8 HPC.out.lt
   have k1:W8.cell? ⟨bp,1,none⟩=some (.int .i64 (K:Int)):=p8.cell.trans rfl
   have og:RdT W8 W8.heap.size Ag T:=by
    have h:=own_fr HOR.out (Fr.of (S:=fun _=>False) hb8) (fun j h=>h.elim)
    rw[List.take_of_length_le (by rw[←HTN.out];exact Nat.le_refl _)]at h
    exact(TkR.of_own h).2.1
   have HW8:=Lib.hid hW8;have HB8:=Lib.hid B8;have HOG:=Lib.hid og;have HP8:=Lib.hid p8
   have zk:((K:Int)==(K:Int))=true:=by simp
   clear hb7 hb8 f8 B8 p8 og hW8 HXI HOR HFR HSTP p0
   by_cases k0:kd=0
   ·have d0:((kd:Int)==0)=true:=by rw[k0];rfl
    have hTm:T=raw.map fun x=>⟨x,0,0⟩:=by rw[HTE.out];exact if_pos k0
    have HTM:=Lib.hid hTm
    clear hTm k0
    go_wp2_with (first|(rw[←HW8.out])|fail)
    go_loopw [21,22] (fun tv jv wr=>∃(j:Nat) (At:Option Addr) (ct:Nat),j≤N∧tv=.slice At j ct∧jv=.int .i64 (j:Int)∧Hid (Below W8.heap.size W8 wr)∧Hid (wr.ownsRow W8.heap.size 36 3 (.slice At j ct) j (toksL ((raw.take j).map fun x=>⟨x,0,0⟩)))) (fun _ jv _=>N-(intOf jv).toNat)
    case atStart=>exact⟨0,none,0,Nat.zero_le _,rfl,rfl,Lib.hid (Below.refl _ _),Lib.hid (World.ownsRow_nil _ _ _ _)⟩
    case round=>
     obtain⟨j,At,ct,hj,rfl,rfl,HBR,HON⟩:=hrel
     have hjb:j≤200:=by have:=HN1.out;omega
     by_cases hjl:j<N
     ·have dj:decide ((j:Int)<(N:Int))=true:=decTb (by omega)
      have dj':decide (j<N)=true:=decTb hjl
      obtain⟨b,o,rfl,_,hc⟩:=((HR.out.below HB8.out (Nat.le_refl _)).more HB8.out.size|>.below HBR.out (Nat.le_refl _)).1.2 (by omega)
      have x9:=hc j hjl
      obtain⟨u,hu⟩:∃u,u=lst raw j:=⟨_,rfl⟩
      rw[←hu]at x9
      obtain⟨A9,c9,w9,hrun,hown,hb9⟩:=run_oneT wr W8.heap.size At j ct _ HON.out ⟨u,0,0⟩ (by omega) HBR.out.size
      have e:((raw.take (j+1)).map fun x=>(⟨x,0,0⟩:Tok))=(raw.take j).map (fun x=>⟨x,0,0⟩)++[⟨u,0,0⟩]:=by
       have hil:j<raw.length:=by have:=HNN.out;omega
       rw[List.take_succ_eq_append_getElem hil,List.map_append,hu]
       unfold lst
       rw[List.getD_eq_getElem?_getD,List.getElem?_eq_getElem hil];rfl
      rw[←e]at hown
      have HRUN:=Lib.hid hrun;have HO9:=Lib.hid hown;have HB9:=Lib.hid (HBR.out.trans hb9)
      clear hrun hown hb9 e hu hc
      go_wp2_with (first
       |(refine wpList_buildTo rfl 36 #[(0,.tmp 115)] rfl (some 116) rfl #[.int .u8 (u:Int),.int .i64 0,.int .i64 0] ?_ ?_;focus(simpa[Act.eval]using built_tok1p u))
       |(at_builtin;refine wpList_append_run rfl (.tmp 111) (.tmp 117) 60 rfl (.slice At j ct) (.slice (some ⟨wr.heap.size,0,none⟩) 1 1) (.slice A9 (j+1) c9) w9 rfl rfl HRUN.out ?_)
       |fail)
      go_roundw
      case rel=>exact⟨j+1,A9,c9,by omega,rfl,by go_num,HB9,HO9⟩
      case measure=>simp[intOf];omega
     ·obtain rfl:j=N:=by omega
      have hlti:¬(j:Int)<(j:Int):=by omega
      have p9:=HP8.out.below HBR.out HP8.out.lt
      have k1':wr.cell? ⟨bp,1,none⟩=some (.int .i64 (K:Int)):=p9.cell.trans rfl
      have hraw:T=(raw.take j).map fun x=>(⟨x,0,0⟩:Tok):=by rw[HTM.out,List.take_of_length_le (by rw[←HNN.out];exact Nat.le_refl _)]
      have h2:=HON.out
      rw[←hraw]at h2
      have hsm:=same_as (n2:=j) (c:=cg) (c2:=ct) HTN.out (by rw[HTM.out,List.length_map];exact HNN.out) ((HOG.out.below HBR.out (Nat.le_refl _)).more HBR.out.size) (TkR.of_own h2).2.1 (by have:=HWN.out;omega)
      have HSM:=Lib.hid hsm
      have HB9:=Lib.hid (HB8.out.trans (HBR.out.mono HB8.out.size))
      clear hsm hraw h2 p9 k1 hj hjl
      go_wp2_with fail
      refine HSM.out.mono ?_
      rintro e w10 ⟨rfl,hdr⟩
      have HB10:=Lib.hid (Drw.below hdr HB9.out)
      clear hdr
      go_wp2
      go_ret
      exact⟨rfl,HB10.out⟩
   ·have d0:((kd:Int)==0)=false:=beq_eq_false_iff_ne.2 (by omega)
    have hTl:T=l:=by rw[HTE.out];exact if_neg k0
    have hm:m=T.length:=by rw[hTl];exact HT.out.1
    have hsm:=same_as (c:=cg) (c2:=c2) HTN.out hm HOG.out (by rw[hTl];exact(HT.out.2.1.below HB8.out (Nat.le_refl _)).more HB8.out.size) (by have:=HWN.out;omega)
    have HSM:=Lib.hid hsm
    clear hsm hm hTl
    go_wp2_with (first|(rw[←HW8.out])|fail)
    refine HSM.out.mono ?_
    rintro e w10 ⟨rfl,hdr⟩
    have HB10:=Lib.hid (Drw.below hdr HB8.out)
    clear hdr
    go_wp2
    go_ret
    exact⟨rfl,HB10.out⟩
end Go.Proofs.YtgokdgcmkcmjeaaGreat
