/-
  Words and walks.
-/
import Derived.Test.YtgokdgcmkcmjeaaGreatpbae
import Derived.Test.YtgokdgcmkcmjeaaGreatpbbo
set_option maxRecDepth 100000
set_option maxHeartbeats 16000000
namespace Go.Proofs.YtgokdgcmkcmjeaaGreat
open Go.RowKit Go.ChangeShapes Go.WideShapes Go.ChangeAt Go.Joins
def tailP(kind n:Nat)(r:Nat→Nat)(l:List Tok):List (Nat×Nat):=if kind=0 then(List.range n).map fun i=>(r i,8)else toksP (opnA kind l) (opnM kind l) (opnB kind l) (opnN kind l) l
theorem blk_puts(f:Nat→Nat)(k kind n:Nat)(r:Nat→Nat)(l:List Tok)(last:Bool)(hkd:kind≤2):
  putsF f k (blkP (k%8) kind n r l last)=putsF (putsF f k (opnP k kind n l last)) (k+bitsT (opnP k kind n l last)) (tailP kind n r l)∧bitsT (blkP (k%8) kind n r l last)=bitsT (opnP k kind n l last)+bitsT (tailP kind n r l):=by
 have hc:kind=0∨kind=1∨kind=2:=by omega
 rcases hc with rfl|rfl|rfl
 ·have e1:blkP (k%8) 0 n r l last=[(if last then 1 else 0,1),(0,2)]++(List.replicate (padN (k%8)) (0,1)++([(n,16),(65535-n,16)]++((List.range n).map fun i=>(r i,8)))):=by
   show _++stoP (k%8) n r=_
   unfold stoP;rw[List.append_assoc]
  have e2:opnP k 0 n l last++tailP 0 n r l=[(if last then 1 else 0,1),(0,2)]++((0,padN (k%8))::([(n,16),(65535-n,16)]++((List.range n).map fun i=>(r i,8)))):=by
   have hp:(8-(k+3)%8)%8=padN (k%8):=by unfold padN;omega
   show([(if last then 1 else 0,1),(0,2)]++[(0,(8-(k+3)%8)%8),(n,16),(65535-n,16)])++((List.range n).map fun i=>(r i,8))=_
   rw[hp];rfl
  obtain⟨X,hX⟩:∃X:List (Nat×Nat),X=[(if last then 1 else 0,1),(0,2)]:=⟨_,rfl⟩
  obtain⟨Y,hY⟩:∃Y:List (Nat×Nat),Y=[(n,16),(65535-n,16)]++((List.range n).map fun i=>(r i,8)):=⟨_,rfl⟩
  rw[←hX,←hY]at e1 e2
  obtain⟨h1,h2⟩:=puts_pad (putsF f k X) (k+bitsT X) (padN (k%8)) Y
  rw[←putsF_app,←bitsT_app,e2,e1]
  constructor
  ·rw[putsF_app f k X,putsF_app f k X ((0,padN (k%8))::Y),h1]
  ·rw[bitsT_app X,bitsT_app X ((0,padN (k%8))::Y),h2]
 ·rw[←putsF_app,←bitsT_app]
  have e:blkP (k%8) 1 n r l last=opnP k 1 n l last++tailP 1 n r l:=by
   show _=([(if last then 1 else 0,1),(1,2)]++[])++toksP fixA 288 fixB 32 l
   unfold blkP;rw[if_pos rfl,List.append_nil]
  rw[e];exact⟨rfl,rfl⟩
 ·rw[←putsF_app,←bitsT_app]
  have e:blkP (k%8) 2 n r l last=opnP k 2 n l last++tailP 2 n r l:=by
   show _=([(if last then 1 else 0,1),(2,2)]++dynP l)++toksP (lnA l) (nA l) (lnB l) (nB l) l
   unfold blkP;rw[if_neg (show¬(2:Nat)=1 by omega),if_pos rfl,List.append_assoc]
  rw[e];exact⟨rfl,rfl⟩
theorem opn_codes(kind:Nat)(l:List Tok)(hkd:kind=1∨kind=2)(hl:l.length≤65535)(hok:∀t∈l,mayT t=true∧t.x<256):
  checkE (opnA kind l) (opnM kind l) 15=0∧checkE (opnB kind l) (opnN kind l) 15=0∧256<opnM kind l∧opnM kind l≤288∧0<opnN kind l∧opnN kind l≤32∧∀t∈l,symA t<opnM kind l∧(t.n≠0→symB t<opnN kind l):=by
 rcases hkd with rfl|rfl
 ·have e1:opnA 1 l=fixA:=by unfold opnA;rw[if_pos rfl]
  have e2:opnB 1 l=fixB:=by unfold opnB;rw[if_pos rfl]
  have e3:opnM 1 l=288:=by unfold opnM;rw[if_pos rfl]
  have e4:opnN 1 l=32:=by unfold opnN;rw[if_pos rfl]
  rw[e1,e2,e3,e4]
  refine⟨fixA_check,fixB_check,by omega,by omega,by omega,by omega,fun t ht=>?_⟩
  obtain⟨h1,_,h3⟩:=sym_lt (hok t ht).1 (hok t ht).2
  exact⟨by omega,fun h=>by have:=(h3 h).2.2.2;omega⟩
 ·obtain⟨_,_,_,_,a1,a2,b1,b2,hA,hB⟩:=dyn_ok l (by omega)
  have e1:opnA 2 l=lnA l:=by unfold opnA;rw[if_neg (show¬(2:Nat)=1 by omega),if_pos rfl]
  have e2:opnB 2 l=lnB l:=by unfold opnB;rw[if_neg (show¬(2:Nat)=1 by omega),if_pos rfl]
  have e3:opnM 2 l=nA l:=by unfold opnM;rw[if_neg (show¬(2:Nat)=1 by omega),if_pos rfl]
  have e4:opnN 2 l=nB l:=by unfold opnN;rw[if_neg (show¬(2:Nat)=1 by omega),if_pos rfl]
  rw[e1,e2,e3,e4]
  refine⟨lnA_check l (by omega),lnB_check l (by omega),by omega,by omega,by omega,by omega,fun t ht=>?_⟩
  obtain⟨h1,_,h3⟩:=sym_lt (hok t ht).1 (hok t ht).2
  exact⟨(hA _ h1 (cntA_pos ht)).1,fun h=>(hB _ (h3 h).2.2.2 (cntB_pos ht h)).1⟩
theorem raw_row{w w':World}{S:Nat→Prop}{B g K n:Nat}{F r:Nat→Nat}{A A':Option Addr}{c c':Nat}(hcl:Clean F K)(h8:K%8=0)(hr:∀j,r j<256)(h:RowQ w S B g F (K/8) (F (K/8)) (K%8) A c)
  (ho:w'.ownsRow B 5 1 (.slice A' (K/8+n) c') (K/8+n) (bytesL (K/8+n) (rawF F (K/8) n r))) (hb:Below B w w')
  (hk:∀k,k<w.heap.size→(Value.slice A (K/8) c).ownBlock≠some k→w'.heap[k]?=w.heap[k]?) (hw:∀j,(Value.slice A' (K/8+n) c').ownBlock=some j→(Value.slice A (K/8) c).ownBlock=some j∨w.heap.size≤j):
  RowAt (w'.setCell ⟨g,0,none⟩ (.slice A' (K/8+n) c')) S B g (putsF F K ((List.range n).map fun i=>(r i,8))) (K+bitsT ((List.range n).map fun i=>(r i,8)))∧Below B w (w'.setCell ⟨g,0,none⟩ (.slice A' (K/8+n) c')):=by
 have hcl2:=hcl.puts ((List.range n).map fun i=>(r i,8))
 obtain⟨q1,_,q3⟩:=h.grown ho hb hk hw
 refine⟨⟨hcl2,A',c',?_⟩,q3⟩
 rw[puts_raw hcl h8 r hr,bits_map8]at hcl2⊢
 have e1:(K+8*n)/8=K/8+n:=by omega
 have e2:(K+8*n)%8=K%8:=by omega
 have e3:rawF F (K/8) n r (K/8+n)=F (K/8):=by
  have z:=hcl.2.2
  rw[h8]at z
  have e:(2:Nat)^0=1:=rfl
  unfold rawF;rw[if_neg (by omega),if_neg (by omega)];omega
 rw[e1,e2,e3]
 exact q1
theorem write_con:WriteCon:=by
 intro w A n c f k kind A1 rn rc r A2 m c2 l last hp hn2 hk1 hk2 hkd hrr hrn hrt hm2 hin
 obtain⟨hm,hrt2,_⟩:=hrt
 obtain⟨E,hE⟩:∃E,E=wrtE f n k kind rn r l last:=⟨_,rfl⟩
 obtain⟨KK,hKK⟩:∃K,K=wrtK f n k kind rn r l last:=⟨_,rfl⟩
 obtain⟨FF,hFF⟩:∃F,F=wrtF f n k kind rn r l last:=⟨_,rfl⟩
 rw[←hE,←hKK,←hFF]
 unfold wrtK at hKK
 unfold wrtF at hFF
 rw[←hE]at hKK hFF
 unfold wrtE at hE
 have herr:∀w':World,E≠0→Below w.heap.size w w'→WrtN w w' (.returned (.tuple #[.agg #[.slice none 0 0,.int .i64 0],.int .i64 E])) KK E FF:=fun w' h hb=>by
  have e1:KK=0:=by rw[hKK,if_neg h]
  have e2:FF=fun _=>0:=by rw[hFF,if_neg h]
  subst e1;subst e2
  exact⟨none,0,0,rfl,rfl,ByR.nil _ _ _ (fun _=>by show 0<256;omega),hb,NewB.nil _ _ _⟩
 obtain⟨h,hh⟩:∃h,h=w.heap.size:=⟨_,rfl⟩
 obtain⟨W1,hW1⟩:∃W,W=(w.alloc (.cells #[.slice A n c,.int .i64 k] 62)).alloc (.cells #[.slice none 0 0,.int .i64 0] 62):=⟨_,rfl⟩
 have h0:W1.heap[h]?=some (.cells #[.slice A n c,.int .i64 k] 62 (0,0)):=by rw[hW1,hh];exact heap_alloc2_old w _ _
 have h1:W1.heap[h+1]?=some (.cells #[.slice none 0 0,.int .i64 0] 62 (0,0)):=by rw[hW1,hh];exact heap_alloc2_new w _ _
 have hb1:Below h w W1:=by rw[hW1,hh];exact((Below.refl w.heap.size w).alloc (Nat.le_refl _) _).alloc (by simp) _
 have hs1:h+1<W1.heap.size:=(Array.getElem?_eq_some_iff.1 h1).1
 rw[←hh]at hp hrr hrt2
 have HP1:=Lib.hid ((hp.below hb1 (Nat.le_refl _)).more (show h≤W1.heap.size by omega))
 have HRR1:=Lib.hid ((hrr.below hb1 (Nat.le_refl _)).more (show h≤W1.heap.size by omega))
 have HRT1:=Lib.hid ((hrt2.below hb1 (Nat.le_refl _)).more (show h≤W1.heap.size by omega))
 have HTS:Hid (∀b o,0<m→A2=some ⟨b,o,none⟩→b<h):=Lib.hid fun b o h0 e=>by
  obtain⟨b',o',e',hlt,_⟩:=hrt2.at (k:=0) (by omega)
  rw[e]at e'
  injection e' with e'
  injection e' with e1
  omega
 have HPC:=Lib.hid (pcheck_any W1 A n c f k HP1.out.1)
 have H0:=Lib.hid h0;have H1:=Lib.hid h1;have HB1:=Lib.hid hb1;have HS1:=Lib.hid hs1;have HW1:=Lib.hid hW1;have HH:=Lib.hid hh
 have HE:=Lib.hid hE;have HKK:=Lib.hid hKK;have HFF:=Lib.hid hFF;have HM:=Lib.hid hm;have HIN:=Lib.hid hin;have HERR:=Lib.hid herr
 clear hE hKK hFF hm hin herr hp hrr hrt2 h0 h1 hb1 hs1 hW1 hh
 obtain⟨b,hb⟩:∃b,b=penB f n k:=⟨_,rfl⟩
 rw[←hb]at HE
 cases b with
 |false=>
  have e8:E=8:=by rw[HE.out,if_pos rfl]
  have hpe:penE f n k=8:=by unfold penE;rw[←hb];rfl
  rw[hpe]at HPC
  clear HE HKK HFF hb hpe
  subst e8
  go_enter Tryz.func22,Tryz.ntmps22
  go_wp2_with (first
   |(rw[←HW1.out,←HH.out];refine wpList_load_row rfl _ _ rfl h rfl _ #[.slice A n c,.int .i64 k] (0,0) _ H0.out Tryz.underlying62 rfl szPen2 ?_)
   |fail)
  refine HPC.out.mono ?_
  rintro e w2 ⟨rfl,hb2⟩
  have H12:=Lib.hid ((hb2.block (h+1) HS1.out).trans H1.out)
  have HB02:=Lib.hid (HB1.out.trans (hb2.mono (by have:=HS1.out;omega)))
  clear hb2
  go_wp2_with (first
   |(refine wpList_buildTo rfl 62 #[] rfl (some 21) rfl #[.slice none 0 0,.int .i64 0] ?_ ?_;focus(simpa[Act.eval]using built_pen0))
   |(refine wpList_store_rowTo rfl _ _ _ rfl rfl (h+1) #[.slice none 0 0,.int .i64 0] rfl rfl 62 #[.slice none 0 0,.int .i64 0] H12.out szPen2 rfl (by simp[Value.oneCell']) ?_))
  refine bodyPost_ret (cell_pen rfl _ _ (h+1) #[.slice none 0 0,.int .i64 0] rfl rfl (setRow_heap _ _ _ _ _ _ H12.out)) rfl ?_
  refine HERR.out _ (by omega) ?_
  rw[←HH.out]
  exact below_row9 HB02.out (by omega) _
 |true=>
  obtain⟨K,rfl,hK8,hnK,hclK⟩:=penB_nat HP1.out.1.1 hb.symm
  have hpe:penE f n (K:Int)=0:=by unfold penE;rw[←hb];rfl
  rw[hpe]at HPC
  have he:=HE.out
  rw[if_neg (by decide),Int.toNat_natCast]at he
  have hkk:=HKK.out
  have hff:=HFF.out
  rw[Int.toNat_natCast]at hkk hff
  have HCK:=fun U hU=>check11_any U kind A1 rn rc A2 m c2 l hkd HM.out ((HRT1.out.below hU (Nat.le_refl _)).more (hU:Below W1.heap.size W1 U).size) hm2 hrn HIN.out
  obtain⟨Q,hQ⟩:∃Q,Q=askW kind rn l:=⟨_,rfl⟩
  rw[←hQ]at he HCK
  have HCK:=Lib.hid HCK
  have HCLK:=Lib.hid hclK;have HNK:=Lib.hid hnK
  clear HE HKK HFF hb hpe hclK hnK
  by_cases q0:Q=0
  ·subst q0
   rw[if_neg (fun g=>g rfl)]at he
   obtain⟨k2,n2,l2,hmay⟩:=askW_ok hQ.symm
   have hok:∀t∈l,mayT t=true∧t.x<256:=fun t ht=>⟨hmay t ht,(HIN.out t ht).1⟩
   obtain⟨hpu,hpb⟩:=blk_puts (zext n f) K kind rn r l last k2
   have hbt:=blkP_bits (a:=K%8) (last:=last) k2 n2 HRR1.out.1.1 l2 hok
   obtain⟨T,hT⟩:∃T,T=bitsT (blkP (K%8) kind rn r l last):=⟨_,rfl⟩
   obtain⟨GF,hGF⟩:∃G,G=putsF (zext n f) K (blkP (K%8) kind rn r l last):=⟨_,rfl⟩
   obtain⟨O,hO⟩:∃O,O=bitsT (opnP K kind rn l last):=⟨_,rfl⟩
   obtain⟨QF,hQF⟩:∃Q,Q=putsF (zext n f) K (opnP K kind rn l last):=⟨_,rfl⟩
   rw[←hT]at he hkk hpb hbt
   rw[←hGF]at hff hpu
   rw[←hO]at hpu hpb
   rw[←hQF]at hpu
   have hOT:O≤T:=by omega
   have HOK:=Lib.hid hok;have HPU:=Lib.hid hpu;have HPB:=Lib.hid hpb;have HO:=Lib.hid hO;have HQF:=Lib.hid hQF;have HEE:=Lib.hid he;have HKQ:=Lib.hid hkk;have HFQ:=Lib.hid hff
   have HR8:=Lib.hid HRR1.out.1.1
   clear hok hpu hpb hT hGF hO hQF he hkk hff hQ hmay
   go_enter Tryz.func22,Tryz.ntmps22
   go_wp2_with (first
    |(rw[←HW1.out,←HH.out];refine wpList_load_row rfl _ _ rfl h rfl _ #[.slice A n c,.int .i64 (K:Int)] (0,0) _ H0.out Tryz.underlying62 rfl szPen2 ?_)
    |fail)
   refine HPC.out.mono ?_
   rintro e w2 ⟨rfl,hb2⟩
   have HCK2:=Lib.hid (HCK.out w2 hb2)
   have HB12:=Lib.hid hb2
   clear hb2 HCK HPC
   go_wp2_with fail
   refine HCK2.out.mono ?_
   rintro e w4 ⟨rfl,hb4⟩
   have hb14:=HB12.out.trans (hb4.mono HB12.out.size)
   have h04:=(hb14.block h (by have:=HS1.out;omega)).trans H0.out
   have h14:=(hb14.block (h+1) HS1.out).trans H1.out
   have hp4:=(HP1.out.below hb14 (Nat.le_refl _)).more hb14.size
   have hbh:=behind11_any w4 A n c f K hp4 hK8 HNK.out
   have HBH:=Lib.hid hbh;have H04:=Lib.hid h04;have H14:=Lib.hid h14;have HRR4:=Lib.hid ((HRR1.out.below hb14 (Nat.le_refl _)).more hb14.size);have HRT4:=Lib.hid ((HRT1.out.below hb14 (Nat.le_refl _)).more hb14.size)
   have HB04:Hid (Below h w w4):=Lib.hid (HB1.out.trans (hb14.mono (by have:=HS1.out;omega)))
   have HL4:Hid (h+1<w4.heap.size):=Lib.hid (Array.getElem?_eq_some_iff.1 h14).1
   clear hbh h04 h14 hb14 hb4 hp4 HCK2 HB12 HP1 HRR1 HRT1
   go_wp2_with (first
    |(refine wpList_load_row rfl _ _ rfl h rfl _ #[.slice A n c,.int .i64 (K:Int)] (0,0) _ H04.out Tryz.underlying62 rfl szPen2 ?_)
    |fail)
   refine HBH.out.mono ?_
   rintro e w5 ⟨Aw,cw,rfl,how,hb5⟩
   obtain⟨S,hS⟩:∃S:Nat→Prop,S=fun j=>j<w4.heap.size:=⟨_,rfl⟩
   obtain⟨W6,hW6⟩:∃W,W=mkV w5 #[.slice none 0 0,.int .u64 0,.int .i64 0] #[.slice Aw (K/8) cw,.int .u64 ((zext n f (K/8):Nat):Int),.int .i64 ((K%8:Nat):Int)] 99:=⟨_,rfl⟩
   have b6:Below w5.heap.size w5 W6:=by rw[hW6];exact mkV_below _ _ _ _
   have hrow6:W6.heap[w5.heap.size]?=some (.cells #[.slice Aw (K/8) cw,.int .u64 ((zext n f (K/8):Nat):Int),.int .i64 ((K%8:Nat):Int)] 99 (0,0)):=by rw[hW6];exact mkV_row w5 _ _ _
   have hra:RowAt W6 S w4.heap.size w5.heap.size (zext n f) K:=⟨HCLK.out,Aw,cw,⟨hb5.size,by have:=b6.size;have:=hb5.size;omega,by rw[hS];have:=hb5.size;omega,hrow6,own_keepG how b6,fun j hj=>by rw[hS];have:=(own_blk_lt how j hj).1;omega,fun j hj=>by rw[hS]at hj;have:=b6.size;have:=hb5.size;omega⟩⟩
   have hB46:=hb5.trans (b6.mono hb5.size)
   have hct:=count11_any W6 A2 m c2 l HM.out ((HRT4.out.below hB46 (Nat.le_refl _)).more hB46.size) hm2 HOK.out
   have HSA:Hid (∀j,j<w4.heap.size→S j):=Lib.hid fun j hj=>by rw[hS];exact hj
   have HCT:=Lib.hid hct;have HRA:=Lib.hid hra;have HB46:=Lib.hid hB46;have HW6:=Lib.hid hW6
   obtain⟨g,hg⟩:∃g,g=w5.heap.size:=⟨_,rfl⟩
   rw[←hg]at HRA
   have HG:=Lib.hid hg
   clear hct hra hB46 hW6 b6 hrow6 how hb5 HBH hS hg
   go_wp2_with (first
    |(refine wpList_store_rowTo rfl _ _ _ rfl rfl w5.heap.size #[.slice Aw (K/8) cw,.int .u64 ((zext n f (K/8):Nat):Int),.int .i64 ((K%8:Nat):Int)] rfl rfl 99 #[.slice none 0 0,.int .u64 0,.int .i64 0] (heap_alloc_new w5 _) (szRow _ _ _) rfl (by simp[Value.oneCell']) ?_;change wpList _ _ _ _ _ (mkV w5 #[.slice none 0 0,.int .u64 0,.int .i64 0] #[.slice Aw (K/8) cw,.int .u64 ((zext n f (K/8):Nat):Int),.int .i64 ((K%8:Nat):Int)] 99);rw[←HW6.out])
    |fail)
   rw[←HG.out]
   refine HCT.out.mono ?_
   rintro e w7 ⟨rfl,hgc,hb7⟩
   obtain⟨gc,hgce⟩:∃g,g=W6.heap.size:=⟨_,rfl⟩
   rw[←hgce]at hgc⊢
   obtain⟨S7,hS7⟩:∃S':Nat→Prop,S'=fun j=>S j∨(W6.heap.size≤j∧j<w7.heap.size):=⟨_,rfl⟩
   have hra7:RowAt w7 S7 w4.heap.size g (zext n f) K:=by rw[hS7];exact HRA.out.grow hb7
   have hS7a:∀j,j<w4.heap.size→S7 j:=fun j hj=>by rw[hS7];exact .inl (HSA.out j hj)
   have hS7g:S7 gc:=by rw[hS7];exact .inr ⟨by omega,hgc.lt⟩
   have hop:=open11_any w7 S7 w4.heap.size g (zext n f) K rn gc kind l last hra7 k2 n2 hK8 hS7g hgc l2 HOK.out (by rw[←HO.out];omega)
   have hB47:Below w4.heap.size w4 w7:=HB46.out.trans (hb7.mono HB46.out.size)
   have HOP:=Lib.hid hop;have HS7A:=Lib.hid hS7a;have HB47:=Lib.hid hB47
   clear hop hS7a hS7g hra7 hS7 hgc hb7 hB47 hgce HCT HRA HSA
   go_wp2_with fail
   refine HOP.out.mono ?_
   rintro e w8 ⟨A1',c1',A2',c2',rfl,hr1,hr2,hrow8,hk8,hb8⟩
   rw[←HO.out,←HQF.out]at hrow8
   have HROW8:=Lib.hid hrow8;have HB48:=Lib.hid (HB47.out.trans hb8)
   have HR1:=Lib.hid hr1;have HR2:=Lib.hid hr2
   clear hrow8 hk8 hb8 hr1 hr2 HOP HB47
   by_cases hk0:kind=0
   ·subst hk0
    have hpb0:=HPB.out
    have hpu0:=HPU.out
    have etl:tailP 0 rn r l=(List.range rn).map fun i=>(r i,8):=by unfold tailP;rw[if_pos rfl]
    rw[etl]at hpb0 hpu0
    have hO8:(K+O)%8=0:=by
     have e:bitsT [(0,(8-(K+3)%8)%8),(rn,16),(65535-rn,16)]=(8-(K+3)%8)%8+32:=by simp[bitsT]
     have e2:bitsT [((if last then 1 else 0:Nat),1),(0,2)]=3:=rfl
     have e3:opnP K 0 rn l last=[(if last then 1 else 0,1),(0,2)]++[(0,(8-(K+3)%8)%8),(rn,16),(65535-rn,16)]:=by unfold opnP;rw[if_neg (show¬(0:Nat)=1 by omega),if_neg (show¬(0:Nat)=2 by omega)]
     rw[HO.out,e3,bitsT_app,e,e2];omega
    obtain⟨hcl8,Aq,cq,hq8⟩:=HROW8.out
    have hrr8:ByR w8 w8.heap.size A1 rn rc r:=(HRR4.out.below HB48.out (Nat.le_refl _)).more HB48.out.size
    obtain⟨A',c',w',hrun,ho,hbc,hkc,hwc⟩:=run_catB_s w8 w4.heap.size Aq ((K+O)/8) cq QF hq8.own A1 rn rc r (rawF QF ((K+O)/8) rn r) hrr8 (fun j hj=>by unfold rawF;rw[if_pos hj]) (fun j hj=>by unfold rawF;rw[if_neg (by omega),if_pos (by omega),Nat.add_sub_cancel_left]) (by omega) hq8.size
    obtain⟨hrx,hbx⟩:=raw_row hcl8 hO8 HR8.out hq8 ho hbc hkc hwc
    rw[←hpu0,Nat.add_assoc,←hpb0]at hrx
    obtain⟨z0,_,_,e0,_,_⟩:=hq8.cells
    have hgw:=(hkc g hq8.lt hq8.ne).trans hq8.row
    have hgo:w'.frozen? ⟨g,0,none⟩=false:=frozen_of_row w' g 0 _ _ hgw
    have hgcl:w'.cell? ⟨g,0,none⟩=some (.slice Aq ((K+O)/8) cq):=(cell_of_row w' g 0 _ _ (0,0) hgw).trans rfl
    obtain⟨Lq,hLq⟩:∃L,L=(K+O)/8:=⟨_,rfl⟩
    rw[←hLq]at hrun hrx hbx z0 hgcl
    obtain⟨WX,hWX⟩:∃W,W=w'.setCell ⟨g,0,none⟩ (.slice A' (Lq+rn) c'):=⟨_,rfl⟩
    rw[←hWX]at hrx hbx
    have hLb:Lq≤2000000:=by omega
    have HRUN:=Lib.hid hrun;have ROW:=Lib.hid hrx;have HBX:=Lib.hid (HB48.out.trans hbx);have HWX:=Lib.hid hWX
    clear hrun hrx hbx hWX ho hbc hkc hwc hq8 hrr8 hcl8 hpb0 hpu0 etl hgw hLq HROW8
    go_wp2_with (first
     |(at_builtin;refine wpList_append_run rfl (.tmp 46) (.tmp 47) 22 rfl (.slice Aq Lq cq) (.slice A1 rn rc) (.slice A' (Lq+rn) c') w' rfl rfl HRUN.out ?_)
     |(rw[←HWX.out])
     |fail)
    have hbt2:=rowbits_any WX S7 w4.heap.size g GF (K+T) ROW.out (by omega)
    have HBT2:=Lib.hid hbt2
    clear hbt2
    go_wp2_with fail
    refine HBT2.out.mono ?_
    rintro e w12 ⟨rfl,rfl⟩
    have h112:WX.drew.heap[h+1]?=some (.cells #[.slice none 0 0,.int .i64 0] 62 (0,0)):=(HBX.out.block (h+1) HL4.out).trans H14.out
    have H112:=Lib.hid h112
    clear h112 HBT2
    by_cases hfull:8388608<K+T
    ·have e9:E=9:=by rw[HEE.out,if_pos hfull]
     have hfi:(8388608:Int)<(K:Int)+(T:Int):=by omega
     have hfi2:decide ((8388608:Int)<(K:Int)+(T:Int))=true:=decY0 hfi
     have HE9:=Lib.hid e9
     clear e9
     go_wp2_with (first
      |(refine wpList_buildTo rfl 62 #[] rfl (some 60) rfl #[.slice none 0 0,.int .i64 0] ?_ ?_;focus(simpa[Act.eval]using built_pen0))
      |(refine wpList_store_rowTo rfl _ _ _ rfl rfl (h+1) #[.slice none 0 0,.int .i64 0] rfl rfl 62 #[.slice none 0 0,.int .i64 0] H112.out szPen2 rfl (by simp[Value.oneCell']) ?_))
     refine bodyPost_ret (cell_pen rfl _ _ (h+1) #[.slice none 0 0,.int .i64 0] rfl rfl (setRow_heap _ _ _ _ _ _ H112.out)) rfl ?_
     have hh9:=HERR.out
     rw[HE9.out]at hh9⊢
     refine hh9 _ (by omega) ?_
     rw[←HH.out]
     exact below_row9 (HB04.out.trans ((HBX.out.drew).mono (by have:=HL4.out;omega))) (by omega) _
    ·have e0:E=0:=by rw[HEE.out,if_neg hfull]
     have hfi:¬(8388608:Int)<(K:Int)+(T:Int):=by omega
     have hfi2:decide ((8388608:Int)<(K:Int)+(T:Int))=false:=decN0 hfi
     have HE0:=Lib.hid e0
     clear e0
     have hpn:=rowpen_any WX.drew S7 w4.heap.size g GF (K+T) ROW.out.drew (by omega)
     obtain⟨kt,hkt⟩:∃x,x=K+T:=⟨_,rfl⟩
     rw[←hkt]at hpn
     have ekt:(K:Int)+(T:Int)=(kt:Int):=by omega
     have HPN:=Lib.hid hpn;have HKT:=Lib.hid hkt
     clear hpn hkt
     go_wp2_with fail
     refine HPN.out.mono ?_
     rintro e w13 ⟨A',c',L,hL,rfl,ho,hb13⟩
     have h113:=(hb13.block (h+1) HL4.out).trans H112.out
     have hne:∀j,(Value.slice A' L c').ownBlock=some j→j≠h+1:=fun j hj=>by have:=(own_blk_lt ho j hj).1;have:=HL4.out;omega
     have H113:=Lib.hid h113;have HO13:=Lib.hid ho;have HB13:=Lib.hid (HBX.out.drew.trans hb13);have HL13:=Lib.hid hL;have HNE:=Lib.hid hne
     clear h113 ho hb13 hL hne HPN
     go_wp2_with (first
      |(refine wpList_store_rowTo rfl _ _ _ rfl rfl (h+1) #[.slice A' L c',.int .i64 (kt:Int)] rfl rfl 62 #[.slice none 0 0,.int .i64 0] H113.out szPen2 rfl (by simp[Value.oneCell']) ?_))
     refine bodyPost_ret (cell_pen rfl _ _ (h+1) #[.slice A' L c',.int .i64 (kt:Int)] rfl rfl (setRow_heap _ _ _ _ _ _ H113.out)) rfl ?_
     have ek:KK=kt:=by rw[HKQ.out,if_pos HE0.out,HKT.out]
     have ef:FF=GF:=by rw[HFQ.out,if_pos HE0.out]
     have hGF:∀j,GF j<256:=ROW.out.1.1
     have hown:=own_blk HO13.out (w':=w13.setRow (h+1) #[.slice A' L c',.int .i64 (kt:Int)]) fun j hj=>setRow_other _ _ _ _ (HNE.out j hj)
     rw[ek,ef,HE0.out]
     have hle:w.heap.size=h:=HH.out.symm
     refine⟨A',c',L,HL13.out,rfl,ByR.of_own hown hGF,?_,newB_own (ownsRow_base hown (by rw[hle];have:=HL4.out;omega))⟩
     rw[hle]
     exact below_row9 (HB04.out.trans (HB13.out.mono (by have:=HL4.out;omega))) (by omega) _
   ·have hkn:((kind:Int)==0)=false:=by rw[beq_eq_false_iff_ne];omega
    obtain⟨ca,cb,m1,m2,n1,n3,hsy⟩:=opn_codes kind l (by omega) l2 HOK.out
    have etl:tailP kind rn r l=toksP (opnA kind l) (opnM kind l) (opnB kind l) (opnN kind l) l:=by unfold tailP;rw[if_neg hk0]
    have hpb0:=HPB.out
    have hpu0:=HPU.out
    rw[etl]at hpb0 hpu0
    have hr1:=HR1.out
    have hr2:=HR2.out
    obtain⟨M,hM⟩:∃M,M=opnM kind l:=⟨_,rfl⟩
    obtain⟨N,hN⟩:∃N,N=opnN kind l:=⟨_,rfl⟩
    obtain⟨FA,hFA⟩:∃F,F=opnA kind l:=⟨_,rfl⟩
    obtain⟨FB,hFB⟩:∃F,F=opnB kind l:=⟨_,rfl⟩
    rw[←hM,←hFA]at hr1 ca
    rw[←hN,←hFB]at hr2 cb
    rw[←hM]at m1 m2
    rw[←hN]at n1 n3
    rw[←hM,←hN]at hsy
    rw[←hM,←hN,←hFA,←hFB]at hpb0 hpu0
    rw[←hM,←hN]
    have hcd:=codes11_any w8 A1' M c1' FA hr1 (by omega) (by omega) ca
    have HCD:=Lib.hid hcd;have HRB:=Lib.hid hr2;have HCA:=Lib.hid ca;have HCB:=Lib.hid cb;have HSY:=Lib.hid hsy;have HPB0:=Lib.hid hpb0;have HPU0:=Lib.hid hpu0
    clear hcd hr1 hr2 ca cb hsy hpb0 hpu0 etl hM hN hFA hFB HR1 HR2
    have hmf:∀(fn:Fn) (first cap:Array Value) (w:World),(Instr.makeFunc fn first cap).run Tryz.prog w=.ok (.func fn first cap) w:=fun _ _ _ _=>rfl
    go_wp2_with fail
    refine HCD.out.mono ?_
    rintro e w9 ⟨ga,cga,rfl,hga,hrca,hb9⟩
    have hcd2:=codes11_any w9 A2' N c2' FB ((HRB.out.below hb9 (Nat.le_refl _)).more hb9.size) (by omega) (by omega) HCB.out
    have HCD2:=Lib.hid hcd2;have HRCA:=Lib.hid hrca;have HB9:=Lib.hid hb9
    clear hcd2 hrca hb9 HCD
    go_wp2_with fail
    refine HCD2.out.mono ?_
    rintro e w10 ⟨gb,cgb,rfl,hgb,hrcb,hb10⟩
    have hb810:Below w8.heap.size w8 w10:=HB9.out.trans (hb10.mono HB9.out.size)
    obtain⟨SX,hSX⟩:∃S':Nat→Prop,S'=fun j=>S7 j∨(w8.heap.size≤j∧j<w10.heap.size):=⟨_,rfl⟩
    have hrow10:RowAt w10 SX w4.heap.size g QF (K+O):=by rw[hSX];exact HROW8.out.grow hb810
    have hS9:∀j,S7 j→SX j:=fun j hj=>by rw[hSX];exact .inl hj
    have hB410:Below w4.heap.size w4 w10:=HB48.out.trans (hb810.mono HB48.out.size)
    have hrt10:RdT w10 w10.heap.size A2 l:=(HRT4.out.below hB410 (Nat.le_refl _)).more hB410.size
    have hgal:=HRCA.out.lt
    have hgbl:=hrcb.lt
    have hbk1:BookAt w10 SX ga M FA:=⟨HRCA.out.below hb10 HRCA.out.lt,by rw[hSX];exact .inr ⟨hga,by have:=hb10.size;omega⟩,HCA.out⟩
    have hbk2:BookAt w10 SX gb N FB:=⟨hrcb,by rw[hSX];exact .inr ⟨by have:=HB9.out.size;omega,hgbl⟩,HCB.out⟩
    have htk:=tokens11_any w10 SX w4.heap.size g QF (K+O) A2 m c2 l FA ga M cga FB gb N cgb hrow10 HM.out hrt10 (fun b o h0 e=>hS9 b (HS7A.out b (by have:=HTS.out b o h0 e;have:=HL4.out;omega))) hm2 hbk1 hbk2 (by omega) (by omega) m1 HOK.out HSY.out (by rw[Nat.add_assoc,←HPB0.out];omega)
    rw[←HPU0.out,Nat.add_assoc,←HPB0.out]at htk
    have HTK:=Lib.hid htk;have HB410:=Lib.hid hB410;have HS9:=Lib.hid hS9
    clear htk hB410 hS9 hbk1 hbk2 hrt10 hrow10 hSX hb810 hb10 hrcb hga hgb hgal hgbl HCD2 HROW8 HRCA HB9 HRB
    go_wp2_with fail
    refine HTK.out.mono ?_
    rintro e WX ⟨rfl,t1,_,t3⟩
    have ROW:=Lib.hid (t1.less HS9.out);have HBX:=Lib.hid (HB410.out.trans t3)
    clear t1 t3 HTK HB410
    have hbt2:=rowbits_any WX S7 w4.heap.size g GF (K+T) ROW.out (by omega)
    have HBT2:=Lib.hid hbt2
    clear hbt2
    go_wp2_with fail
    refine HBT2.out.mono ?_
    rintro e w12 ⟨rfl,rfl⟩
    have h112:WX.drew.heap[h+1]?=some (.cells #[.slice none 0 0,.int .i64 0] 62 (0,0)):=(HBX.out.block (h+1) HL4.out).trans H14.out
    have H112:=Lib.hid h112
    clear h112 HBT2
    by_cases hfull:8388608<K+T
    ·have e9:E=9:=by rw[HEE.out,if_pos hfull]
     have hfi:(8388608:Int)<(K:Int)+(T:Int):=by omega
     have hfi2:decide ((8388608:Int)<(K:Int)+(T:Int))=true:=decY0 hfi
     have HE9:=Lib.hid e9
     clear e9
     go_wp2_with (first
      |(refine wpList_buildTo rfl 62 #[] rfl (some 60) rfl #[.slice none 0 0,.int .i64 0] ?_ ?_;focus(simpa[Act.eval]using built_pen0))
      |(refine wpList_store_rowTo rfl _ _ _ rfl rfl (h+1) #[.slice none 0 0,.int .i64 0] rfl rfl 62 #[.slice none 0 0,.int .i64 0] H112.out szPen2 rfl (by simp[Value.oneCell']) ?_))
     refine bodyPost_ret (cell_pen rfl _ _ (h+1) #[.slice none 0 0,.int .i64 0] rfl rfl (setRow_heap _ _ _ _ _ _ H112.out)) rfl ?_
     have hh9:=HERR.out
     rw[HE9.out]at hh9⊢
     refine hh9 _ (by omega) ?_
     rw[←HH.out]
     exact below_row9 (HB04.out.trans ((HBX.out.drew).mono (by have:=HL4.out;omega))) (by omega) _
    ·have e0:E=0:=by rw[HEE.out,if_neg hfull]
     have hfi:¬(8388608:Int)<(K:Int)+(T:Int):=by omega
     have hfi2:decide ((8388608:Int)<(K:Int)+(T:Int))=false:=decN0 hfi
     have HE0:=Lib.hid e0
     clear e0
     have hpn:=rowpen_any WX.drew S7 w4.heap.size g GF (K+T) ROW.out.drew (by omega)
     obtain⟨kt,hkt⟩:∃x,x=K+T:=⟨_,rfl⟩
     rw[←hkt]at hpn
     have ekt:(K:Int)+(T:Int)=(kt:Int):=by omega
     have HPN:=Lib.hid hpn;have HKT:=Lib.hid hkt
     clear hpn hkt
     go_wp2_with fail
     refine HPN.out.mono ?_
     rintro e w13 ⟨A',c',L,hL,rfl,ho,hb13⟩
     have h113:=(hb13.block (h+1) HL4.out).trans H112.out
     have hne:∀j,(Value.slice A' L c').ownBlock=some j→j≠h+1:=fun j hj=>by have:=(own_blk_lt ho j hj).1;have:=HL4.out;omega
     have H113:=Lib.hid h113;have HO13:=Lib.hid ho;have HB13:=Lib.hid (HBX.out.drew.trans hb13);have HL13:=Lib.hid hL;have HNE:=Lib.hid hne
     clear h113 ho hb13 hL hne HPN
     go_wp2_with (first
      |(refine wpList_store_rowTo rfl _ _ _ rfl rfl (h+1) #[.slice A' L c',.int .i64 (kt:Int)] rfl rfl 62 #[.slice none 0 0,.int .i64 0] H113.out szPen2 rfl (by simp[Value.oneCell']) ?_))
     refine bodyPost_ret (cell_pen rfl _ _ (h+1) #[.slice A' L c',.int .i64 (kt:Int)] rfl rfl (setRow_heap _ _ _ _ _ _ H113.out)) rfl ?_
     have ek:KK=kt:=by rw[HKQ.out,if_pos HE0.out,HKT.out]
     have ef:FF=GF:=by rw[HFQ.out,if_pos HE0.out]
     have hGF:∀j,GF j<256:=ROW.out.1.1
     have hown:=own_blk HO13.out (w':=w13.setRow (h+1) #[.slice A' L c',.int .i64 (kt:Int)]) fun j hj=>setRow_other _ _ _ _ (HNE.out j hj)
     rw[ek,ef,HE0.out]
     have hle:w.heap.size=h:=HH.out.symm
     refine⟨A',c',L,HL13.out,rfl,ByR.of_own hown hGF,?_,newB_own (ownsRow_base hown (by rw[hle];have:=HL4.out;omega))⟩
     rw[hle]
     exact below_row9 (HB04.out.trans (HB13.out.mono (by have:=HL4.out;omega))) (by omega) _
  ·have eQ:E=Q:=by rw[he,if_pos q0]
   have hqn:(Q==0)=false:=by rw[beq_eq_false_iff_ne];exact q0
   clear he hkk hff hQ
   go_enter Tryz.func22,Tryz.ntmps22
   go_wp2_with (first
    |(rw[←HW1.out,←HH.out];refine wpList_load_row rfl _ _ rfl h rfl _ #[.slice A n c,.int .i64 (K:Int)] (0,0) _ H0.out Tryz.underlying62 rfl szPen2 ?_)
    |fail)
   refine HPC.out.mono ?_
   rintro e w2 ⟨rfl,hb2⟩
   have HCK2:=Lib.hid (HCK.out w2 hb2)
   have HB12:=Lib.hid hb2
   have HEQ:=Lib.hid eQ
   clear hb2 HCK HPC eQ
   go_wp2_with fail
   refine HCK2.out.mono ?_
   rintro e w4 ⟨rfl,hb4⟩
   have hb14:=HB12.out.trans (hb4.mono HB12.out.size)
   have H14:=Lib.hid ((hb14.block (h+1) HS1.out).trans H1.out)
   have HB04:Hid (Below h w w4):=Lib.hid (HB1.out.trans (hb14.mono (by have:=HS1.out;omega)))
   clear hb4 hb14 HB12 HCK2
   go_wp2_with (first
    |(refine wpList_buildTo rfl 62 #[] rfl (some 29) rfl #[.slice none 0 0,.int .i64 0] ?_ ?_;focus(simpa[Act.eval]using built_pen0))
    |(refine wpList_store_rowTo rfl _ _ _ rfl rfl (h+1) #[.slice none 0 0,.int .i64 0] rfl rfl 62 #[.slice none 0 0,.int .i64 0] H14.out szPen2 rfl (by simp[Value.oneCell']) ?_))
   refine bodyPost_ret (cell_pen rfl _ _ (h+1) #[.slice none 0 0,.int .i64 0] rfl rfl (setRow_heap _ _ _ _ _ _ H14.out)) rfl ?_
   have hh9:=HERR.out
   rw[HEQ.out]at hh9⊢
   refine hh9 _ q0 ?_
   rw[←HH.out]
   exact below_row9 HB04.out (by omega) _
end Go.Proofs.YtgokdgcmkcmjeaaGreat
