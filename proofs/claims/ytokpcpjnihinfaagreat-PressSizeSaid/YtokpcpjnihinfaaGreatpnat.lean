/-
  Words and walks.
-/
import Derived.Test.YtokpcpjnihinfaaGreatpnac
import Derived.Test.YtokpcpjnihinfaaGreatpnak
import Derived.Test.YtokpcpjnihinfaaGreatpnam
import Derived.Test.YtokpcpjnihinfaaGreatpnas
set_option maxRecDepth 100000
set_option maxHeartbeats 16000000
namespace Go.Proofs.YtokpcpjnihinfaaGreat
open Go.RowKit Go.ChangeShapes Go.WideShapes Go.ChangeAt Go.Joins
def tailP(kind n:Nat)(r:Nat→Nat)(l:List Tok):List (Nat×Nat):=if kind=0 then(List.range n).map fun i=>(r i,8)else toksP (opnA kind l) (opnM kind l) (opnB kind l) (opnN kind l) l
theorem blk_puts(f:Nat→Nat)(k kind n:Nat)(r:Nat→Nat)(l:List Tok)(last:Bool)(hkd:kind≤2):
  putsF f k (blkP (k%8) kind n r l last)=putsF (putsF f k (opnP k kind n l last)) (k+bitsT (opnP k kind n l last)) (tailP kind n r l)∧bitsT (blkP (k%8) kind n r l last)=bitsT (opnP k kind n l last)+bitsT (tailP kind n r l):=by
 have hc:kind=0∨kind=1∨kind=2:=by omega
 rcases hc with rfl|rfl|rfl
 ·have e1:blkP (k%8) 0 n r l last=[(if last then 1 else 0,1),(0,2)]++(List.replicate (padN (k%8)) (0,1)++([(n,16),(65535-n,16)]++((List.range n).map fun i=>(r i,8)))):=by
   show _++stoP (k%8) n r=_
   unfold stoP;rw[List.append_assoc]
  have e2:opnP k 0 n l last++tailP 0 n r l=[(if last then 1 else 0,1),(0,2)]++((0,padN (k%8))::([(n,16),(65535-n,16)]++((List.range n).map fun i=>(r i,8)))):=by
   have hp:(8-(k+3)%8)%8=padN (k%8):=by unfold padN;omega
   show([(if last then 1 else 0,1),(0,2)]++[(0,(8-(k+3)%8)%8),(n,16),(65535-n,16)])++((List.range n).map fun i=>(r i,8))=_
   rw[hp];rfl
  obtain⟨X,hX⟩:∃X:List (Nat×Nat),X=[(if last then 1 else 0,1),(0,2)]:=⟨_,rfl⟩
  obtain⟨Y,hY⟩:∃Y:List (Nat×Nat),Y=[(n,16),(65535-n,16)]++((List.range n).map fun i=>(r i,8)):=⟨_,rfl⟩
  rw[←hX,←hY]at e1 e2
  obtain⟨h1,h2⟩:=puts_pad (putsF f k X) (k+bitsT X) (padN (k%8)) Y
  rw[←putsF_app,←bitsT_app,e2,e1]
  constructor
  ·rw[putsF_app f k X,putsF_app f k X ((0,padN (k%8))::Y),h1]
  ·rw[bitsT_app X,bitsT_app X ((0,padN (k%8))::Y),h2]
 ·rw[←putsF_app,←bitsT_app]
  have e:blkP (k%8) 1 n r l last=opnP k 1 n l last++tailP 1 n r l:=by
   show _=([(if last then 1 else 0,1),(1,2)]++[])++toksP fixA 288 fixB 32 l
   unfold blkP;rw[if_pos rfl,List.append_nil]
  rw[e];exact⟨rfl,rfl⟩
 ·rw[←putsF_app,←bitsT_app]
  have e:blkP (k%8) 2 n r l last=opnP k 2 n l last++tailP 2 n r l:=by
   show _=([(if last then 1 else 0,1),(2,2)]++dynP l)++toksP (lnA l) (nA l) (lnB l) (nB l) l
   unfold blkP;rw[if_neg (show¬(2:Nat)=1 by omega),if_pos rfl,List.append_assoc]
  rw[e];exact⟨rfl,rfl⟩
theorem opn_codes(kind:Nat)(l:List Tok)(hkd:kind=1∨kind=2)(hl:l.length≤65535)(hok:∀t∈l,mayT t=true∧t.x<256):
  checkE (opnA kind l) (opnM kind l) 15=0∧checkE (opnB kind l) (opnN kind l) 15=0∧256<opnM kind l∧opnM kind l≤288∧0<opnN kind l∧opnN kind l≤32∧∀t∈l,symA t<opnM kind l∧(t.n≠0→symB t<opnN kind l):=by
 rcases hkd with rfl|rfl
 ·have e1:opnA 1 l=fixA:=by unfold opnA;rw[if_pos rfl]
  have e2:opnB 1 l=fixB:=by unfold opnB;rw[if_pos rfl]
  have e3:opnM 1 l=288:=by unfold opnM;rw[if_pos rfl]
  have e4:opnN 1 l=32:=by unfold opnN;rw[if_pos rfl]
  rw[e1,e2,e3,e4]
  refine⟨fixA_check,fixB_check,by omega,by omega,by omega,by omega,fun t ht=>?_⟩
  obtain⟨h1,_,h3⟩:=sym_lt (hok t ht).1 (hok t ht).2
  exact⟨by omega,fun h=>by have:=(h3 h).2.2.2;omega⟩
 ·obtain⟨_,_,_,_,a1,a2,b1,b2,hA,hB⟩:=dyn_ok l (by omega)
  have e1:opnA 2 l=lnA l:=by unfold opnA;rw[if_neg (show¬(2:Nat)=1 by omega),if_pos rfl]
  have e2:opnB 2 l=lnB l:=by unfold opnB;rw[if_neg (show¬(2:Nat)=1 by omega),if_pos rfl]
  have e3:opnM 2 l=nA l:=by unfold opnM;rw[if_neg (show¬(2:Nat)=1 by omega),if_pos rfl]
  have e4:opnN 2 l=nB l:=by unfold opnN;rw[if_neg (show¬(2:Nat)=1 by omega),if_pos rfl]
  rw[e1,e2,e3,e4]
  refine⟨lnA_check l (by omega),lnB_check l (by omega),by omega,by omega,by omega,by omega,fun t ht=>?_⟩
  obtain⟨h1,_,h3⟩:=sym_lt (hok t ht).1 (hok t ht).2
  exact⟨(hA _ h1 (cntA_pos ht)).1,fun h=>(hB _ (h3 h).2.2.2 (cntB_pos ht h)).1⟩
theorem raw_row{w w':World}{S:Nat→Prop}{B g K n:Nat}{F r:Nat→Nat}{A A':Option Addr}{c c':Nat}(hcl:Clean F K)(h8:K%8=0)(hr:∀j,r j<256)(h:RowQ w S B g F (K/8) (F (K/8)) (K%8) A c)
  (ho:w'.ownsRow B 5 1 (.slice A' (K/8+n) c') (K/8+n) (bytesL (K/8+n) (rawF F (K/8) n r))) (hb:Below B w w')
  (hk:∀k,k<w.heap.size→(Value.slice A (K/8) c).ownBlock≠some k→w'.heap[k]?=w.heap[k]?) (hw:∀j,(Value.slice A' (K/8+n) c').ownBlock=some j→(Value.slice A (K/8) c).ownBlock=some j∨w.heap.size≤j):
  RowAt (w'.setCell ⟨g,0,none⟩ (.slice A' (K/8+n) c')) S B g (putsF F K ((List.range n).map fun i=>(r i,8))) (K+bitsT ((List.range n).map fun i=>(r i,8)))∧Below B w (w'.setCell ⟨g,0,none⟩ (.slice A' (K/8+n) c')):=by
 have hcl2:=hcl.puts ((List.range n).map fun i=>(r i,8))
 obtain⟨q1,_,q3⟩:=h.grown ho hb hk hw
 refine⟨⟨hcl2,A',c',?_⟩,q3⟩
 rw[puts_raw hcl h8 r hr,bits_map8]at hcl2⊢
 have e1:(K+8*n)/8=K/8+n:=by omega
 have e2:(K+8*n)%8=K%8:=by omega
 have e3:rawF F (K/8) n r (K/8+n)=F (K/8):=by
  have z:=hcl.2.2
  rw[h8]at z
  have e:(2:Nat)^0=1:=rfl
  unfold rawF;rw[if_neg (by omega),if_neg (by omega)];omega
 rw[e1,e2,e3]
 exact q1
theorem write_con:WriteCon:=by
 intro w A n c f k kind A1 rn rc r A2 m c2 l last hp hn2 hk1 hk2 hkd hrr hrn hrt hm2 hin
 obtain⟨hm,hrt2,_⟩:=hrt
 obtain⟨E,hE⟩:∃E,E=wrtE f n k kind rn r l last:=⟨_,rfl⟩
 obtain⟨KK,hKK⟩:∃K,K=wrtK f n k kind rn r l last:=⟨_,rfl⟩
 obtain⟨FF,hFF⟩:∃F,F=wrtF f n k kind rn r l last:=⟨_,rfl⟩
 rw[←hE,←hKK,←hFF]
 unfold wrtK at hKK
 unfold wrtF at hFF
 rw[←hE]at hKK hFF
 unfold wrtE at hE
 have herr:∀w':World,E≠0→Below w.heap.size w w'→WrtN w w' (.returned (.tuple #[.agg #[.slice none 0 0,.int .i64 0],.int .i64 E])) KK E FF:=fun w' h hb=>by
  have e1:KK=0:=by rw[hKK,if_neg h]
  have e2:FF=fun _=>0:=by rw[hFF,if_neg h]
  subst e1;subst e2
  exact⟨none,0,0,rfl,rfl,ByR.nil _ _ _ (fun _=>by show 0<256;omega),hb,NewB.nil _ _ _⟩
 obtain⟨h,hh⟩:∃h,h=w.heap.size:=⟨_,rfl⟩
 obtain⟨W1,hW1⟩:∃W,W=(w.alloc (.cells #[.slice A n c,.int .i64 k] 30)).alloc (.cells #[.slice none 0 0,.int .i64 0] 30):=⟨_,rfl⟩
 have h0:W1.heap[h]?=some (.cells #[.slice A n c,.int .i64 k] 30 (0,0)):=by rw[hW1,hh];exact heap_alloc2_old w _ _
 have h1:W1.heap[h+1]?=some (.cells #[.slice none 0 0,.int .i64 0] 30 (0,0)):=by rw[hW1,hh];exact heap_alloc2_new w _ _
 have hb1:Below h w W1:=by rw[hW1,hh];exact((Below.refl w.heap.size w).alloc (Nat.le_refl _) _).alloc (by simp) _
 have hs1:h+1<W1.heap.size:=(Array.getElem?_eq_some_iff.1 h1).1
 rw[←hh]at hp hrr hrt2
 have HP1:=Lib.hid ((hp.below hb1 (Nat.le_refl _)).more (show h≤W1.heap.size by omega))
 have HRR1:=Lib.hid ((hrr.below hb1 (Nat.le_refl _)).more (show h≤W1.heap.size by omega))
 have HRT1:=Lib.hid ((hrt2.below hb1 (Nat.le_refl _)).more (show h≤W1.heap.size by omega))
 have HTS:Hid (∀b o,0<m→A2=some ⟨b,o,none⟩→b<h):=Lib.hid fun b o h0 e=>by
  obtain⟨b',o',e',hlt,_⟩:=hrt2.at (k:=0) (by omega)
  rw[e]at e'
  injection e' with e'
  injection e' with e1
  omega
 have HPC:=Lib.hid (pcheck_any W1 A n c f k HP1.out.1)
 have H0:=Lib.hid h0;have H1:=Lib.hid h1;have HB1:=Lib.hid hb1;have HS1:=Lib.hid hs1;have HW1:=Lib.hid hW1;have HH:=Lib.hid hh
 have HE:=Lib.hid hE;have HKK:=Lib.hid hKK;have HFF:=Lib.hid hFF;have HM:=Lib.hid hm;have HIN:=Lib.hid hin;have HERR:=Lib.hid herr
 clear hE hKK hFF hm hin herr hp hrr hrt2 h0 h1 hb1 hs1 hW1 hh
 obtain⟨b,hb⟩:∃b,b=penB f n k:=⟨_,rfl⟩
 rw[←hb]at HE
 cases b with
 |false=>
  have e8:E=8:=by rw[HE.out,if_pos rfl]
  have hpe:penE f n k=8:=by unfold penE;rw[←hb];rfl
  rw[hpe]at HPC
  clear HE HKK HFF hb hpe
  subst e8
  go_enter Tryz.func66,Tryz.ntmps66
  go_wp2_with (first
   |(rw[←HW1.out,←HH.out];refine wpList_load_row rfl _ _ rfl h rfl _ #[.slice A n c,.int .i64 k] (0,0) _ H0.out Tryz.underlying30 rfl szPen2 ?_)
   |fail)
  refine HPC.out.mono ?_
  rintro e w2 ⟨rfl,hb2⟩
  have H12:=Lib.hid ((hb2.block (h+1) HS1.out).trans H1.out)
  have HB02:=Lib.hid (HB1.out.trans (hb2.mono (by have:=HS1.out;omega)))
  clear hb2
  go_wp2_with (first
   |(refine wpList_buildTo rfl 30 #[] rfl (some 21) rfl #[.slice none 0 0,.int .i64 0] ?_ ?_;focus(simpa[Act.eval]using built_pen0))
   |(refine wpList_store_rowTo rfl _ _ _ rfl rfl (h+1) #[.slice none 0 0,.int .i64 0] rfl rfl 30 #[.slice none 0 0,.int .i64 0] H12.out szPen2 rfl (by simp[Value.oneCell']) ?_))
  refine bodyPost_ret (cell_pen rfl _ _ (h+1) #[.slice none 0 0,.int .i64 0] rfl rfl (setRow_heap _ _ _ _ _ _ H12.out)) rfl ?_
  refine HERR.out _ (by omega) ?_
  rw[←HH.out]
  exact below_row9 HB02.out (by omega) _
 |true=>
  obtain⟨K,rfl,hK8,hnK,hclK⟩:=penB_nat HP1.out.1.1 hb.symm
  have hpe:penE f n (K:Int)=0:=by unfold penE;rw[←hb];rfl
  rw[hpe]at HPC
  have he:=HE.out
  rw[if_neg (by decide),Int.toNat_natCast]at he
  have hkk:=HKK.out
  have hff:=HFF.out
  rw[Int.toNat_natCast]at hkk hff
  have HCK:=fun U hU=>check11_any U kind A1 rn rc A2 m c2 l hkd HM.out ((HRT1.out.below hU (Nat.le_refl _)).more (hU:Below W1.heap.size W1 U).size) hm2 hrn HIN.out
  obtain⟨Q,hQ⟩:∃Q,Q=askW kind rn l:=⟨_,rfl⟩
  rw[←hQ]at he HCK
  have HCK:=Lib.hid HCK
  have HCLK:=Lib.hid hclK;have HNK:=Lib.hid hnK
  clear HE HKK HFF hb hpe hclK hnK
  by_cases q0:Q=0
  ·subst q0
   rw[if_neg (fun g=>g rfl)]at he
   obtain⟨k2,n2,l2,hmay⟩:=askW_ok hQ.symm
   have hok:∀t∈l,mayT t=true∧t.x<256:=fun t ht=>⟨hmay t ht,(HIN.out t ht).1⟩
   obtain⟨hpu,hpb⟩:=blk_puts (zext n f) K kind rn r l last k2
   have hbt:=blkP_bits (a:=K%8) (last:=last) k2 n2 HRR1.out.1.1 l2 hok
   obtain⟨T,hT⟩:∃T,T=bitsT (blkP (K%8) kind rn r l last):=⟨_,rfl⟩
   obtain⟨GF,hGF⟩:∃G,G=putsF (zext n f) K (blkP (K%8) kind rn r l last):=⟨_,rfl⟩
   obtain⟨O,hO⟩:∃O,O=bitsT (opnP K kind rn l last):=⟨_,rfl⟩
   obtain⟨QF,hQF⟩:∃Q,Q=putsF (zext n f) K (opnP K kind rn l last):=⟨_,rfl⟩
   rw[←hT]at he hkk hpb hbt
   rw[←hGF]at hff hpu
   rw[←hO]at hpu hpb
   rw[←hQF]at hpu
   have hOT:O≤T:=by omega
   have HOK:=Lib.hid hok;have HPU:=Lib.hid hpu;have HPB:=Lib.hid hpb;have HO:=Lib.hid hO;have HQF:=Lib.hid hQF;have HEE:=Lib.hid he;have HKQ:=Lib.hid hkk;have HFQ:=Lib.hid hff
   have HR8:=Lib.hid HRR1.out.1.1
   clear hok hpu hpb hT hGF hO hQF he hkk hff hQ hmay
   go_enter Tryz.func66,Tryz.ntmps66
   go_wp2_with (first
    |(rw[←HW1.out,←HH.out];refine wpList_load_row rfl _ _ rfl h rfl _ #[.slice A n c,.int .i64 (K:Int)] (0,0) _ H0.out Tryz.underlying30 rfl szPen2 ?_)
    |fail)
   refine HPC.out.mono ?_
   rintro e w2 ⟨rfl,hb2⟩
   have HCK2:=Lib.hid (HCK.out w2 hb2)
   have HB12:=Lib.hid hb2
   clear hb2 HCK HPC
   go_wp2_with fail
   refine HCK2.out.mono ?_
   rintro e w4 ⟨rfl,hb4⟩
   have hb14:=HB12.out.trans (hb4.mono HB12.out.size)
   have h04:=(hb14.block h (by have:=HS1.out;omega)).trans H0.out
   have h14:=(hb14.block (h+1) HS1.out).trans H1.out
   have hp4:=(HP1.out.below hb14 (Nat.le_refl _)).more hb14.size
   have hbh:=behind11_any w4 A n c f K hp4 hK8 HNK.out
   have HBH:=Lib.hid hbh;have H04:=Lib.hid h04;have H14:=Lib.hid h14;have HRR4:=Lib.hid ((HRR1.out.below hb14 (Nat.le_refl _)).more hb14.size);have HRT4:=Lib.hid ((HRT1.out.below hb14 (Nat.le_refl _)).more hb14.size)
   have HB04:Hid (Below h w w4):=Lib.hid (HB1.out.trans (hb14.mono (by have:=HS1.out;omega)))
   have HL4:Hid (h+1<w4.heap.size):=Lib.hid (Array.getElem?_eq_some_iff.1 h14).1
   clear hbh h04 h14 hb14 hb4 hp4 HCK2 HB12 HP1 HRR1 HRT1
   go_wp2_with (first
    |(refine wpList_load_row rfl _ _ rfl h rfl _ #[.slice A n c,.int .i64 (K:Int)] (0,0) _ H04.out Tryz.underlying30 rfl szPen2 ?_)
    |fail)
   refine HBH.out.mono ?_
   rintro e w5 ⟨Aw,cw,rfl,how,hb5⟩
   obtain⟨S,hS⟩:∃S:Nat→Prop,S=fun j=>j<w4.heap.size:=⟨_,rfl⟩
   obtain⟨W6,hW6⟩:∃W,W=mkV w5 #[.slice none 0 0,.int .u64 0,.int .i64 0] #[.slice Aw (K/8) cw,.int .u64 ((zext n f (K/8):Nat):Int),.int .i64 ((K%8:Nat):Int)] 131:=⟨_,rfl⟩
   have b6:Below w5.heap.size w5 W6:=by rw[hW6];exact mkV_below _ _ _ _
   have hrow6:W6.heap[w5.heap.size]?=some (.cells #[.slice Aw (K/8) cw,.int .u64 ((zext n f (K/8):Nat):Int),.int .i64 ((K%8:Nat):Int)] 131 (0,0)):=by rw[hW6];exact mkV_row w5 _ _ _
   have hra:RowAt W6 S w4.heap.size w5.heap.size (zext n f) K:=⟨HCLK.out,Aw,cw,⟨hb5.size,by have:=b6.size;have:=hb5.size;omega,by rw[hS];have:=hb5.size;omega,hrow6,own_keepG how b6,fun j hj=>by rw[hS];have:=(own_blk_lt how j hj).1;omega,fun j hj=>by rw[hS]at hj;have:=b6.size;have:=hb5.size;omega⟩⟩
   have hB46:=hb5.trans (b6.mono hb5.size)
   have hct:=count11_any W6 A2 m c2 l HM.out ((HRT4.out.below hB46 (Nat.le_refl _)).more hB46.size) hm2 HOK.out
   have HSA:Hid (∀j,j<w4.heap.size→S j):=Lib.hid fun j hj=>by rw[hS];exact hj
   have HCT:=Lib.hid hct;have HRA:=Lib.hid hra;have HB46:=Lib.hid hB46;have HW6:=Lib.hid hW6
   obtain⟨g,hg⟩:∃g,g=w5.heap.size:=⟨_,rfl⟩
   rw[←hg]at HRA
   have HG:=Lib.hid hg
   clear hct hra hB46 hW6 b6 hrow6 how hb5 HBH hS hg
   go_wp2_with (first
    |(refine wpList_store_rowTo rfl _ _ _ rfl rfl w5.heap.size #[.slice Aw (K/8) cw,.int .u64 ((zext n f (K/8):Nat):Int),.int .i64 ((K%8:Nat):Int)] rfl rfl 131 #[.slice none 0 0,.int .u64 0,.int .i64 0] (heap_alloc_new w5 _) (szRow _ _ _) rfl (by simp[Value.oneCell']) ?_;change wpList _ _ _ _ _ (mkV w5 #[.slice none 0 0,.int .u64 0,.int .i64 0] #[.slice Aw (K/8) cw,.int .u64 ((zext n f (K/8):Nat):Int),.int .i64 ((K%8:Nat):Int)] 131);rw[←HW6.out])
    |fail)
   rw[←HG.out]
   refine HCT.out.mono ?_
   rintro e w7 ⟨rfl,hgc,hb7⟩
   obtain⟨gc,hgce⟩:∃g,g=W6.heap.size:=⟨_,rfl⟩
   rw[←hgce]at hgc⊢
   obtain⟨S7,hS7⟩:∃S':Nat→Prop,S'=fun j=>S j∨(W6.heap.size≤j∧j<w7.heap.size):=⟨_,rfl⟩
   have hra7:RowAt w7 S7 w4.heap.size g (zext n f) K:=by rw[hS7];exact HRA.out.grow hb7
   have hS7a:∀j,j<w4.heap.size→S7 j:=fun j hj=>by rw[hS7];exact .inl (HSA.out j hj)
   have hS7g:S7 gc:=by rw[hS7];exact .inr ⟨by omega,hgc.lt⟩
   have hop:=open11_any w7 S7 w4.heap.size g (zext n f) K rn gc kind l last hra7 k2 n2 hK8 hS7g hgc l2 HOK.out (by rw[←HO.out];omega)
   have hB47:Below w4.heap.size w4 w7:=HB46.out.trans (hb7.mono HB46.out.size)
   have HOP:=Lib.hid hop;have HS7A:=Lib.hid hS7a;have HB47:=Lib.hid hB47
   clear hop hS7a hS7g hra7 hS7 hgc hb7 hB47 hgce HCT HRA HSA
   go_wp2_with fail
   refine HOP.out.mono ?_
   rintro e w8 ⟨A1',c1',A2',c2',rfl,hr1,hr2,hrow8,hk8,hb8⟩
   rw[←HO.out,←HQF.out]at hrow8
   have HROW8:=Lib.hid hrow8;have HB48:=Lib.hid (HB47.out.trans hb8)
   have HR1:=Lib.hid hr1;have HR2:=Lib.hid hr2
   clear hrow8 hk8 hb8 hr1 hr2 HOP HB47
   by_cases hk0:kind=0
   ·subst hk0
    have hpb0:=HPB.out
    have hpu0:=HPU.out
    have etl:tailP 0 rn r l=(List.range rn).map fun i=>(r i,8):=by unfold tailP;rw[if_pos rfl]
    rw[etl]at hpb0 hpu0
    have hO8:(K+O)%8=0:=by
     have e:bitsT [(0,(8-(K+3)%8)%8),(rn,16),(65535-rn,16)]=(8-(K+3)%8)%8+32:=by simp[bitsT]
     have e2:bitsT [((if last then 1 else 0:Nat),1),(0,2)]=3:=rfl
     have e3:opnP K 0 rn l last=[(if last then 1 else 0,1),(0,2)]++[(0,(8-(K+3)%8)%8),(rn,16),(65535-rn,16)]:=by unfold opnP;rw[if_neg (show¬(0:Nat)=1 by omega),if_neg (show¬(0:Nat)=2 by omega)]
     rw[HO.out,e3,bitsT_app,e,e2];omega
    obtain⟨hcl8,Aq,cq,hq8⟩:=HROW8.out
    have hrr8:ByR w8 w8.heap.size A1 rn rc r:=(HRR4.out.below HB48.out (Nat.le_refl _)).more HB48.out.size
    obtain⟨A',c',w',hrun,ho,hbc,hkc,hwc⟩:=run_catB_s w8 w4.heap.size Aq ((K+O)/8) cq QF hq8.own A1 rn rc r (rawF QF ((K+O)/8) rn r) hrr8 (fun j hj=>by unfold rawF;rw[if_pos hj]) (fun j hj=>by unfold rawF;rw[if_neg (by omega),if_pos (by omega),Nat.add_sub_cancel_left]) (by omega) hq8.size
    obtain⟨hrx,hbx⟩:=raw_row hcl8 hO8 HR8.out hq8 ho hbc hkc hwc
    rw[←hpu0,Nat.add_assoc,←hpb0]at hrx
    obtain⟨z0,_,_,e0,_,_⟩:=hq8.cells
    have hgw:=(hkc g hq8.lt hq8.ne).trans hq8.row
    have hgo:w'.frozen? ⟨g,0,none⟩=false:=frozen_of_row w' g 0 _ _ hgw
    have hgcl:w'.cell? ⟨g,0,none⟩=some (.slice Aq ((K+O)/8) cq):=(cell_of_row w' g 0 _ _ (0,0) hgw).trans rfl
    obtain⟨Lq,hLq⟩:∃L,L=(K+O)/8:=⟨_,rfl⟩
    rw[←hLq]at hrun hrx hbx z0 hgcl
    obtain⟨WX,hWX⟩:∃W,W=w'.setCell ⟨g,0,none⟩ (.slice A' (Lq+rn) c'):=⟨_,rfl⟩
    rw[←hWX]at hrx hbx
    have hLb:Lq≤2000000:=by omega
    have HRUN:=Lib.hid hrun;have ROW:=Lib.hid hrx;have HBX:=Lib.hid (HB48.out.trans hbx);have HWX:=Lib.hid hWX
    clear hrun hrx hbx hWX ho hbc hkc hwc hq8 hrr8 hcl8 hpb0 hpu0 etl hgw hLq HROW8
    go_wp2_with (first
     |(at_builtin;refine wpList_append_run rfl (.tmp 46) (.tmp 47) 22 rfl (.slice Aq Lq cq) (.slice A1 rn rc) (.slice A' (Lq+rn) c') w' rfl rfl HRUN.out ?_)
     |(rw[←HWX.out])
     |fail)
    have hbt2:=rowbits_any WX S7 w4.heap.size g GF (K+T) ROW.out (by omega)
    have HBT2:=Lib.hid hbt2
    clear hbt2
    go_wp2_with fail
    refine HBT2.out.mono ?_
    rintro e w12 ⟨rfl,rfl⟩
    have h112:WX.drew.heap[h+1]?=some (.cells #[.slice none 0 0,.int .i64 0] 30 (0,0)):=(HBX.out.block (h+1) HL4.out).trans H14.out
    have H112:=Lib.hid h112
    clear h112 HBT2
    by_cases hfull:8388608<K+T
    ·have e9:E=9:=by rw[HEE.out,if_pos hfull]
     have hfi:(8388608:Int)<(K:Int)+(T:Int):=by omega
     have hfi2:decide ((8388608:Int)<(K:Int)+(T:Int))=true:=decY0 hfi
     have HE9:=Lib.hid e9
     clear e9
     go_wp2_with (first
      |(refine wpList_buildTo rfl 30 #[] rfl (some 60) rfl #[.slice none 0 0,.int .i64 0] ?_ ?_;focus(simpa[Act.eval]using built_pen0))
      |(refine wpList_store_rowTo rfl _ _ _ rfl rfl (h+1) #[.slice none 0 0,.int .i64 0] rfl rfl 30 #[.slice none 0 0,.int .i64 0] H112.out szPen2 rfl (by simp[Value.oneCell']) ?_))
     refine bodyPost_ret (cell_pen rfl _ _ (h+1) #[.slice none 0 0,.int .i64 0] rfl rfl (setRow_heap _ _ _ _ _ _ H112.out)) rfl ?_
     have hh9:=HERR.out
     rw[HE9.out]at hh9⊢
     refine hh9 _ (by omega) ?_
     rw[←HH.out]
     exact below_row9 (HB04.out.trans ((HBX.out.drew).mono (by have:=HL4.out;omega))) (by omega) _
    ·have e0:E=0:=by rw[HEE.out,if_neg hfull]
     have hfi:¬(8388608:Int)<(K:Int)+(T:Int):=by omega
     have hfi2:decide ((8388608:Int)<(K:Int)+(T:Int))=false:=decN0 hfi
     have HE0:=Lib.hid e0
     clear e0
     have hpn:=rowpen_any WX.drew S7 w4.heap.size g GF (K+T) ROW.out.drew (by omega)
     obtain⟨kt,hkt⟩:∃x,x=K+T:=⟨_,rfl⟩
     rw[←hkt]at hpn
     have ekt:(K:Int)+(T:Int)=(kt:Int):=by omega
     have HPN:=Lib.hid hpn;have HKT:=Lib.hid hkt
     clear hpn hkt
     go_wp2_with fail
     refine HPN.out.mono ?_
     rintro e w13 ⟨A',c',L,hL,rfl,ho,hb13⟩
     have h113:=(hb13.block (h+1) HL4.out).trans H112.out
     have hne:∀j,(Value.slice A' L c').ownBlock=some j→j≠h+1:=fun j hj=>by have:=(own_blk_lt ho j hj).1;have:=HL4.out;omega
     have H113:=Lib.hid h113;have HO13:=Lib.hid ho;have HB13:=Lib.hid (HBX.out.drew.trans hb13);have HL13:=Lib.hid hL;have HNE:=Lib.hid hne
     clear h113 ho hb13 hL hne HPN
     go_wp2_with (first
      |(refine wpList_store_rowTo rfl _ _ _ rfl rfl (h+1) #[.slice A' L c',.int .i64 (kt:Int)] rfl rfl 30 #[.slice none 0 0,.int .i64 0] H113.out szPen2 rfl (by simp[Value.oneCell']) ?_))
     refine bodyPost_ret (cell_pen rfl _ _ (h+1) #[.slice A' L c',.int .i64 (kt:Int)] rfl rfl (setRow_heap _ _ _ _ _ _ H113.out)) rfl ?_
     have ek:KK=kt:=by rw[HKQ.out,if_pos HE0.out,HKT.out]
     have ef:FF=GF:=by rw[HFQ.out,if_pos HE0.out]
     have hGF:∀j,GF j<256:=ROW.out.1.1
     have hown:=own_blk HO13.out (w':=w13.setRow (h+1) #[.slice A' L c',.int .i64 (kt:Int)]) fun j hj=>setRow_other _ _ _ _ (HNE.out j hj)
     rw[ek,ef,HE0.out]
     have hle:w.heap.size=h:=HH.out.symm
     refine⟨A',c',L,HL13.out,rfl,ByR.of_own hown hGF,?_,newB_own (ownsRow_base hown (by rw[hle];have:=HL4.out;omega))⟩
     rw[hle]
     exact below_row9 (HB04.out.trans (HB13.out.mono (by have:=HL4.out;omega))) (by omega) _
   ·have hkn:((kind:Int)==0)=false:=by rw[beq_eq_false_iff_ne];omega
    obtain⟨ca,cb,m1,m2,n1,n3,hsy⟩:=opn_codes kind l (by omega) l2 HOK.out
    have etl:tailP kind rn r l=toksP (opnA kind l) (opnM kind l) (opnB kind l) (opnN kind l) l:=by unfold tailP;rw[if_neg hk0]
    have hpb0:=HPB.out
    have hpu0:=HPU.out
    rw[etl]at hpb0 hpu0
    have hr1:=HR1.out
    have hr2:=HR2.out
    obtain⟨M,hM⟩:∃M,M=opnM kind l:=⟨_,rfl⟩
    obtain⟨N,hN⟩:∃N,N=opnN kind l:=⟨_,rfl⟩
    obtain⟨FA,hFA⟩:∃F,F=opnA kind l:=⟨_,rfl⟩
    obtain⟨FB,hFB⟩:∃F,F=opnB kind l:=⟨_,rfl⟩
    rw[←hM,←hFA]at hr1 ca
    rw[←hN,←hFB]at hr2 cb
    rw[←hM]at m1 m2
    rw[←hN]at n1 n3
    rw[←hM,←hN]at hsy
    rw[←hM,←hN,←hFA,←hFB]at hpb0 hpu0
    rw[←hM,←hN]
    have hcd:=codes11_any w8 A1' M c1' FA hr1 (by omega) (by omega) ca
    have HCD:=Lib.hid hcd;have HRB:=Lib.hid hr2;have HCA:=Lib.hid ca;have HCB:=Lib.hid cb;have HSY:=Lib.hid hsy;have HPB0:=Lib.hid hpb0;have HPU0:=Lib.hid hpu0
    clear hcd hr1 hr2 ca cb hsy hpb0 hpu0 etl hM hN hFA hFB HR1 HR2
    have hmf:∀(fn:Fn) (first cap:Array Value) (w:World),(Instr.makeFunc fn first cap).run Tryz.prog w=.ok (.func fn first cap) w:=fun _ _ _ _=>rfl
    go_wp2_with fail
    refine HCD.out.mono ?_
    rintro e w9 ⟨ga,cga,rfl,hga,hrca,hb9⟩
    have hcd2:=codes11_any w9 A2' N c2' FB ((HRB.out.below hb9 (Nat.le_refl _)).more hb9.size) (by omega) (by omega) HCB.out
    have HCD2:=Lib.hid hcd2;have HRCA:=Lib.hid hrca;have HB9:=Lib.hid hb9
    clear hcd2 hrca hb9 HCD
    go_wp2_with fail
    refine HCD2.out.mono ?_
    rintro e w10 ⟨gb,cgb,rfl,hgb,hrcb,hb10⟩
    have hb810:Below w8.heap.size w8 w10:=HB9.out.trans (hb10.mono HB9.out.size)
    obtain⟨SX,hSX⟩:∃S':Nat→Prop,S'=fun j=>S7 j∨(w8.heap.size≤j∧j<w10.heap.size):=⟨_,rfl⟩
    have hrow10:RowAt w10 SX w4.heap.size g QF (K+O):=by rw[hSX];exact HROW8.out.grow hb810
    have hS9:∀j,S7 j→SX j:=fun j hj=>by rw[hSX];exact .inl hj
    have hB410:Below w4.heap.size w4 w10:=HB48.out.trans (hb810.mono HB48.out.size)
    have hrt10:RdT w10 w10.heap.size A2 l:=(HRT4.out.below hB410 (Nat.le_refl _)).more hB410.size
    have hgal:=HRCA.out.lt
    have hgbl:=hrcb.lt
    have hbk1:BookAt w10 SX ga M FA:=⟨HRCA.out.below hb10 HRCA.out.lt,by rw[hSX];exact .inr ⟨hga,by have:=hb10.size;omega⟩,HCA.out⟩
    have hbk2:BookAt w10 SX gb N FB:=⟨hrcb,by rw[hSX];exact .inr ⟨by have:=HB9.out.size;omega,hgbl⟩,HCB.out⟩
    have htk:=tokens11_any w10 SX w4.heap.size g QF (K+O) A2 m c2 l FA ga M cga FB gb N cgb hrow10 HM.out hrt10 (fun b o h0 e=>hS9 b (HS7A.out b (by have:=HTS.out b o h0 e;have:=HL4.out;omega))) hm2 hbk1 hbk2 (by omega) (by omega) m1 HOK.out HSY.out (by rw[Nat.add_assoc,←HPB0.out];omega)
    rw[←HPU0.out,Nat.add_assoc,←HPB0.out]at htk
    have HTK:=Lib.hid htk;have HB410:=Lib.hid hB410;have HS9:=Lib.hid hS9
    clear htk hB410 hS9 hbk1 hbk2 hrt10 hrow10 hSX hb810 hb10 hrcb hga hgb hgal hgbl HCD2 HROW8 HRCA HB9 HRB
    go_wp2_with fail
    refine HTK.out.mono ?_
    rintro e WX ⟨rfl,t1,_,t3⟩
    have ROW:=Lib.hid (t1.less HS9.out);have HBX:=Lib.hid (HB410.out.trans t3)
    clear t1 t3 HTK HB410
    have hbt2:=rowbits_any WX S7 w4.heap.size g GF (K+T) ROW.out (by omega)
    have HBT2:=Lib.hid hbt2
    clear hbt2
    go_wp2_with fail
    refine HBT2.out.mono ?_
    rintro e w12 ⟨rfl,rfl⟩
    have h112:WX.drew.heap[h+1]?=some (.cells #[.slice none 0 0,.int .i64 0] 30 (0,0)):=(HBX.out.block (h+1) HL4.out).trans H14.out
    have H112:=Lib.hid h112
    clear h112 HBT2
    by_cases hfull:8388608<K+T
    ·have e9:E=9:=by rw[HEE.out,if_pos hfull]
     have hfi:(8388608:Int)<(K:Int)+(T:Int):=by omega
     have hfi2:decide ((8388608:Int)<(K:Int)+(T:Int))=true:=decY0 hfi
     have HE9:=Lib.hid e9
     clear e9
     go_wp2_with (first
      |(refine wpList_buildTo rfl 30 #[] rfl (some 60) rfl #[.slice none 0 0,.int .i64 0] ?_ ?_;focus(simpa[Act.eval]using built_pen0))
      |(refine wpList_store_rowTo rfl _ _ _ rfl rfl (h+1) #[.slice none 0 0,.int .i64 0] rfl rfl 30 #[.slice none 0 0,.int .i64 0] H112.out szPen2 rfl (by simp[Value.oneCell']) ?_))
     refine bodyPost_ret (cell_pen rfl _ _ (h+1) #[.slice none 0 0,.int .i64 0] rfl rfl (setRow_heap _ _ _ _ _ _ H112.out)) rfl ?_
     have hh9:=HERR.out
     rw[HE9.out]at hh9⊢
     refine hh9 _ (by omega) ?_
     rw[←HH.out]
     exact below_row9 (HB04.out.trans ((HBX.out.drew).mono (by have:=HL4.out;omega))) (by omega) _
    ·have e0:E=0:=by rw[HEE.out,if_neg hfull]
     have hfi:¬(8388608:Int)<(K:Int)+(T:Int):=by omega
     have hfi2:decide ((8388608:Int)<(K:Int)+(T:Int))=false:=decN0 hfi
     have HE0:=Lib.hid e0
     clear e0
     have hpn:=rowpen_any WX.drew S7 w4.heap.size g GF (K+T) ROW.out.drew (by omega)
     obtain⟨kt,hkt⟩:∃x,x=K+T:=⟨_,rfl⟩
     rw[←hkt]at hpn
     have ekt:(K:Int)+(T:Int)=(kt:Int):=by omega
     have HPN:=Lib.hid hpn;have HKT:=Lib.hid hkt
     clear hpn hkt
     go_wp2_with fail
     refine HPN.out.mono ?_
     rintro e w13 ⟨A',c',L,hL,rfl,ho,hb13⟩
     have h113:=(hb13.block (h+1) HL4.out).trans H112.out
     have hne:∀j,(Value.slice A' L c').ownBlock=some j→j≠h+1:=fun j hj=>by have:=(own_blk_lt ho j hj).1;have:=HL4.out;omega
     have H113:=Lib.hid h113;have HO13:=Lib.hid ho;have HB13:=Lib.hid (HBX.out.drew.trans hb13);have HL13:=Lib.hid hL;have HNE:=Lib.hid hne
     clear h113 ho hb13 hL hne HPN
     go_wp2_with (first
      |(refine wpList_store_rowTo rfl _ _ _ rfl rfl (h+1) #[.slice A' L c',.int .i64 (kt:Int)] rfl rfl 30 #[.slice none 0 0,.int .i64 0] H113.out szPen2 rfl (by simp[Value.oneCell']) ?_))
     refine bodyPost_ret (cell_pen rfl _ _ (h+1) #[.slice A' L c',.int .i64 (kt:Int)] rfl rfl (setRow_heap _ _ _ _ _ _ H113.out)) rfl ?_
     have ek:KK=kt:=by rw[HKQ.out,if_pos HE0.out,HKT.out]
     have ef:FF=GF:=by rw[HFQ.out,if_pos HE0.out]
     have hGF:∀j,GF j<256:=ROW.out.1.1
     have hown:=own_blk HO13.out (w':=w13.setRow (h+1) #[.slice A' L c',.int .i64 (kt:Int)]) fun j hj=>setRow_other _ _ _ _ (HNE.out j hj)
     rw[ek,ef,HE0.out]
     have hle:w.heap.size=h:=HH.out.symm
     refine⟨A',c',L,HL13.out,rfl,ByR.of_own hown hGF,?_,newB_own (ownsRow_base hown (by rw[hle];have:=HL4.out;omega))⟩
     rw[hle]
     exact below_row9 (HB04.out.trans (HB13.out.mono (by have:=HL4.out;omega))) (by omega) _
  ·have eQ:E=Q:=by rw[he,if_pos q0]
   have hqn:(Q==0)=false:=by rw[beq_eq_false_iff_ne];exact q0
   clear he hkk hff hQ
   go_enter Tryz.func66,Tryz.ntmps66
   go_wp2_with (first
    |(rw[←HW1.out,←HH.out];refine wpList_load_row rfl _ _ rfl h rfl _ #[.slice A n c,.int .i64 (K:Int)] (0,0) _ H0.out Tryz.underlying30 rfl szPen2 ?_)
    |fail)
   refine HPC.out.mono ?_
   rintro e w2 ⟨rfl,hb2⟩
   have HCK2:=Lib.hid (HCK.out w2 hb2)
   have HB12:=Lib.hid hb2
   have HEQ:=Lib.hid eQ
   clear hb2 HCK HPC eQ
   go_wp2_with fail
   refine HCK2.out.mono ?_
   rintro e w4 ⟨rfl,hb4⟩
   have hb14:=HB12.out.trans (hb4.mono HB12.out.size)
   have H14:=Lib.hid ((hb14.block (h+1) HS1.out).trans H1.out)
   have HB04:Hid (Below h w w4):=Lib.hid (HB1.out.trans (hb14.mono (by have:=HS1.out;omega)))
   clear hb4 hb14 HB12 HCK2
   go_wp2_with (first
    |(refine wpList_buildTo rfl 30 #[] rfl (some 29) rfl #[.slice none 0 0,.int .i64 0] ?_ ?_;focus(simpa[Act.eval]using built_pen0))
    |(refine wpList_store_rowTo rfl _ _ _ rfl rfl (h+1) #[.slice none 0 0,.int .i64 0] rfl rfl 30 #[.slice none 0 0,.int .i64 0] H14.out szPen2 rfl (by simp[Value.oneCell']) ?_))
   refine bodyPost_ret (cell_pen rfl _ _ (h+1) #[.slice none 0 0,.int .i64 0] rfl rfl (setRow_heap _ _ _ _ _ _ H14.out)) rfl ?_
   have hh9:=HERR.out
   rw[HEQ.out]at hh9⊢
   refine hh9 _ q0 ?_
   rw[←HH.out]
   exact below_row9 HB04.out (by omega) _
end Go.Proofs.YtokpcpjnihinfaaGreat
namespace Go.Proofs.YtokpcpjnihinfaaGreat
open Go.RowKit Go.ChangeShapes Go.WideShapes Go.ChangeAt Go.Joins
theorem penB_good{p:Prs}(gd:GoodW p):penB (lst p.pen) p.pen.length p.k=true:=by
 have hk:p.k=(p.k.toNat:Int):=by have:=gd.k0;omega
 rw[hk];exact penB_clean gd.clean gd.len (by have:=gd.k7;omega)
theorem wrt_is{p:Prs}(gd:GoodW p){kind:Nat}{raw:List Nat}{l:List Tok}{last:Bool}(hk2:kind≤2)(hr:raw.length≤65535)(hb:BytesP raw)(hl:l.length≤65535)(hok:∀t∈l,mayT t=true∧t.x<256):
  wrtE (lst p.pen) p.pen.length p.k kind raw.length (lst raw) l last=0∧wrtK (lst p.pen) p.pen.length p.k kind raw.length (lst raw) l last=(putP p.pen p.k.toNat kind raw l last).2∧wrtF (lst p.pen) p.pen.length p.k kind raw.length (lst raw) l last=lst (putP p.pen p.k.toNat kind raw l last).1∧(putP p.pen p.k.toNat kind raw l last).2≤4320007:=by
 have hle:=putP_le (k:=p.k.toNat) (kind:=kind) (raw:=raw) (l:=l) (last:=last) hk2 (by have:=gd.k7;omega) hr hb hl hok
 have hask:askW kind raw.length l=0:=by
  unfold askW
  rw[if_neg (by omega),if_neg (by omega),if_pos]
  exact List.all_eq_true.2 fun t ht=>(hok t ht).1
 have hE:wrtE (lst p.pen) p.pen.length p.k kind raw.length (lst raw) l last=0:=by
  unfold wrtE
  rw[penB_good gd,if_neg (by simp),hask,if_neg (by simp),if_neg (by omega)]
 refine⟨hE,?_,?_,hle⟩
 ·unfold wrtK;rw[hE,if_pos rfl];rfl
 ·unfold wrtF
  rw[hE,if_pos rfl,zext_lst]
  show _=lst (preL _ _)
  have hc:=gd.clean.puts (blkP (p.k.toNat%8) kind raw.length (lst raw) l last)
  rw[lst_preL,zext_clean hc rfl]
theorem send_any(w:World)(B g:Nat)(p:Prs)(out:List Nat)(Ah:Option Addr)(hc:Nat)(Aw:Option Addr)(wc:Nat)(Ap:Option Addr)(pc:Nat)(Ao:Option Addr)(oc:Nat)(U:Und w B g p out Ah hc Aw wc Ap pc Ao oc)(gd:GoodW p)(kind:Nat)(hk2:kind≤2)(n:Nat)(hnw:n≤p.wait.length)(hn2:n≤65535)(hb:p.wait.length≤1000000)(hol:out.length≤90000000)
  (A2:Option Addr) (t c2:Nat) (l:List Tok) (ht:TkR w w.heap.size A2 t c2 l) (hl:l.length≤65535) (hok:∀t∈l,mayT t=true∧t.x<256) (last:Bool):
  Calls Tryz.prog 51 #[.pointer (some ⟨g,0,none⟩),.int .u8 (kind:Int),.int .i64 (n:Int),.slice A2 t c2,.bool last] w fun e w'=>e=.returned (.tuple #[])∧(∃Ah' hc' Aw' wc' Ap' pc' Ao' oc',Und w' B g (sendP p kind n l last).1 (out++(sendP p kind n l last).2) Ah' hc' Aw' wc' Ap' pc' Ao' oc')∧Below B w w':=by
 obtain⟨K,hk⟩:∃K:Nat,p.k=(K:Int):=⟨p.k.toNat,by have:=gd.k0;omega⟩
 have hkt:p.k.toNat=K:=by omega
 have hs:=mayS_rng gd.sty
 obtain⟨S,hS⟩:∃S:Nat,p.s=(S:Int):=⟨p.s.toNat,by omega⟩
 have hSt:p.s.toNat=S:=by omega
 have hh:=gd.hist
 obtain⟨raw,hraw⟩:∃r,r=p.wait.take n:=⟨_,rfl⟩
 have hrl:raw.length=n:=by rw[hraw,List.length_take,Nat.min_eq_left hnw]
 have brw:BytesP raw:=by rw[hraw];exact take_mem gd.bw n
 obtain⟨w1,w2,w3,w4⟩:=wrt_is gd (kind:=kind) (raw:=raw) (l:=l) (last:=last) hk2 (by omega) brw hl hok
 obtain⟨Q,hQ⟩:∃Q,Q=putP p.pen p.k.toNat kind raw l last:=⟨_,rfl⟩
 rw[←hQ]at w2 w3 w4
 have hQl:Q.1.length=(Q.2+7)/8:=by rw[hQ];exact putP_len ..
 obtain⟨Q1,hQ1⟩:∃x,x=Q.1:=⟨_,rfl⟩
 obtain⟨QK,hQK⟩:∃x,x=Q.2:=⟨_,rfl⟩
 obtain⟨QL,hQL⟩:∃x,x=Q1.length:=⟨_,rfl⟩
 rw[←hQ1,←hQL,←hQK]at hQl
 rw[←hQK]at w2 w4
 rw[←hQ1]at w3
 have bQ:BytesP Q1:=by
  have hc:=putP_clean gd.clean kind raw l last
  rw[←hQ,←hQ1]at hc
  intro x hx
  obtain⟨i,hi,rfl⟩:=List.mem_iff_getElem.1 hx
  have:=hc.1 i
  unfold lst at this
  rwa[List.getD_eq_getElem?_getD,List.getElem?_eq_getElem hi]at this
 obtain⟨FP,hFP⟩:∃x,x=sendP p kind n l last:=⟨_,rfl⟩
 have eFP:FP=({p with hist:=lastN S (p.hist++raw),pen:=Q1.drop (QK/8),k:=((QK%8:Nat):Int),wait:=p.wait.drop n},Q1.take (QK/8)):=by
  rw[hFP,hQ1,hQK,hQ,hraw,←hSt];rfl
 rw[←hFP]
 have tin:∀t∈l,TokIn t:=fun t ht=>tokIn_may (hok t ht).1 (hok t ht).2
 have tl:t≤1000000:=by have:=ht.1;omega
 have WR:Hid (∀V,Below w.heap.size w V→Calls Tryz.prog 66 #[.agg #[.slice Ap p.pen.length pc,.int .i64 p.k],.int .u8 (kind:Int),.slice Aw n wc,.slice A2 t c2,.bool last] V fun e w'=>∃A' c',e=.returned (.tuple #[.agg #[.slice A' QL c',.int .i64 (QK:Int)],.int .i64 0])∧ByR w' w'.heap.size A' QL c' (lst Q1)∧Below V.heap.size V w'∧NewA V.heap.size A' QL):=Lib.hid fun V hV=>by
  have UV:=U.below hV
  have hrr:ByR V V.heap.size Aw n wc (lst raw):=by
   have h1:=UV.wait
   refine⟨⟨lst_lt brw,fun h0=>?_⟩,h1.2.1,by have:=h1.2.2.1;omega,h1.2.2.2⟩
   obtain⟨b,o,e1,e2,e3⟩:=h1.1.2 (by omega)
   exact⟨b,o,e1,e2,fun j hj=>by rw[hraw,lst_take p.wait hj];exact e3 j (by omega)⟩
  have h1:=write_con V Ap p.pen.length pc (lst p.pen) p.k kind Aw n wc (lst raw) A2 t c2 l last UV.pen (by have:=gd.len;have:=gd.k7;omega) (by omega) (by have:=gd.k7;omega) (by omega) hrr (by omega) ((ht.below hV (Nat.le_refl _)).more hV.size) tl tin
  rw[←hrl]at h1
  rw[w1,w2,w3,hrl]at h1
  refine h1.mono fun e w' ⟨A',c',L,e1,e2,e3,e4,e5⟩=>?_
  have eL:L=QL:=by rw[e1,hQl]
  subst eL
  exact⟨A',c',e2,e3,e4,fun b o h0 e=>by
   obtain⟨g',o',cur,e6,h6,_⟩:=e5 h0
   rw[e]at e6
   injection e6 with e6
   injection e6 with e7 _ _
   omega⟩
 obtain⟨hn,hhn⟩:∃x,x=p.hist.length:=⟨_,rfl⟩
 obtain⟨wn,hwn⟩:∃x,x=p.wait.length:=⟨_,rfl⟩
 obtain⟨pn,hpnn⟩:∃x,x=p.pen.length:=⟨_,rfl⟩
 obtain⟨on,hon⟩:∃x,x=out.length:=⟨_,rfl⟩
 have eX:pgA p Ah hc Aw wc Ap pc Ao out.length oc=#[.int .i64 (S:Int),.int .i64 p.h,.int .i64 p.m,.bool p.z,.slice Ah hn hc,.slice Aw wn wc,.slice Ap pn pc,.int .i64 (K:Int),.bool p.over,(.slice Ao on oc)]:=by
  unfold pgA;rw[←hhn,←hwn,←hpnn,hk,hS,←hon]
 have hx:=U.box
 rw[eX]at hx
 rw[←hpnn,hk]at WR
 have hrow:=U.row.2.2.1
 have hwr:=U.wait.2.2.1
 have RT:Hid (∀V:World,(Instr.sliceAt 22 (.slice Aw wn wc) none (some (.int .i64 (n:Int))) none).run Tryz.prog V=.ok (.slice Aw n wc) V):=Lib.hid fun V=>run_to Aw wn wc n (by omega) V
 obtain⟨q,hq⟩:∃q,q=hn+n-S:=⟨_,rfl⟩
 have SUB:Hid (∀V:World,(binOp .sub 3 (.int .i64 ((hn+n:Nat):Int)) (.int .i64 (S:Int))).run Tryz.prog V=.ok (.int .i64 (((hn+n:Nat):Int)-(S:Int))) V):=Lib.hid fun V=>sub_nat _ _ _ _ (by omega) (by omega) V
 have MX:Hid ((if(((hn+n:Nat):Int)-(S:Int))>0 then(((hn+n:Nat):Int)-(S:Int))else 0)=(q:Int)):=Lib.hid (by split<;>omega)
 obtain⟨A9,hA9⟩:∃A9,(if hc=q then Ah else Ah.map (·.add q))=A9:=⟨_,rfl⟩
 obtain⟨A6,hA6⟩:∃A6,(if wc=n then Aw else Aw.map (·.add n))=A6:=⟨_,rfl⟩
 have RF9:Hid (∀V,(Instr.sliceAt 22 (.slice Ah (hn+n) hc) (some (.int .i64 (q:Int))) none none).run Tryz.prog V=.ok (.slice A9 (hn+n-q) (hc-q)) V):=Lib.hid fun V=>run_from Ah A9 (hn+n) hc q (by omega) hA9 V
 have RF6:Hid (∀V,(Instr.sliceAt 22 (.slice Aw wn wc) (some (.int .i64 (n:Int))) none none).run Tryz.prog V=.ok (.slice A6 (wn-n) (wc-n)) V):=Lib.hid fun V=>run_from Aw A6 wn wc n (by omega) hA6 V
 have hlN:(lastN S (p.hist++raw)).length=hn+n-q:=by unfold lastN;rw[List.length_drop,List.length_append,hrl,←hhn];omega
 have eT:(p.hist++p.wait).drop q=lastN S (p.hist++raw)++p.wait.drop n:=by
  have e1:p.hist++p.wait=(p.hist++raw)++p.wait.drop n:=by rw[hraw,List.append_assoc,List.take_append_drop]
  rw[e1,List.drop_append_of_le_length (by rw[List.length_append,hrl];omega)]
  unfold lastN
  rw[List.length_append,hrl,←hhn,hq]
 have hgd:Hid (GoodW p):=Lib.hid gd
 have UST:Hid (∀V,Und V B g p out Ah hc Aw wc Ap pc Ao oc→∀(A':Option Addr) (c':Nat),ByR V V.heap.size A' QL c' (lst Q1)→NoIn A' QL (.slice Ao out.length oc)→Und ((V.setCell ⟨g,6,none⟩ (.slice A' QL c')).setCell ⟨g,7,none⟩ (.int .i64 (QK:Int))) B g {p with pen:=Q1,k:=(QK:Int)} out Ah hc Aw wc A' c' Ao oc):=Lib.hid fun V UV A' c' r nr=>
  UV.set2 (p':={p with pen:=Q1,k:=(QK:Int)}) 6 7 _ _ (by unfold pgA;simp only[←hQL];rfl) UV.row UV.wait (by show ByR V _ A' Q1.length c' _;rw[←hQL];exact r) UV.nr UV.nw (by show NoIn A' Q1.length _;rw[←hQL];exact nr)
 have UEN:Hid (∀V (A7:Option Addr) (c7:Nat) (A8:Option Addr) (c8:Nat),Und V B g {p with pen:=Q1.drop (QK/8),k:=((QK%8:Nat):Int)} (out++Q1.take (QK/8)) Ah hc Aw wc A7 c7 A8 c8→Und ((V.setCell ⟨g,4,none⟩ (.slice A9 (hn+n-q) (hc-q))).setCell ⟨g,5,none⟩ (.slice A6 (wn-n) (wc-n))) B g FP.1 (out++FP.2) A9 (hc-q) A6 (wc-n) A7 c7 A8 c8):=Lib.hid fun V A7 c7 A8 c8 UV=>by
  rw[eFP]
  have hdl:(p.wait.drop n).length=wn-n:=by rw[List.length_drop,←hwn]
  have hrw:=UV.row
  have hnr:=UV.nr
  have hww:=UV.wait
  have hnw:=UV.nw
  have e1:({p with pen:=Q1.drop (QK/8),k:=((QK%8:Nat):Int)}:Prs).hist.length=hn:=hhn.symm
  have e2:({p with pen:=Q1.drop (QK/8),k:=((QK%8:Nat):Int)}:Prs).wait.length=wn:=hwn.symm
  rw[e1,e2]at hrw hnr
  rw[e2]at hww hnw
  have a1:ByR V V.heap.size A9 (hn+wn-q) (hc-q) (lst (lastN S (p.hist++raw)++p.wait.drop n)):=by
   have:=hrw.from (q:=q) (by omega) hA9
   rwa[show({p with pen:=Q1.drop (QK/8),k:=((QK%8:Nat):Int)}:Prs).hist++({p with pen:=Q1.drop (QK/8),k:=((QK%8:Nat):Int)}:Prs).wait=p.hist++p.wait from rfl,eT]at this
  have a2:ByR V V.heap.size A6 (wn-n) (wc-n) (lst (p.wait.drop n)):=hww.from (q:=n) (by omega) hA6
  have b1:=hnr.from (q:=q) (by omega) hA9 hrw.at
  have b2:=hnw.from (q:=n) (by omega) hA6 hww.at
  exact UV.set2 (p':={p with hist:=lastN S (p.hist++raw),pen:=Q1.drop (QK/8),k:=((QK%8:Nat):Int),wait:=p.wait.drop n}) 4 5 _ _ (by unfold pgA;simp only[hlN,hdl];rfl)
   (by show ByR V _ A9 ((lastN S (p.hist++raw)).length+(p.wait.drop n).length) _ _;rw[hlN,hdl,show hn+n-q+(wn-n)=hn+wn-q by omega];exact a1)
   (by show ByR V _ A6 (p.wait.drop n).length _ _;rw[hdl];exact a2) UV.pen
   (by show NoIn A9 ((lastN S (p.hist++raw)).length+(p.wait.drop n).length) _;rw[hlN,hdl,show hn+n-q+(wn-n)=hn+wn-q by omega];exact b1)
   (by show NoIn A6 (p.wait.drop n).length _;rw[hdl];exact b2) UV.np
 have XEN:Hid (∀(A7:Option Addr) (c7:Nat) (A8:Option Addr) (c8:Nat) (V:World),Und V B g {p with pen:=Q1.drop (QK/8),k:=((QK%8:Nat):Int)} (out++Q1.take (QK/8)) Ah hc Aw wc A7 c7 A8 c8→∃qn om:Nat,BoxC V g #[.int .i64 (S:Int),.int .i64 p.h,.int .i64 p.m,.bool p.z,.slice Ah hn hc,.slice Aw wn wc,.slice A7 qn c7,.int .i64 ((QK%8:Nat):Int),.bool p.over,.slice A8 om c8] 62):=Lib.hid fun A7 c7 A8 c8 V UV=>by
  have h1:=UV.box
  unfold pgA at h1
  simp only[←hhn,←hwn,hS]at h1
  exact⟨_,_,h1⟩
 have HX:=Lib.hid hx;have HU:=Lib.hid U;have HQL:=Lib.hid hQl;have HOL:=Lib.hid hol;have HW4:=Lib.hid w4;have HQLL:=Lib.hid hQL
 have HT:Hid (∀V,Und V B g {p with pen:=Q1.drop (QK/8),k:=((QK%8:Nat):Int)} (out++Q1.take (QK/8)) Ah hc Aw wc Ap pc Ao oc→True):=Lib.hid fun _ _=>trivial
 have HTX:Hid (∀(A7:Option Addr) (c7:Nat) (A8:Option Addr) (c8:Nat) (V:World),Und V B g {p with pen:=Q1.drop (QK/8),k:=((QK%8:Nat):Int)} (out++Q1.take (QK/8)) Ah hc Aw wc A7 c7 A8 c8→Calls Tryz.prog 65 #[.pointer (some ⟨g,0,none⟩),.int .i64 (n:Int)] V fun e w'=>e=.returned (.slice Ah (hn+n) hc)∧Below V.heap.size V w'):=Lib.hid fun A7 c7 A8 c8 V UV=>by
  have:=ptext_any V B g _ _ Ah hc Aw wc A7 c7 A8 c8 UV (QK%8) rfl n (by show n≤p.wait.length;omega) (by show p.hist.length+p.wait.length≤2000000;omega)
  rw[hhn];exact this
 have HGA:Hid (∀V (A':Option Addr) (c':Nat),Und V B g {p with pen:=Q1,k:=(QK:Int)} out Ah hc Aw wc A' c' Ao oc→Calls Tryz.prog 48 #[.pointer (some ⟨g,0,none⟩)] V fun e w'=>e=.returned (.tuple #[])∧(∃Ap' pc' Ao' oc',Und w' B g {p with pen:=Q1.drop (QK/8),k:=((QK%8:Nat):Int)} (out++Q1.take (QK/8)) Ah hc Aw wc Ap' pc' Ao' oc')∧Below B V w'):=Lib.hid fun V A' c' UV=>
  gather_any V B g _ out Ah hc Aw wc A' c' Ao oc UV QK rfl (by omega) (by show QK/8≤Q1.length;omega) (by omega)
 have HLE:=Lib.hid U.le
 clear HT U gd hk2 hnw hn2 hb hol ht hl hok hk hkt hs hSt hh hraw hrl brw w1 w2 w3 w4 hQ hQl hQ1 hQK hQL bQ hFP eFP tin tl hhn hwn hpnn hon eX hx hrow hwr hq hA9 hA6 hlN eT hgd hS
 go_enter Tryz.func51,Tryz.ntmps51
 go_wp2_with fail
 refine wp_region_tabf 23 19 _ rfl rfl 30 rfl (tabT [fun v _=>v=.pointer (some ⟨g,0,none⟩),fun v _=>v=.pointer (some ⟨g,0,none⟩),fun v _=>v=.pointer (some ⟨g,0,none⟩),fun v _=>v=.pointer (some ⟨g,0,none⟩),fun v _=>v=.pointer (some ⟨g,6,none⟩),fun v _=>v=.agg #[.slice Ap pn pc,.int .i64 (K:Int)],fun v _=>v=.int .u8 (kind:Int),fun v _=>v=.pointer (some ⟨g,0,none⟩),fun v _=>v=.pointer (some ⟨g,0,none⟩),fun v _=>v=.pointer (some ⟨g,0,none⟩),fun v _=>v=.pointer (some ⟨g,5,none⟩),fun v _=>v=.slice Aw wn wc,fun v _=>v=.int .i64 (n:Int),fun v _=>v=.slice Aw n wc,fun v _=>v=.slice A2 t c2,fun v _=>v=.bool last,fun v W=>∃A' c',v=.tuple #[.agg #[.slice A' QL c',.int .i64 (QK:Int)],.int .i64 0]∧ByR W W.heap.size A' QL c' (lst Q1)∧NewA w.heap.size A' QL,fun v W=>∃A' c',v=.tuple #[.agg #[.slice A' QL c',.int .i64 (QK:Int)],.int .i64 0]∧ByR W W.heap.size A' QL c' (lst Q1)∧NewA w.heap.size A' QL,fun v W=>∃A' c',v=.agg #[.slice A' QL c',.int .i64 (QK:Int)]∧ByR W W.heap.size A' QL c' (lst Q1)∧NewA w.heap.size A' QL,fun v _=>v=.int .i64 0,fun v _=>v=.pointer (some ⟨g,0,none⟩),fun v _=>v=.pointer (some ⟨g,0,none⟩),fun v _=>v=.pointer (some ⟨g,6,none⟩)]) w (Below.refl _ _) (by kernel_rfl) (by kernel_rfl) (fun _ _ _ _ h=>h) (fun aa wv hb ha hS=>by have hs:=hS 17 11 (by kernel_rfl) rfl;obtain⟨a1,a2,e1,r1,r2⟩:=hs.here;exact⟨_,float_extract _ _ rfl _ (.int .i64 0) e1 (fun w=>by go_simp),up_eq rfl⟩) ?_ ?_
 case refine_1=>
  simp only[List.take_succ_cons,List.take_zero]
  refine TabAll.cons (fun aa wv hb ha hS Kk Qq hK=>tab_move (tab_free rfl) _ rfl (up_eq ((ha 0 (by kernel_rfl)).trans rfl)) hK) ?_
  refine TabAll.cons (fun aa wv hb ha hS Kk Qq hK=>tab_move (tab_free rfl) _ rfl (up_eq ((ha 0 (by kernel_rfl)).trans rfl)) hK) ?_
  refine TabAll.cons (fun aa wv hb ha hS Kk Qq hK=>tab_nil (tab_free rfl) _ rfl _ (show aa.eval (.tmp 13)=.pointer (some ⟨g,0,none⟩)from(hS 1 13 (by kernel_rfl) rfl).here) (up_eq rfl) hK) ?_
  refine TabAll.cons (fun aa wv hb ha hS Kk Qq hK=>tab_field (tab_free rfl) _ _ _ rfl _ (.pointer (some ⟨g,0,none⟩)) (show aa.eval (.tmp 14)=.pointer (some ⟨g,0,none⟩)from(hS 2 14 (by kernel_rfl) rfl).here) (by go_simp) (up_eq rfl) hK) ?_
  refine TabAll.cons (fun aa wv hb ha hS Kk Qq hK=>tab_field (tab_free rfl) _ _ _ rfl _ (.pointer (some ⟨g,6,none⟩)) (show aa.eval (.tmp 15)=.pointer (some ⟨g,0,none⟩)from(hS 3 15 (by kernel_rfl) rfl).here) (by go_simp) (up_eq rfl) hK) ?_
  refine TabAll.cons (fun aa wv hb ha hS Kk Qq hK=>tab_row (tab_free rfl) _ _ rfl g 6 (show aa.eval (.tmp 16)=.pointer (some ⟨g,6,none⟩)from(hS 4 16 (by kernel_rfl) rfl).here) [.slice Ap pn pc,.int .i64 (K:Int)] _ (rangeMid (HX.out.below hb HX.out.lt) 6 [.slice Ap pn pc,.int .i64 (K:Int)] (fun i hi=>by rcases i with _|_|i<;>first|rfl|(simp at hi;omega))) Tryz.underlying30 rfl (szPen11L _ _) (up_eq rfl) hK) ?_
  refine TabAll.cons (fun aa wv hb ha hS Kk Qq hK=>tab_move (tab_free rfl) _ rfl (up_eq ((ha 1 (by kernel_rfl)).trans rfl)) hK) ?_
  refine TabAll.cons (fun aa wv hb ha hS Kk Qq hK=>tab_move (tab_free rfl) _ rfl (up_eq ((ha 0 (by kernel_rfl)).trans rfl)) hK) ?_
  refine TabAll.cons (fun aa wv hb ha hS Kk Qq hK=>tab_nil (tab_free rfl) _ rfl _ (show aa.eval (.tmp 19)=.pointer (some ⟨g,0,none⟩)from(hS 7 19 (by kernel_rfl) rfl).here) (up_eq rfl) hK) ?_
  refine TabAll.cons (fun aa wv hb ha hS Kk Qq hK=>tab_field (tab_free rfl) _ _ _ rfl _ (.pointer (some ⟨g,0,none⟩)) (show aa.eval (.tmp 20)=.pointer (some ⟨g,0,none⟩)from(hS 8 20 (by kernel_rfl) rfl).here) (by go_simp) (up_eq rfl) hK) ?_
  refine TabAll.cons (fun aa wv hb ha hS Kk Qq hK=>tab_field (tab_free rfl) _ _ _ rfl _ (.pointer (some ⟨g,5,none⟩)) (show aa.eval (.tmp 21)=.pointer (some ⟨g,0,none⟩)from(hS 9 21 (by kernel_rfl) rfl).here) (by go_simp) (up_eq rfl) hK) ?_
  refine TabAll.cons (fun aa wv hb ha hS Kk Qq hK=>tab_load (tab_free rfl) _ _ rfl _ (.slice Aw wn wc) (show aa.eval (.tmp 22)=.pointer (some ⟨g,5,none⟩)from(hS 10 22 (by kernel_rfl) rfl).here) (by have hc:wv.cell? ⟨g,5,none⟩=some (.slice Aw wn wc):=(HX.out.below hb HX.out.lt).cell.trans rfl;go_simp) (up_eq rfl) hK) ?_
  refine TabAll.cons (fun aa wv hb ha hS Kk Qq hK=>tab_move (tab_free rfl) _ rfl (up_eq ((ha 2 (by kernel_rfl)).trans rfl)) hK) ?_
  refine TabAll.cons (fun aa wv hb ha hS Kk Qq hK=>tab_slice (tab_free rfl) _ _ _ _ _ rfl (.slice Aw wn wc) (.slice Aw n wc) none (some (.int .i64 (n:Int))) none (show aa.eval (.tmp 23)=.slice Aw wn wc from(hS 11 23 (by kernel_rfl) rfl).here) rfl (congrArg some (show aa.eval (.tmp 24)=.int .i64 (n:Int)from(hS 12 24 (by kernel_rfl) rfl).here)) rfl (RT.out wv) (up_eq rfl) hK) ?_
  refine TabAll.cons (fun aa wv hb ha hS Kk Qq hK=>tab_move (tab_free rfl) _ rfl (up_eq ((ha 3 (by kernel_rfl)).trans rfl)) hK) ?_
  refine TabAll.cons (fun aa wv hb ha hS Kk Qq hK=>tab_move (tab_free rfl) _ rfl (up_eq ((ha 4 (by kernel_rfl)).trans rfl)) hK) ?_
  refine TabAll.cons (fun aa wv hb ha hS Kk Qq hK=>tab_call (tab_free rfl) 66 _ _ rfl (enters_of Tryz.func66 (by kernel_rfl) rfl) #[.agg #[.slice Ap pn pc,.int .i64 (K:Int)],.int .u8 (kind:Int),.slice Aw n wc,.slice A2 t c2,.bool last] (by simp[(show aa.eval (.tmp 17)=.agg #[.slice Ap pn pc,.int .i64 (K:Int)]from(hS 5 17 (by kernel_rfl) rfl).here),(show aa.eval (.tmp 18)=.int .u8 (kind:Int)from(hS 6 18 (by kernel_rfl) rfl).here),(show aa.eval (.tmp 25)=.slice Aw n wc from(hS 13 25 (by kernel_rfl) rfl).here),(show aa.eval (.tmp 26)=.slice A2 t c2 from(hS 14 26 (by kernel_rfl) rfl).here),(show aa.eval (.tmp 27)=.bool last from(hS 15 27 (by kernel_rfl) rfl).here)]) (WR.out wv hb) (fun ee w' ⟨A',c',h1,h2,h3,h4⟩=>⟨_,h1,h3,fun W hW=>⟨_,_,rfl,(h2.below hW (Nat.le_refl _)).more hW.size,fun b o h0 e=>Nat.le_trans hb.size (h4 b o h0 e)⟩⟩) hK) ?_
  refine TabAll.cons (fun aa wv hb ha hS Kk Qq hK=>tab_move (tab_free rfl) _ rfl (hS 16 28 (by kernel_rfl) rfl) hK) ?_
  refine TabAll.cons (fun aa wv hb ha hS Kk Qq hK=>by have hs:=hS 17 11 (by kernel_rfl) rfl;obtain⟨a1,a2,e1,r1,r2⟩:=hs.here;exact tab_extract (tab_free rfl) _ _ rfl _ _ e1 (by go_simp) (fun W hW=>⟨_,_,rfl,(r1.below hW (Nat.le_refl _)).more hW.size,r2⟩) hK) ?_
  refine TabAll.cons (fun aa wv hb ha hS Kk Qq hK=>by have hs:=hS 17 11 (by kernel_rfl) rfl;obtain⟨a1,a2,e1,r1,r2⟩:=hs.here;exact tab_extract (tab_free rfl) _ _ rfl _ _ e1 (by go_simp) (up_eq rfl) hK) ?_
  refine TabAll.cons (fun aa wv hb ha hS Kk Qq hK=>tab_nil (tab_free rfl) _ rfl _ (show aa.eval (.tmp 12)=.pointer (some ⟨g,0,none⟩)from(hS 0 12 (by kernel_rfl) rfl).here) (up_eq rfl) hK) ?_
  refine TabAll.cons (fun aa wv hb ha hS Kk Qq hK=>tab_field (tab_free rfl) _ _ _ rfl _ (.pointer (some ⟨g,0,none⟩)) (show aa.eval (.tmp 31)=.pointer (some ⟨g,0,none⟩)from(hS 20 31 (by kernel_rfl) rfl).here) (by go_simp) (up_eq rfl) hK) ?_
  refine TabAll.cons (fun aa wv hb ha hS Kk Qq hK=>tab_field (tab_free rfl) _ _ _ rfl _ (.pointer (some ⟨g,6,none⟩)) (show aa.eval (.tmp 32)=.pointer (some ⟨g,0,none⟩)from(hS 21 32 (by kernel_rfl) rfl).here) (by go_simp) (up_eq rfl) hK) ?_
  exact TabAll.nil
 intro vals w5 hb hv
 obtain⟨A',c',e29,r29,n29⟩:=(hv 18 29 rfl).here
 have e33:vals 33=.pointer (some ⟨g,6,none⟩):=(hv 22 33 rfl).here
 have U5:=HU.out.below hb
 have x5:=HX.out.below hb HX.out.lt
 have s6:w5.cell? ⟨g,6,none⟩=some (.slice Ap pn pc):=x5.cell.trans rfl
 have s7:w5.cell? ⟨g,7,none⟩=some (.int .i64 (K:Int)):=x5.cell.trans rfl
 have f6:w5.frozen? ⟨g,6,none⟩=false:=x5.free
 have f7:w5.frozen? ⟨g,7,none⟩=false:=x5.free
 have nr:NoIn A' QL (.slice Ao out.length oc):=fun b o h0 e hx=>by
  have h1:=n29 b o h0 e
  have h2:=(own_blk_lt HU.out.own b hx).2
  omega
 obtain⟨W6,hW6⟩:∃W,W=(w5.setCell ⟨g,6,none⟩ (.slice A' QL c')).setCell ⟨g,7,none⟩ (.int .i64 (QK:Int)):=⟨_,rfl⟩
 have U6:=UST.out w5 U5 A' c' r29 nr
 rw[←hW6]at U6
 have hb6:Below B w W6:=by rw[hW6];exact below_cell (below_cell (hb.mono (by have:=HLE.out;have:=HU.out.lt;omega)) HLE.out _ _) HLE.out _ _
 have HG:=Lib.hid (HGA.out W6 A' c' U6)
 have HW6:=Lib.hid hW6;have HB6:=Lib.hid hb6
 clear x5 hb hv U5 hW6 nr r29 n29 U6 hb6
 simp only[List.take_succ_cons,List.take_zero,List.drop_succ_cons,List.drop_zero,List.map_cons,List.map_nil,putL,Act.put,List.setIfInBounds_toArray,List.set_cons_zero,List.set_cons_succ,e29,e33]
 clear e29 e33
 go_wp2_with (first|(rw[←HW6.out])|fail)
 refine HG.out.mono ?_
 rintro e w7 ⟨rfl,⟨A7,c7,A8,c8,U7⟩,hb7⟩
 have HT7:=Lib.hid (HTX.out A7 c7 A8 c8 w7 U7)
 have HU7:=Lib.hid U7;have HB7:=Lib.hid (HB6.out.trans hb7)
 clear U7 hb7 s6 s7 f6 f7 HG HW6 HB6
 go_wp2_with fail
 refine HT7.out.mono ?_
 rintro e w8 ⟨rfl,hb8⟩
 have U8:=HU7.out.below hb8
 obtain⟨qn,om,x8⟩:=XEN.out A7 c7 A8 c8 w8 U8
 obtain⟨R,hR⟩:∃R,R=QK%8:=⟨_,rfl⟩
 rw[←hR]at x8
 have HU8:=Lib.hid U8;have HX8:=Lib.hid x8;have HB8:=Lib.hid (HB7.out.trans (hb8.mono (by have:=HLE.out;have:=HU7.out.lt;omega)))
 clear U8 x8 hR hb8 HT7
 go_wp2_with fail
 refine wp_region_tabg 24 [1,19,20] (tabT [fun v _=>v=.pointer (some ⟨g,0,none⟩),fun v _=>v=.pointer (some ⟨g,0,none⟩),fun v _=>v=.slice Ah (hn+n) hc,fun v _=>v=.slice Ah (hn+n) hc,fun v _=>v=.int .i64 ((hn+n:Nat):Int),fun v _=>v=.pointer (some ⟨g,0,none⟩),fun v _=>v=.pointer (some ⟨g,0,none⟩),fun v _=>v=.pointer (some ⟨g,0,none⟩),fun v _=>v=.pointer (some ⟨g,0,none⟩),fun v _=>v=.pointer (some ⟨g,0,none⟩),fun v _=>v=.int .i64 (S:Int),fun v _=>v=.int .i64 (((hn+n:Nat):Int)-(S:Int)),fun v _=>v=.int .i64 (q:Int),fun v _=>v=.slice A9 (hn+n-q) (hc-q),fun v _=>v=.pointer (some ⟨g,0,none⟩),fun v _=>v=.pointer (some ⟨g,0,none⟩),fun v _=>v=.pointer (some ⟨g,0,none⟩),fun v _=>v=.pointer (some ⟨g,5,none⟩),fun v _=>v=.slice Aw wn wc,fun v _=>v=.int .i64 (n:Int),fun v _=>v=.slice A6 (wn-n) (wc-n),fun v _=>v=.pointer (some ⟨g,0,none⟩),fun v _=>v=.pointer (some ⟨g,0,none⟩),fun v _=>v=.pointer (some ⟨g,4,none⟩)]) w8 (Below.refl _ _) (by kernel_rfl) (by kernel_rfl) (List.forall_mem_cons.2 ⟨⟨_,_,rfl,rfl,rfl,(fun _ _ _ _ h=>h),fun aa wv hb ha hS=>⟨_,float_move _ rfl _ ((ha 0 (by kernel_rfl)).trans rfl),up_eq rfl⟩⟩,(List.forall_mem_cons.2 ⟨⟨_,_,rfl,rfl,rfl,(fun _ _ _ _ h=>h),fun aa wv hb ha hS=>⟨_,float_move _ rfl _ ((ha 2 (by kernel_rfl)).trans rfl),up_eq rfl⟩⟩,(List.forall_mem_cons.2 ⟨⟨_,_,rfl,rfl,rfl,(fun _ _ _ _ h=>h),fun aa wv hb ha hS=>⟨_,float_slice _ _ (some (.tmp 58)) none none rfl (.slice Aw wn wc) (.slice A6 (wn-n) (wc-n)) (some (.int .i64 (n:Int))) none none (show aa.eval (.tmp 57)=.slice Aw wn wc from(hS 18 57 (by kernel_rfl) rfl).here) (congrArg some (show aa.eval (.tmp 58)=.int .i64 (n:Int)from(hS 19 58 (by kernel_rfl) rfl).here)) rfl rfl RF6.out,up_eq rfl⟩⟩,(fun _ h=>by cases h)⟩)⟩)⟩) ?_ ?_
 case refine_1=>
  simp only[List.take_succ_cons,List.take_zero]
  refine TabAll.cons (fun aa wv hb ha hS Kk Qq hK=>tab_move (tab_free rfl) _ rfl (up_eq ((ha 0 (by kernel_rfl)).trans rfl)) hK) ?_
  refine TabAll.cons (fun aa wv hb ha hS Kk Qq hK=>tab_move (tab_free rfl) _ rfl (up_eq ((ha 0 (by kernel_rfl)).trans rfl)) hK) ?_
  refine TabAll.cons (fun aa wv hb ha hS Kk Qq hK=>tab_move (tab_free rfl) _ rfl (up_eq ((ha 10 (by kernel_rfl)).trans rfl)) hK) ?_
  refine TabAll.cons (fun aa wv hb ha hS Kk Qq hK=>tab_move (tab_free rfl) _ rfl (up_eq ((ha 10 (by kernel_rfl)).trans rfl)) hK) ?_
  refine TabAll.cons (fun aa wv hb ha hS Kk Qq hK=>tab_len (tab_free rfl) _ _ rfl Ah (hn+n) hc (show aa.eval (.tmp 42)=.slice Ah (hn+n) hc from(hS 3 42 (by kernel_rfl) rfl).here) Tryz.underlying22 (up_eq rfl) hK) ?_
  refine TabAll.cons (fun aa wv hb ha hS Kk Qq hK=>tab_move (tab_free rfl) _ rfl (up_eq ((ha 0 (by kernel_rfl)).trans rfl)) hK) ?_
  refine TabAll.cons (fun aa wv hb ha hS Kk Qq hK=>tab_nil (tab_free rfl) _ rfl _ (show aa.eval (.tmp 44)=.pointer (some ⟨g,0,none⟩)from(hS 5 44 (by kernel_rfl) rfl).here) (up_eq rfl) hK) ?_
  refine TabAll.cons (fun aa wv hb ha hS Kk Qq hK=>tab_field (tab_free rfl) _ _ _ rfl _ (.pointer (some ⟨g,0,none⟩)) (show aa.eval (.tmp 45)=.pointer (some ⟨g,0,none⟩)from(hS 6 45 (by kernel_rfl) rfl).here) (by go_simp) (up_eq rfl) hK) ?_
  refine TabAll.cons (fun aa wv hb ha hS Kk Qq hK=>tab_field (tab_free rfl) _ _ _ rfl _ (.pointer (some ⟨g,0,none⟩)) (show aa.eval (.tmp 46)=.pointer (some ⟨g,0,none⟩)from(hS 7 46 (by kernel_rfl) rfl).here) (by go_simp) (up_eq rfl) hK) ?_
  refine TabAll.cons (fun aa wv hb ha hS Kk Qq hK=>tab_field (tab_free rfl) _ _ _ rfl _ (.pointer (some ⟨g,0,none⟩)) (show aa.eval (.tmp 47)=.pointer (some ⟨g,0,none⟩)from(hS 8 47 (by kernel_rfl) rfl).here) (by go_simp) (up_eq rfl) hK) ?_
  refine TabAll.cons (fun aa wv hb ha hS Kk Qq hK=>tab_load (tab_free rfl) _ _ rfl _ (.int .i64 (S:Int)) (show aa.eval (.tmp 48)=.pointer (some ⟨g,0,none⟩)from(hS 9 48 (by kernel_rfl) rfl).here) (by have hc:wv.cell? ⟨g,0,none⟩=some (.int .i64 (S:Int)):=(HX8.out.below hb HX8.out.lt).cell.trans rfl;go_simp) (up_eq rfl) hK) ?_
  refine TabAll.cons (fun aa wv hb ha hS Kk Qq hK=>tab_bin (tab_free rfl) _ _ _ _ _ rfl _ _ (.int .i64 (((hn+n:Nat):Int)-(S:Int))) (show aa.eval (.tmp 43)=.int .i64 ((hn+n:Nat):Int)from(hS 4 43 (by kernel_rfl) rfl).here) (show aa.eval (.tmp 49)=.int .i64 (S:Int)from(hS 10 49 (by kernel_rfl) rfl).here) (eqg_no _ _ _ _ _ _ _ (by decide) (by decide) _) (SUB.out wv) (up_eq rfl) hK) ?_
  refine TabAll.cons (fun aa wv hb ha hS Kk Qq hK=>tab_max (tab_free rfl) _ _ _ _ rfl 0 (((hn+n:Nat):Int)-(S:Int)) (q:Int) rfl (show aa.eval (.tmp 50)=.int .i64 (((hn+n:Nat):Int)-(S:Int))from(hS 11 50 (by kernel_rfl) rfl).here) MX.out (up_eq rfl) hK) ?_
  refine TabAll.cons (fun aa wv hb ha hS Kk Qq hK=>tab_slice (tab_free rfl) _ _ _ _ _ rfl (.slice Ah (hn+n) hc) (.slice A9 (hn+n-q) (hc-q)) (some (.int .i64 (q:Int))) none none (show aa.eval (.tmp 41)=.slice Ah (hn+n) hc from(hS 2 41 (by kernel_rfl) rfl).here) (congrArg some (show aa.eval (.tmp 51)=.int .i64 (q:Int)from(hS 12 51 (by kernel_rfl) rfl).here)) rfl rfl (RF9.out wv) (up_eq rfl) hK) ?_
  refine TabAll.cons (fun aa wv hb ha hS Kk Qq hK=>tab_move (tab_free rfl) _ rfl (up_eq ((ha 0 (by kernel_rfl)).trans rfl)) hK) ?_
  refine TabAll.cons (fun aa wv hb ha hS Kk Qq hK=>tab_nil (tab_free rfl) _ rfl _ (show aa.eval (.tmp 53)=.pointer (some ⟨g,0,none⟩)from(hS 14 53 (by kernel_rfl) rfl).here) (up_eq rfl) hK) ?_
  refine TabAll.cons (fun aa wv hb ha hS Kk Qq hK=>tab_field (tab_free rfl) _ _ _ rfl _ (.pointer (some ⟨g,0,none⟩)) (show aa.eval (.tmp 54)=.pointer (some ⟨g,0,none⟩)from(hS 15 54 (by kernel_rfl) rfl).here) (by go_simp) (up_eq rfl) hK) ?_
  refine TabAll.cons (fun aa wv hb ha hS Kk Qq hK=>tab_field (tab_free rfl) _ _ _ rfl _ (.pointer (some ⟨g,5,none⟩)) (show aa.eval (.tmp 55)=.pointer (some ⟨g,0,none⟩)from(hS 16 55 (by kernel_rfl) rfl).here) (by go_simp) (up_eq rfl) hK) ?_
  refine TabAll.cons (fun aa wv hb ha hS Kk Qq hK=>tab_load (tab_free rfl) _ _ rfl _ (.slice Aw wn wc) (show aa.eval (.tmp 56)=.pointer (some ⟨g,5,none⟩)from(hS 17 56 (by kernel_rfl) rfl).here) (by have hc:wv.cell? ⟨g,5,none⟩=some (.slice Aw wn wc):=(HX8.out.below hb HX8.out.lt).cell.trans rfl;go_simp) (up_eq rfl) hK) ?_
  refine TabAll.cons (fun aa wv hb ha hS Kk Qq hK=>tab_move (tab_free rfl) _ rfl (up_eq ((ha 2 (by kernel_rfl)).trans rfl)) hK) ?_
  refine TabAll.cons (fun aa wv hb ha hS Kk Qq hK=>tab_slice (tab_free rfl) _ _ _ _ _ rfl (.slice Aw wn wc) (.slice A6 (wn-n) (wc-n)) (some (.int .i64 (n:Int))) none none (show aa.eval (.tmp 57)=.slice Aw wn wc from(hS 18 57 (by kernel_rfl) rfl).here) (congrArg some (show aa.eval (.tmp 58)=.int .i64 (n:Int)from(hS 19 58 (by kernel_rfl) rfl).here)) rfl rfl (RF6.out wv) (up_eq rfl) hK) ?_
  refine TabAll.cons (fun aa wv hb ha hS Kk Qq hK=>tab_nil (tab_free rfl) _ rfl _ (show aa.eval (.tmp 39)=.pointer (some ⟨g,0,none⟩)from(hS 0 39 (by kernel_rfl) rfl).here) (up_eq rfl) hK) ?_
  refine TabAll.cons (fun aa wv hb ha hS Kk Qq hK=>tab_field (tab_free rfl) _ _ _ rfl _ (.pointer (some ⟨g,0,none⟩)) (show aa.eval (.tmp 60)=.pointer (some ⟨g,0,none⟩)from(hS 21 60 (by kernel_rfl) rfl).here) (by go_simp) (up_eq rfl) hK) ?_
  refine TabAll.cons (fun aa wv hb ha hS Kk Qq hK=>tab_field (tab_free rfl) _ _ _ rfl _ (.pointer (some ⟨g,4,none⟩)) (show aa.eval (.tmp 61)=.pointer (some ⟨g,0,none⟩)from(hS 22 61 (by kernel_rfl) rfl).here) (by go_simp) (up_eq rfl) hK) ?_
  exact TabAll.nil
 intro vals w9 hb hv
 have e39:vals 39=.pointer (some ⟨g,0,none⟩):=(hv 0 39 rfl).here
 have e40:vals 40=.pointer (some ⟨g,0,none⟩):=(hv 1 40 rfl).here
 have e52:vals 52=.slice A9 (hn+n-q) (hc-q):=(hv 13 52 rfl).here
 have e59:vals 59=.slice A6 (wn-n) (wc-n):=(hv 20 59 rfl).here
 have e62:vals 62=.pointer (some ⟨g,4,none⟩):=(hv 23 62 rfl).here
 have U9:=HU8.out.below hb
 have x9:=HX8.out.below hb HX8.out.lt
 have s4:w9.cell? ⟨g,4,none⟩=some (.slice Ah hn hc):=x9.cell.trans rfl
 have s5:w9.cell? ⟨g,5,none⟩=some (.slice Aw wn wc):=x9.cell.trans rfl
 have f4:w9.frozen? ⟨g,4,none⟩=false:=x9.free
 have f5:w9.frozen? ⟨g,5,none⟩=false:=x9.free
 obtain⟨WA,hWA⟩:∃W,W=(w9.setCell ⟨g,4,none⟩ (.slice A9 (hn+n-q) (hc-q))).setCell ⟨g,5,none⟩ (.slice A6 (wn-n) (wc-n)):=⟨_,rfl⟩
 have UA:=UEN.out w9 A7 c7 A8 c8 U9
 rw[←hWA]at UA
 have HBA:Hid (Below B w WA):=Lib.hid (by rw[hWA];exact below_cell (below_cell (HB8.out.trans (hb.mono (by have:=HLE.out;have:=HU8.out.lt;omega))) HLE.out _ _) HLE.out _ _)
 have HUA:=Lib.hid UA;have HWA:=Lib.hid hWA
 clear x9 hb hv U9 hWA UA
 simp only[List.take_succ_cons,List.take_zero,List.drop_succ_cons,List.drop_zero,List.map_cons,List.map_nil,putL,Act.put,List.setIfInBounds_toArray,List.set_cons_zero,List.set_cons_succ,e39,e40,e52,e59,e62]
 clear e39 e40 e52 e59 e62
 go_wp2_with (rw[←HWA.out])
 go_end0
 exact⟨rfl,⟨_,_,_,_,_,_,_,_,HUA.out⟩,HBA.out⟩
end Go.Proofs.YtokpcpjnihinfaaGreat
namespace Go.Proofs.YtokpcpjnihinfaaGreat
open Go.RowKit Go.ChangeShapes Go.WideShapes Go.ChangeAt Go.Joins
theorem ByR.first{w:World}{B0 n m c:Nat}{A:Option Addr}{L:List Nat}(h:ByR w B0 A m c (lst L))(hn:n≤m)(hb:BytesP L):ByR w B0 A n c (lst (L.take n)):=by
 refine⟨⟨lst_lt (take_mem hb n),fun h0=>?_⟩,h.2.1,by have:=h.2.2.1;omega,h.2.2.2⟩
 obtain⟨b,o,e1,e2,e3⟩:=h.1.2 (by omega)
 exact⟨b,o,e1,e2,fun j hj=>by rw[lst_take L hj];exact e3 j (by omega)⟩
theorem tkW_ok{p:Prs}(gd:GoodW p)(n:Nat):(tkP p (p.wait.take n)).length≤(p.wait.take n).length∧∀t∈tkP p (p.wait.take n),mayT t=true∧t.x<256:=tkP_ok gd.sty gd.bh (take_mem gd.bw n)
theorem long_ok{a:Nat}{kind n:Nat}{l:List Tok}(ha:a≤7)(hk:kind≤2)(hn:n≤65535)(hl:l.length≤65535)(hok:∀t∈l,mayT t=true∧t.x<256):lngE (a:Int) kind n l=0:=by
 unfold lngE
 rw[if_neg (by omega)]
 unfold askW
 rw[if_neg (by omega),if_neg (by omega),if_pos]
 exact List.all_eq_true.2 fun t ht=>(hok t ht).1
theorem pbest_any(w:World)(B g:Nat)(p:Prs)(out:List Nat)(Ah:Option Addr)(hc:Nat)(Aw:Option Addr)(wc:Nat)(Ap:Option Addr)(pc:Nat)(Ao:Option Addr)(oc:Nat)(U:Und w B g p out Ah hc Aw wc Ap pc Ao oc)(gd:GoodW p)(n:Nat)(hnw:n≤p.wait.length)(hn2:n≤65535)(hb:p.wait.length≤1000000)(hol:out.length≤90000000)(last:Bool):
  Calls Tryz.prog 46 #[.pointer (some ⟨g,0,none⟩),.int .i64 (n:Int),.bool last] w fun e w'=>e=.returned (.tuple #[])∧(∃Ah' hc' Aw' wc' Ap' pc' Ao' oc',Und w' B g (sendP p (bstP p (p.wait.take n)) n (tkP p (p.wait.take n)) last).1 (out++(sendP p (bstP p (p.wait.take n)) n (tkP p (p.wait.take n)) last).2) Ah' hc' Aw' wc' Ap' pc' Ao' oc')∧Below B w w':=by
 obtain⟨K,hk⟩:∃K:Nat,p.k=(K:Int):=⟨p.k.toNat,by have:=gd.k0;omega⟩
 have hkt:p.k.toNat=K:=by omega
 have hK7:K≤7:=by have:=gd.k7;omega
 have hcut:=cut_any w B g p out Ah hc Aw wc Ap pc Ao oc U gd n hnw hn2 hb
 obtain⟨t1,t2⟩:=tkW_ok gd n
 have hrl:(p.wait.take n).length=n:=by rw[List.length_take,Nat.min_eq_left hnw]
 obtain⟨TL,hTL⟩:∃l,l=tkP p (p.wait.take n):=⟨_,rfl⟩
 obtain⟨BK,hBK⟩:∃b,b=bstP p (p.wait.take n):=⟨_,rfl⟩
 have hBK2:BK≤2:=by rw[hBK];exact bstP_le _ _
 rw[←hTL]at hcut t1 t2
 have tin:∀t∈TL,TokIn t:=fun t ht=>tokIn_may (t2 t ht).1 (t2 t ht).2
 have HBE:∀(A2:Option Addr) (t c2:Nat) (w2:World),Und w2 B g p out Ah hc Aw wc Ap pc Ao oc→TkR w2 w2.heap.size A2 t c2 TL→Hid (∀V,Below w2.heap.size w2 V→Calls Tryz.prog 61 #[.int .i64 (K:Int),.slice Aw n wc,.slice A2 t c2] V fun e w'=>e=.returned (.tuple #[.int .u8 (BK:Int),.int .i64 0])∧Below V.heap.size V w'):=fun A2 t c2 w2 U2 ht=>Lib.hid fun V hV=>by
  have hr:=(U2.below hV).wait.first (n:=n) hnw gd.bw
  have h1:=best_con V (K:Int) Aw n wc (lst (p.wait.take n)) A2 t c2 TL (by omega) (by omega) hr (by omega) ((ht.below hV (Nat.le_refl _)).more hV.size) (by have:=ht.1;omega) tin
  have hE:bestE (K:Int) n TL=0:=by unfold bestE;exact long_ok hK7 (by omega) hn2 (by omega) t2
  have hV2:bestV (K:Int) n (lst (p.wait.take n)) TL=BK:=by
   unfold bestV;rw[hE,if_pos rfl,hBK,Int.toNat_natCast];unfold bstP;rw[hrl,hkt,hTL]
  rw[hE,hV2]at h1
  exact h1
 rw[←hTL,←hBK]
 have HSE:∀(A2:Option Addr) (t c2:Nat) (w2:World),Und w2 B g p out Ah hc Aw wc Ap pc Ao oc→TkR w2 w2.heap.size A2 t c2 TL→Calls Tryz.prog 51 #[.pointer (some ⟨g,0,none⟩),.int .u8 (BK:Int),.int .i64 (n:Int),.slice A2 t c2,.bool last] w2 fun e w'=>e=.returned (.tuple #[])∧(∃Ah' hc' Aw' wc' Ap' pc' Ao' oc',Und w' B g (sendP p BK n TL last).1 (out++(sendP p BK n TL last).2) Ah' hc' Aw' wc' Ap' pc' Ao' oc')∧Below B w2 w':=fun A2 t c2 w2 U2 ht=>
  send_any w2 B g p out Ah hc Aw wc Ap pc Ao oc U2 gd BK hBK2 n hnw hn2 hb hol A2 t c2 TL ht (by omega) t2 last
 obtain⟨hn,hhn⟩:∃x,x=p.hist.length:=⟨_,rfl⟩
 obtain⟨wn,hwn⟩:∃x,x=p.wait.length:=⟨_,rfl⟩
 obtain⟨pn,hpnn⟩:∃x,x=p.pen.length:=⟨_,rfl⟩
 obtain⟨on,hon⟩:∃x,x=out.length:=⟨_,rfl⟩
 have eX:pgA p Ah hc Aw wc Ap pc Ao out.length oc=#[.int .i64 p.s,.int .i64 p.h,.int .i64 p.m,.bool p.z,.slice Ah hn hc,.slice Aw wn wc,.slice Ap pn pc,.int .i64 (K:Int),.bool p.over,(.slice Ao on oc)]:=by
  unfold pgA;rw[←hhn,←hwn,←hpnn,hk,←hon]
 have hx:=U.box
 rw[eX]at hx
 have hwr:=U.wait.2.2.1
 have RT:Hid (∀V:World,(Instr.sliceAt 22 (.slice Aw wn wc) none (some (.int .i64 (n:Int))) none).run Tryz.prog V=.ok (.slice Aw n wc) V):=Lib.hid fun V=>run_to Aw wn wc n (by omega) V
 have HX:=Lib.hid hx;have HU:=Lib.hid U;have HCUT:=Lib.hid hcut;have HBE1:=Lib.hid HBE;have HSE1:=Lib.hid HSE;have HLE:=Lib.hid U.le
 clear U gd hnw hn2 hb hol hk hkt hK7 hcut t1 t2 hrl hTL hBK hBK2 tin HBE HSE hhn hwn hpnn hon eX hx hwr
 go_enter Tryz.func46,Tryz.ntmps46
 go_wp2_with fail
 refine HCUT.out.mono ?_
 rintro e w2 ⟨A2,t,c2,rfl,ht,hb2⟩
 have U2:=HU.out.below hb2
 have HX2:=Lib.hid (HX.out.below hb2 HX.out.lt)
 have HBE:=HBE1.out A2 t c2 w2 U2 ht
 have HB2:=Lib.hid (hb2.mono (B':=B) (by have:=HLE.out;have:=HU.out.lt;omega))
 have HU2:=Lib.hid U2;have HT2:=Lib.hid ht
 clear U2 ht hb2 HCUT
 go_wp2_with fail
 refine wp_region_tab (tabT [fun v _=>v=.pointer (some ⟨g,0,none⟩),fun v _=>v=.pointer (some ⟨g,0,none⟩),fun v _=>v=.pointer (some ⟨g,0,none⟩),fun v _=>v=.pointer (some ⟨g,6,none⟩),fun v _=>v=.pointer (some ⟨g,7,none⟩),fun v _=>v=.int .i64 (K:Int),fun v _=>v=.pointer (some ⟨g,0,none⟩),fun v _=>v=.pointer (some ⟨g,0,none⟩),fun v _=>v=.pointer (some ⟨g,0,none⟩),fun v _=>v=.pointer (some ⟨g,5,none⟩),fun v _=>v=.slice Aw wn wc,fun v _=>v=.int .i64 (n:Int),fun v _=>v=.slice Aw n wc,fun v _=>v=.slice A2 t c2,fun v _=>v=.tuple #[.int .u8 (BK:Int),.int .i64 0],fun v _=>v=.tuple #[.int .u8 (BK:Int),.int .i64 0],fun v _=>v=.int .u8 (BK:Int),fun v _=>v=.int .i64 0,fun v _=>v=.int .u8 (BK:Int),fun v _=>v=.int .i64 0]) w2 (Below.refl _ _) (by kernel_rfl) (by kernel_rfl) ?_ ?_
 case refine_1=>
  refine TabAll.cons (fun aa wv hb ha hS Kk Qq hK=>tab_move (tab_free rfl) _ rfl (up_eq ((ha 0 (by kernel_rfl)).trans rfl)) hK) ?_
  refine TabAll.cons (fun aa wv hb ha hS Kk Qq hK=>tab_nil (tab_free rfl) _ rfl _ (show aa.eval (.tmp 13)=.pointer (some ⟨g,0,none⟩)from(hS 0 13 (by kernel_rfl) rfl).here) (up_eq rfl) hK) ?_
  refine TabAll.cons (fun aa wv hb ha hS Kk Qq hK=>tab_field (tab_free rfl) _ _ _ rfl _ (.pointer (some ⟨g,0,none⟩)) (show aa.eval (.tmp 14)=.pointer (some ⟨g,0,none⟩)from(hS 1 14 (by kernel_rfl) rfl).here) (by go_simp) (up_eq rfl) hK) ?_
  refine TabAll.cons (fun aa wv hb ha hS Kk Qq hK=>tab_field (tab_free rfl) _ _ _ rfl _ (.pointer (some ⟨g,6,none⟩)) (show aa.eval (.tmp 15)=.pointer (some ⟨g,0,none⟩)from(hS 2 15 (by kernel_rfl) rfl).here) (by go_simp) (up_eq rfl) hK) ?_
  refine TabAll.cons (fun aa wv hb ha hS Kk Qq hK=>tab_field (tab_free rfl) _ _ _ rfl _ (.pointer (some ⟨g,7,none⟩)) (show aa.eval (.tmp 16)=.pointer (some ⟨g,6,none⟩)from(hS 3 16 (by kernel_rfl) rfl).here) (by go_simp) (up_eq rfl) hK) ?_
  refine TabAll.cons (fun aa wv hb ha hS Kk Qq hK=>tab_load (tab_free rfl) _ _ rfl _ (.int .i64 (K:Int)) (show aa.eval (.tmp 17)=.pointer (some ⟨g,7,none⟩)from(hS 4 17 (by kernel_rfl) rfl).here) (by have hc:wv.cell? ⟨g,7,none⟩=some (.int .i64 (K:Int)):=(HX2.out.below hb HX2.out.lt).cell.trans rfl;go_simp) (up_eq rfl) hK) ?_
  refine TabAll.cons (fun aa wv hb ha hS Kk Qq hK=>tab_move (tab_free rfl) _ rfl (up_eq ((ha 0 (by kernel_rfl)).trans rfl)) hK) ?_
  refine TabAll.cons (fun aa wv hb ha hS Kk Qq hK=>tab_nil (tab_free rfl) _ rfl _ (show aa.eval (.tmp 19)=.pointer (some ⟨g,0,none⟩)from(hS 6 19 (by kernel_rfl) rfl).here) (up_eq rfl) hK) ?_
  refine TabAll.cons (fun aa wv hb ha hS Kk Qq hK=>tab_field (tab_free rfl) _ _ _ rfl _ (.pointer (some ⟨g,0,none⟩)) (show aa.eval (.tmp 20)=.pointer (some ⟨g,0,none⟩)from(hS 7 20 (by kernel_rfl) rfl).here) (by go_simp) (up_eq rfl) hK) ?_
  refine TabAll.cons (fun aa wv hb ha hS Kk Qq hK=>tab_field (tab_free rfl) _ _ _ rfl _ (.pointer (some ⟨g,5,none⟩)) (show aa.eval (.tmp 21)=.pointer (some ⟨g,0,none⟩)from(hS 8 21 (by kernel_rfl) rfl).here) (by go_simp) (up_eq rfl) hK) ?_
  refine TabAll.cons (fun aa wv hb ha hS Kk Qq hK=>tab_load (tab_free rfl) _ _ rfl _ (.slice Aw wn wc) (show aa.eval (.tmp 22)=.pointer (some ⟨g,5,none⟩)from(hS 9 22 (by kernel_rfl) rfl).here) (by have hc:wv.cell? ⟨g,5,none⟩=some (.slice Aw wn wc):=(HX2.out.below hb HX2.out.lt).cell.trans rfl;go_simp) (up_eq rfl) hK) ?_
  refine TabAll.cons (fun aa wv hb ha hS Kk Qq hK=>tab_move (tab_free rfl) _ rfl (up_eq ((ha 1 (by kernel_rfl)).trans rfl)) hK) ?_
  refine TabAll.cons (fun aa wv hb ha hS Kk Qq hK=>tab_slice (tab_free rfl) _ _ _ _ _ rfl (.slice Aw wn wc) (.slice Aw n wc) none (some (.int .i64 (n:Int))) none (show aa.eval (.tmp 23)=.slice Aw wn wc from(hS 10 23 (by kernel_rfl) rfl).here) rfl (congrArg some (show aa.eval (.tmp 24)=.int .i64 (n:Int)from(hS 11 24 (by kernel_rfl) rfl).here)) rfl (RT.out wv) (up_eq rfl) hK) ?_
  refine TabAll.cons (fun aa wv hb ha hS Kk Qq hK=>tab_move (tab_free rfl) _ rfl (up_eq ((ha 6 (by kernel_rfl)).trans rfl)) hK) ?_
  refine TabAll.cons (fun aa wv hb ha hS Kk Qq hK=>tab_call (tab_free rfl) 61 _ _ rfl (enters_of Tryz.func61 (by kernel_rfl) rfl) #[.int .i64 (K:Int),.slice Aw n wc,.slice A2 t c2] (by simp[(show aa.eval (.tmp 18)=.int .i64 (K:Int)from(hS 5 18 (by kernel_rfl) rfl).here),(show aa.eval (.tmp 25)=.slice Aw n wc from(hS 12 25 (by kernel_rfl) rfl).here),(show aa.eval (.tmp 26)=.slice A2 t c2 from(hS 13 26 (by kernel_rfl) rfl).here)]) (HBE.out wv hb) (fun ee w' ⟨h1,h2⟩=>⟨_,h1,h2,up_eq rfl⟩) hK) ?_
  refine TabAll.cons (fun aa wv hb ha hS Kk Qq hK=>tab_move (tab_free rfl) _ rfl (hS 14 27 (by kernel_rfl) rfl) hK) ?_
  refine TabAll.cons (fun aa wv hb ha hS Kk Qq hK=>tab_extract (tab_free rfl) _ _ rfl _ (.int .u8 (BK:Int)) (show aa.eval (.tmp 12)=.tuple #[.int .u8 (BK:Int),.int .i64 0]from(hS 15 12 (by kernel_rfl) rfl).here) (by go_simp) (up_eq rfl) hK) ?_
  refine TabAll.cons (fun aa wv hb ha hS Kk Qq hK=>tab_extract (tab_free rfl) _ _ rfl _ (.int .i64 0) (show aa.eval (.tmp 12)=.tuple #[.int .u8 (BK:Int),.int .i64 0]from(hS 15 12 (by kernel_rfl) rfl).here) (by go_simp) (up_eq rfl) hK) ?_
  refine TabAll.cons (fun aa wv hb ha hS Kk Qq hK=>tab_assign (tab_free rfl) _ rfl (hS 16 28 (by kernel_rfl) rfl) hK) ?_
  refine TabAll.cons (fun aa wv hb ha hS Kk Qq hK=>tab_assign (tab_free rfl) _ rfl (hS 17 29 (by kernel_rfl) rfl) hK) ?_
  exact TabAll.nil
 intro vals w5 hb hv
 have e7:vals 7=.int .u8 (BK:Int):=(hv 18 7 rfl).here
 have U5:=HU2.out.below hb
 have hs5:=HSE1.out A2 t c2 w5 U5 ((HT2.out.below hb (Nat.le_refl _)).more hb.size)
 have HS5:=Lib.hid hs5;have HB5:=Lib.hid (HB2.out.trans (hb.mono (by have:=HLE.out;have:=HU2.out.lt;omega)))
 clear hb hv U5 hs5
 simp only[List.map_cons,List.map_nil,putL,Act.put,List.setIfInBounds_toArray,List.set_cons_zero,List.set_cons_succ,e7]
 clear e7
 go_wp2_with fail
 refine HS5.out.mono ?_
 rintro e w6 ⟨rfl,h6,hb6⟩
 have H6:=Lib.hid h6;have HB6:=Lib.hid (HB5.out.trans hb6)
 clear h6 hb6
 go_wp2
 go_end0
 exact⟨rfl,H6.out,HB6.out⟩
end Go.Proofs.YtokpcpjnihinfaaGreat
