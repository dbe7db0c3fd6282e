/-
  Words and walks.
-/
import Derived.Test.YtgokdgcmkcmjeaaGreatpbab
import Derived.Test.YtgokdgcmkcmjeaaGreatpbai
import Derived.Test.YtgokdgcmkcmjeaaGreatpbap
import Derived.Test.YtgokdgcmkcmjeaaGreatpbau
import Derived.Test.YtgokdgcmkcmjeaaGreatpbbh
import Derived.Test.YtgokdgcmkcmjeaaGreatpbbl
set_option maxRecDepth 100000
set_option maxHeartbeats 16000000
namespace Go.Proofs.YtgokdgcmkcmjeaaGreat
open Go.RowKit Go.ChangeShapes Go.WideShapes Go.ChangeAt Go.Joins
def strL(L:List Nat):ByteArray:=strB L.length (lst L)
theorem strL_eq(L:List Nat):strL L=⟨(L.map UInt8.ofNat).toArray⟩:=by
 unfold strL strB strOfNums
 congr 1
 congr 1
 apply List.ext_getElem?
 intro j
 simp[lst]
 rcases Nat.lt_or_ge j L.length with h|h
 ·simp[h]
 ·simp[h]
theorem strL_size(L:List Nat):(strL L).size=L.length:=by rw[strL_eq];simp[ByteArray.size]
theorem strL_byte(L:List Nat)(h:∀x∈L,x<256)(j:Nat)(hj:j<(strL L).data.size):((strL L).data[j].toNat:Nat)=lst L j:=by
 have hj2:j<L.length:=by have h2:(strL L).data.size=L.length:=strL_size L;omega
 have e:(strL L).data[j]?=some (UInt8.ofNat (lst L j)):=by
  rw[strL_eq];simp[lst,hj2]
 rw[Array.getElem?_eq_getElem hj]at e
 injection e with e
 rw[e]
 have:=lst_lt h j
 simp;omega
theorem strbytes_any(w:World)(T:List Nat)(hT:∀x∈T,x<256)(hn:T.length≤1000000):∃c w',(convert 9 22 (.string (strL T))).run Tryz.prog w=.ok (.slice (some ⟨w.heap.size,0,none⟩) T.length c) w'∧ByR w' w'.heap.size (some ⟨w.heap.size,0,none⟩) T.length c (lst T)∧Below w.heap.size w w':=by
 have hr:=run_bytes_of_string (P:=Tryz.prog) w 9 22 5 (strL T) Tryz.underlying9 Tryz.underlying22 Tryz.underlying5
 rw[strL_size]at hr
 have hge:=grownCap_ge w T.length 0 5
 have hle:=grownCap_le_maxLen w T.length 0 5 (by unfold maxLen;omega)
 obtain⟨c,hc⟩:∃c,c=grownCap w T.length 0 5:=⟨_,rfl⟩
 rw[←hc]at hr hge hle
 refine⟨c,_,hr,⟨⟨lst_lt hT,fun _=>⟨w.heap.size,0,rfl,by simp,fun j hj=>?_⟩⟩,(fun h=>by cases h),by omega,by omega⟩,((Below.refl w.heap.size w).drew.alloc (Nat.le_refl _) _)⟩
 have hrow:(w.drew.alloc (.cells (bytesRow (strL T) c) 5 ((bytesRow (strL T) c).size,(bytesRow (strL T) c).size+1))).heap[w.heap.size]?=some (.cells (bytesRow (strL T) c) 5 ((bytesRow (strL T) c).size,(bytesRow (strL T) c).size+1)):=heap_alloc_new w.drew _
 rw[cell_of_row _ _ _ _ _ _ hrow,Nat.zero_add]
 have hjs:j<(strL T).data.size:=by have h2:(strL T).data.size=T.length:=strL_size T;omega
 rw[bytesRow_at _ _ _ hjs,strL_byte T hT j hjs]
end Go.Proofs.YtgokdgcmkcmjeaaGreat
namespace Go.Proofs.YtgokdgcmkcmjeaaGreat
open Go.RowKit Go.ChangeShapes Go.WideShapes Go.ChangeAt Go.Joins
theorem strLd(L:List Nat)(d:Array UInt8)(h:(L.map UInt8.ofNat).toArray=d):(⟨d⟩:ByteArray)=strL L:=by rw[strL_eq,h]
theorem tells13_yes(w:World)(T M:List Nat)(lim n:Nat)(hT:∀x∈T,x<256)(hn:T.length≤1000)(hlim:lim≤3000)(hR:inflR (lst T) T.length 0 (lim:Int)=(M,n,0)):
  Calls Tryz.prog 37 #[.string (strL T),.int .i64 (lim:Int),.string (strL M),.int .i64 (n:Int)] w fun e w'=>e=.returned (.bool true)∧Below w.heap.size w w':=by
 obtain⟨c,w1,hrun,hby,hb1⟩:=strbytes_any w T hT (by omega)
 have hI:=fun(u:World) (hu:RdB u u.heap.size (some ⟨w.heap.size,0,none⟩) T.length (lst T))=>pinfl_any u (some ⟨w.heap.size,0,none⟩) T.length c (lst T) hu 0 (by decide) (by decide) (by omega) (lim:Int) (by omega) (by omega)
 rw[hR]at hI
 obtain⟨N,hN⟩:∃N,N=T.length:=⟨_,rfl⟩
 rw[←hN]at hrun hby hI
 obtain⟨ZT,hZT⟩:∃ZT,ZT=strL T:=⟨_,rfl⟩
 obtain⟨ZM,hZM⟩:∃ZM,ZM=strL M:=⟨_,rfl⟩
 rw[←hZT]at hrun⊢
 rw[←hZM]
 obtain⟨m,hm⟩:∃m,m=M.length:=⟨_,rfl⟩
 unfold InfP at hI
 dsimp only at hI
 rw[←hm]at hI
 have HBY:=Lib.hid hby;have HB1:=Lib.hid hb1;have HI:=Lib.hid hI;have HZM:=Lib.hid hZM;have HM:=Lib.hid hm
 clear hby hb1 hI hT hn hR hlim hZT hN hZM hm
 go_enter Tryz.func37,Tryz.ntmps37
 go_wp2_with fail
 refine(HI.out w1 HBY.out.1).mono ?_
 clear hrun
 rintro e w2 ⟨A',c',rfl,hy,-,hb2⟩
 have hs:=run_str hy.1 c'
 have hz:strB m (lst M)=ZM:=by rw[HZM.out,HM.out];rfl
 rw[hz]at hs
 have HB2:=Lib.hid (HB1.out.trans (hb2.mono HB1.out.size))
 have z1:(ZM.toList==ZM.toList)=true:=by simp
 have zk:((n:Int)==(n:Int))=true:=by simp
 clear hy hb2 hz HI HBY HB1
 go_wp2
 go_ret
 exact⟨rfl,HB2.out⟩
theorem tl_a(w:World):Calls Tryz.prog 37 #[.string ⟨#[75,4,0]⟩,.int .i64 9,.string ⟨#[97]⟩,.int .i64 18] w fun e w'=>e=.returned (.bool true)∧Below w.heap.size w w':=by
 rw[strLd [75,4,0] #[75,4,0] rfl,strLd [97] #[97] rfl]
 exact tells13_yes w [75,4,0] [97] 9 18 (by decide) (by decide) (by decide) valp_a
theorem tl_abc(w:World):Calls Tryz.prog 37 #[.string ⟨#[1,3,0,252,255,97,98,99]⟩,.int .i64 3,.string ⟨#[97,98,99]⟩,.int .i64 64] w fun e w'=>e=.returned (.bool true)∧Below w.heap.size w w':=by
 rw[strLd [1,3,0,252,255,97,98,99] #[1,3,0,252,255,97,98,99] rfl,strLd [97,98,99] #[97,98,99] rfl]
 exact tells13_yes w [1,3,0,252,255,97,98,99] [97,98,99] 3 64 (by decide) (by decide) (by decide) valp_abc
theorem alive13_any(w:World):Calls Tryz.prog 19 #[] w fun e w'=>e=.returned (.bool true)∧Below w.heap.size w w':=by
 have H0:=Lib.hid tl_a;have H1:=Lib.hid tl_abc
 go_enter Tryz.func19,Tryz.ntmps19
 go_wp2_with fail
 refine(H0.out w).mono ?_
 rintro e w1 ⟨rfl,hb⟩
 have HB1:=Lib.hid hb
 clear hb
 go_wp2_with fail
 refine(H1.out w1).mono ?_
 rintro e w2 ⟨rfl,hb⟩
 have HB2:=Lib.hid (HB1.out.trans (hb.mono HB1.out.size))
 clear hb
 go_wp2
 go_ret
 exact⟨rfl,HB2.out⟩
end Go.Proofs.YtgokdgcmkcmjeaaGreat
namespace Go.Proofs.YtgokdgcmkcmjeaaGreat
theorem stn_puts:∀(P:List (Nat×Nat)) {f:Nat→Nat} {k:Nat},Clean f k→(∀x∈P,x.1<2^x.2)→Stn (putsF f k P) k P
 |[],_,_,_,_=>trivial
 |x::P,f,k,hc,hf=>by
  have hc2:=hc.put x.1 x.2
  refine⟨?_,stn_puts P hc2 fun y hy=>hf y (List.mem_cons_of_mem _ hy)⟩
  show numN (putsF (putF f k x.1 x.2) (k+x.2) P) k x.2=x.1
  rw[numN_congr x.2 (fun j hj=>putsF_ahead hc2 (k+j) (by omega) P),put_taken hc x.1 x.2 (hf x List.mem_cons_self)]
theorem fit3{v:Nat}(h:v≤7):((v,3):Nat×Nat).1<2^((v,3):Nat×Nat).2:=by show v<2^3;omega
theorem three_fit{NA NB NR:Nat}(a2:NA≤286)(b2:NB≤30)(c2:NR≤19):∀x∈[(NA-257,5),(NB-1,5),(NR-4,4)],x.1<2^x.2:=by
 intro x hx
 simp only[List.mem_cons,List.not_mem_nil,or_false]at hx
 rcases hx with rfl|rfl|rfl
 ·show NA-257<2^5;omega
 ·show NB-1<2^5;omega
 ·show NR-4<2^4;omega
theorem blk_fits{a kind n:Nat}{r:Nat→Nat}{l:List Tok}{last:Bool}(hk:kind≤2)(hn:n≤65535)(hr:∀j,r j<256)(hl:l.length≤65535)(hok:∀t∈l,mayT t=true∧t.x<256):∀x∈blkP a kind n r l last,x.1<2^x.2:=by
 have tk:∀{F G:Nat→Nat} {n m:Nat},(∀j,F j≤15)→(∀j,G j≤15)→∀x∈toksP F n G m l,x.1<2^x.2:=by
  intro F G n m hF hG x hx
  unfold toksP at hx
  rcases List.mem_append.1 hx with hx|hx
  ·obtain⟨t,ht,hx⟩:=List.mem_flatMap.1 hx
   unfold tokP at hx
   by_cases h0:t.n=0
   ·rw[if_pos h0,List.mem_singleton]at hx
    subst hx;exact(codP_fit hF _ _).1
   ·rw[if_neg h0]at hx
    obtain⟨e1,e2⟩:=ext_fit (hok t ht).1 (hok t ht).2 h0
    simp only[List.mem_cons,List.not_mem_nil,or_false]at hx
    rcases hx with rfl|rfl|rfl|rfl
    ·exact(codP_fit hF _ _).1
    ·exact e1.1
    ·exact(codP_fit hG _ _).1
    ·exact e2.1
  ·rw[List.mem_singleton]at hx
   subst hx;exact(codP_fit hF _ _).1
 intro x hx
 unfold blkP at hx
 rcases List.mem_append.1 hx with hx|hx
 ·simp only[List.mem_cons,List.not_mem_nil,or_false]at hx
  rcases hx with rfl|rfl
  ·show(if last then 1 else 0)<2^1
   split<;>omega
  ·show kind<2^2;omega
 ·by_cases k1:kind=1
  ·rw[if_pos k1]at hx
   exact tk fixA_le fixB_le x hx
  ·rw[if_neg k1]at hx
   by_cases k2:kind=2
   ·rw[if_pos k2]at hx
    obtain⟨h1,h2,_,_,a1,a2,b1,b2,_⟩:=dyn_ok l (by omega)
    rcases List.mem_append.1 hx with hx|hx
    ·unfold dynP at hx
     have hR:∀j,lnR l j≤7:=(lenM_may (c:=cntR (runD l)) (n:=19) (most:=7) (by omega) (by omega) (by omega) (by decide) (fun i=>by have:=cntR_le (runD l) i;have:=(run_ok l (by omega)).2;omega)).1
     have c2:nR l≤19:=cutN_le (rowR l) 4 19 (by decide)
     rcases List.mem_append.1 hx with hx|hx
     ·rcases List.mem_append.1 hx with hx|hx
      ·exact three_fit a2 b2 c2 x hx
      ·obtain⟨i,_,rfl⟩:=List.mem_map.1 hx
       have:rowR l i≤7:=hR (ordN i)
       exact fit3 this
     ·obtain⟨u,hu,hx⟩:=List.mem_flatMap.1 hx
      unfold runP at hx
      simp only[List.mem_cons,List.not_mem_nil,or_false]at hx
      rcases hx with rfl|rfl
      ·exact(codP_fit (fun j=>Nat.le_trans (hR j) (by omega)) _ _).1
      ·exact(runX_fit (by omega) hu).1
    ·exact tk h1 h2 x hx
   ·rw[if_neg k2]at hx
    unfold stoP at hx
    rcases List.mem_append.1 hx with hx|hx
    ·rcases List.mem_append.1 hx with hx|hx
     ·rw[(List.mem_replicate.1 hx).2];show 0<2^1;omega
     ·simp only[List.mem_cons,List.not_mem_nil,or_false]at hx
      rcases hx with rfl|rfl
      ·show n<2^16;omega
      ·show 65535-n<2^16;omega
    ·obtain⟨i,_,rfl⟩:=List.mem_map.1 hx
     exact hr i
theorem raw_nums(raw:List Nat):((List.range raw.length).map fun i=>(lst raw i,8))=raw.map fun x=>(x,8):=by
 have e:=congrArg (List.map fun x=>((x,8):Nat×Nat)) (preL_lst2 raw)
 unfold preL at e
 rw[List.map_map]at e
 exact e
theorem fix_codes(last:Bool):Codes ⟨1,last,0,fixA,288,fixB,32⟩ fixA 288 fixB 32:=
 ⟨(fun h=>by cases h),rfl,rfl,rfl,by kernel_rfl,by kernel_rfl,fun _ _=>rfl,fun _ _=>rfl⟩
theorem fixA_pos(j:Nat):0<fixA j:=by unfold fixA;split;omega;split<;>omega
theorem fit_fix{t:Tok}(hm:mayT t=true)(hx:t.x<256):TokFit fixA 288 fixB 32 t:=by
 obtain⟨s1,_,s3⟩:=sym_lt hm hx
 exact⟨hm,hx,⟨by omega,fixA_pos _⟩,fun h=>⟨by have:=(s3 h).2.2.2;omega,by unfold fixB;omega⟩⟩
theorem fit_dyn{l:List Tok}(hl:l.length≤1000000){t:Tok}(ht:t∈l)(hm:mayT t=true)(hx:t.x<256):TokFit (lnA l) (nA l) (lnB l) (nB l) t:=by
 obtain⟨s1,_,s3⟩:=sym_lt hm hx
 obtain⟨_,_,_,_,_,_,_,_,h1,h2⟩:=dyn_ok l hl
 exact⟨hm,hx,h1 _ s1 (cntA_pos ht),fun h=>h2 _ (s3 h).2.2.2 (cntB_pos ht h)⟩
end Go.Proofs.YtgokdgcmkcmjeaaGreat
namespace Go.Proofs.YtgokdgcmkcmjeaaGreat
def wantT(kind:Nat)(raw:List Nat)(l:List Tok):List Tok:=if kind=0 then raw.map fun x=>⟨x,0,0⟩else l
def leftK(k:Blk13)(i:Nat):Blk13:={k with left:=k.left-i}
theorem leftK_same{k:Blk13}(h:k.left=0)(i:Nat):leftK k i=k:=by
 obtain⟨a,b,c,d,e,f,g⟩:=k
 simp only at h
 subst h
 show Blk13.mk a b (0-i) d e f g=_
 rw[Nat.zero_sub]
theorem stp_take{F G:Nat→Nat}{n m:Nat}{l:List Tok}{i:Nat}(h:i<l.length):(l.take (i+1)).flatMap (tokP F n G m)=(l.take i).flatMap (tokP F n G m)++tokP F n G m (l.getD i tokZ):=by
 rw[List.take_succ_eq_append_getElem h,List.flatMap_append,List.getD_eq_getElem?_getD,List.getElem?_eq_getElem h]
 simp
theorem stp_drop{F G:Nat→Nat}{n m:Nat}{l:List Tok}(i:Nat):l.flatMap (tokP F n G m)=(l.take i).flatMap (tokP F n G m)++(l.drop i).flatMap (tokP F n G m):=by
 rw[←List.flatMap_append,List.take_append_drop]
theorem code_steps{k:Blk13}{F:Nat→Nat}{n:Nat}{G:Nat→Nat}{m:Nat}(H:Codes k F n G m)(h256:256<n∧0<F 256){g:Nat→Nat}{L K:Nat}{l:List Tok}(hT:∀t∈l,TokFit F n G m t)(hS:Stn g K (toksP F n G m l))(hL:K+bitsT (toksP F n G m l)≤8*L):
  (∀i,i<l.length→nextR (leftK k i) g L (K+bitsT ((l.take i).flatMap (tokP F n G m)))=(l.getD i tokZ,false,K+bitsT ((l.take (i+1)).flatMap (tokP F n G m)),0))∧
  nextR (leftK k l.length) g L (K+bitsT ((l.take l.length).flatMap (tokP F n G m)))=(tokZ,true,K+bitsT (toksP F n G m l),0):=by
 unfold toksP at hS hL⊢
 obtain⟨S1,S2⟩:=(stn_app _ _ _).1 hS
 rw[bitsT_app]at hL⊢
 have hb:bitsT [codP F n 256]=F 256:=rfl
 rw[hb]at hL⊢
 refine⟨fun i hi=>?_,?_⟩
 ·rw[leftK_same H.left]
  have e1:=stp_take (F:=F) (G:=G) (n:=n) (m:=m) hi
  have e2:=stp_drop (F:=F) (G:=G) (n:=n) (m:=m) (l:=l) (i+1)
  rw[e1]at e2
  rw[e2]at S1 hL
  rw[bitsT_app,bitsT_app]at hL
  obtain⟨S3,_⟩:=(stn_app _ _ _).1 S1
  obtain⟨_,S4⟩:=(stn_app _ _ _).1 S3
  have hmem:l.getD i tokZ∈l:=by rw[List.getD_eq_getElem?_getD,List.getElem?_eq_getElem hi];exact List.getElem_mem hi
  rw[e1,bitsT_app,←Nat.add_assoc]
  exact tok_next H (hT _ hmem) S4 (by omega)
 ·rw[leftK_same H.left,List.take_length,←Nat.add_assoc]
  exact end_next H h256 S2 (by omega)
theorem stored_steps{g:Nat→Nat}{L K:Nat}(last:Bool){raw:List Nat}(hS:Stn g K (raw.map fun x=>(x,8)))(hL:K+8*raw.length≤8*L):
  (∀i,i<raw.length→nextR (leftK (stoB last raw.length) i) g L (K+8*i)=(⟨lst raw i,0,0⟩,false,K+8*(i+1),0))∧
  nextR (leftK (stoB last raw.length) raw.length) g L (K+8*raw.length)=(tokZ,true,K+8*raw.length,0):=by
 have hat:∀(r:List Nat) (K:Nat),Stn g K (r.map fun x=>(x,8))→∀i,i<r.length→numN g (K+8*i) 8=lst r i:=by
  intro r
  induction r with
  |nil=>intro K _ i h;simp at h
  |cons x r ih=>
   intro K hS i hi
   cases i with
   |zero=>exact hS.1
   |succ i=>
    have:=ih (K+8) hS.2 i (by simpa using hi)
    rw[show K+8+8*i=K+8*(i+1) by omega]at this
    exact this
 refine⟨fun i hi=>?_,?_⟩
 ·obtain⟨d,hd⟩:∃d,raw.length-i=d+1:=⟨raw.length-i-1,by omega⟩
  have e:leftK (stoB last raw.length) i=stoB last (d+1):=by rw[←hd];rfl
  rw[e,sto_next last d (hat raw K hS i hi) (by omega)]
  rw[show K+8*i+8=K+8*(i+1) by omega]
 ·have e:leftK (stoB last raw.length) raw.length=stoB last 0:=by
   show stoB last (raw.length-raw.length)=_
   rw[Nat.sub_self]
  rw[e,sto_end]
theorem steps_mk{k:Blk13}{g:Nat→Nat}{L K K1 E kind:Nat}{last:Bool}{want:List Tok}(P:Nat→Nat)(h0:P 0=K1)(hb:begR g L K=(k,K1,0))(hk:k.kind=kind)(hl:k.last=last)
  (h1:∀i,i<want.length→nextR (leftK k i) g L (P i)=(want.getD i tokZ,false,P (i+1),0)) (h2:nextR (leftK k want.length) g L (P want.length)=(tokZ,true,E,0)):
  ∃(k:Blk13) (pl:Nat→Nat),begR g L K=(k,pl 0,0)∧k.kind=kind∧k.last=last∧
   (∀i,i<want.length→nextR (leftK k i) g L (pl i)=(want.getD i tokZ,false,pl (i+1),0))∧nextR (leftK k want.length) g L (pl want.length)=(tokZ,true,E,0):=
 ⟨k,P,by rw[h0];exact hb,hk,hl,h1,h2⟩
theorem take_none(K:Nat)(F:Nat→Nat)(n:Nat)(G:Nat→Nat)(m:Nat)(l:List Tok):K+bitsT ((l.take 0).flatMap (tokP F n G m))=K:=by rw[List.take_zero];rfl
theorem blk_steps{g:Nat→Nat}{L K kind:Nat}{raw:List Nat}{l:List Tok}(last:Bool)(hk:kind≤2)(hn:raw.length≤65535)(hl:l.length≤65535)(hok:∀t∈l,mayT t=true∧t.x<256)
  (hS:Stn g K (blkP (K%8) kind raw.length (lst raw) l last)) (hL:K+bitsT (blkP (K%8) kind raw.length (lst raw) l last)≤8*L):
  ∃(k:Blk13) (pl:Nat→Nat),begR g L K=(k,pl 0,0)∧k.kind=kind∧k.last=last∧
   (∀i,i<(wantT kind raw l).length→nextR (leftK k i) g L (pl i)=((wantT kind raw l).getD i tokZ,false,pl (i+1),0))∧
   nextR (leftK k (wantT kind raw l).length) g L (pl (wantT kind raw l).length)=(tokZ,true,K+bitsT (blkP (K%8) kind raw.length (lst raw) l last),0):=by
 have e3:∀k,bitsT [(lastB last,1),(k,2)]=3:=fun _=>rfl
 have hb:blkP (K%8) kind raw.length (lst raw) l last=[(lastB last,1),(kind,2)]++(if kind=1 then toksP fixA 288 fixB 32 l else if kind=2 then dynP l++toksP (lnA l) (nA l) (lnB l) (nB l) l else stoP (K%8) raw.length (lst raw)):=rfl
 rw[hb]at hS hL⊢
 rw[bitsT_app,e3]at hL⊢
 by_cases k1:kind=1
 ·subst k1
  have hw:wantT 1 raw l=l:=if_neg (by omega)
  rw[if_pos rfl]at hS hL⊢
  have S2:=((stn_app _ _ _).1 hS).2
  rw[e3]at S2
  obtain⟨q1,q2⟩:=code_steps (g:=g) (L:=L) (fix_codes last) ⟨by omega,fixA_pos 256⟩ (fun t ht=>fit_fix (hok t ht).1 (hok t ht).2) S2 (by omega)
  rw[hw]
  rw[←Nat.add_assoc]
  exact steps_mk (fun i=>K+3+bitsT ((l.take i).flatMap (tokP fixA 288 fixB 32))) (take_none _ _ _ _ _ _) (beg_fix last hS (by omega)) rfl rfl q1 q2
 ·rw[if_neg k1]at hS hL⊢
  by_cases k2:kind=2
  ·subst k2
   have hw:wantT 2 raw l=l:=if_neg (by omega)
   rw[if_pos rfl]at hS hL⊢
   rw[bitsT_app]at hL⊢
   have S2:=((stn_app _ _ _).1 ((stn_app _ _ _).1 hS).2).2
   rw[e3]at S2
   have h256:=(dyn_ok l (show l.length≤1000000 by omega)).2.2.2.2.2.2.2.2.1 256 (by decide) (cntA_end l)
   have l2:K+3+bitsT (dynP l)≤8*L:=by omega
   have l3:K+3+bitsT (dynP l)+bitsT (toksP (lnA l) (nA l) (lnB l) (nB l) l)≤8*L:=by omega
   have l4:l.length≤1000000:=by omega
   obtain⟨q1,q2⟩:=code_steps (g:=g) (L:=L) (dyn_codes last l l4) h256 (fun t ht=>fit_dyn l4 ht (hok t ht).1 (hok t ht).2) S2 l3
   rw[hw]
   rw[←Nat.add_assoc,←Nat.add_assoc]
   exact steps_mk (fun i=>K+3+bitsT (dynP l)+bitsT ((l.take i).flatMap (tokP (lnA l) (nA l) (lnB l) (nB l)))) (take_none _ _ _ _ _ _) (beg_dyn last l4 hS l2) rfl rfl q1 q2
  ·rw[if_neg k2]at hS hL⊢
   obtain rfl:kind=0:=by omega
   have hw:wantT 0 raw l=raw.map fun x=>⟨x,0,0⟩:=if_pos rfl
   have hs2:stoP (K%8) raw.length (lst raw)=List.replicate (padN (K%8)) (0,1)++[(raw.length,16),(65535-raw.length,16)]++raw.map fun x=>(x,8):=by
    unfold stoP;rw[raw_nums]
   have hb8:∀r:List Nat,bitsT (r.map fun x=>(x,8))=8*r.length:=by
    intro r
    induction r with
    |nil=>rfl
    |cons x r ih=>rw[List.map_cons];simp only[bitsT,List.length_cons];rw[ih];omega
   have hb2:bitsT [(raw.length,16),(65535-raw.length,16)]=32:=rfl
   rw[hs2]at hS hL⊢
   rw[bitsT_app,bitsT_app,bits_rep,hb8,hb2]at hL⊢
   have S2:=((stn_app _ _ _).1 ((stn_app _ _ _).1 hS).2).2
   rw[e3,bitsT_app,bits_rep,hb2]at S2
   obtain⟨q1,q2⟩:=stored_steps (g:=g) (L:=L) last S2 (by omega)
   have e1:K+3+(padN (K%8)+32)=K+3+padN (K%8)+32:=by omega
   rw[hw,List.length_map]
   refine⟨stoB last raw.length,fun i=>K+3+(padN (K%8)+32)+8*i,?_,rfl,rfl,fun i hi=>?_,?_⟩
   ·show begR g L K=(stoB last raw.length,K+3+(padN (K%8)+32)+8*0,0)
    rw[beg_sto last hn hS (by omega),e1]
   ·rw[q1 i hi]
    have:(raw.map fun x=>(⟨x,0,0⟩:Tok)).getD i tokZ=⟨lst raw i,0,0⟩:=by
     unfold lst
     rw[List.getD_eq_getElem?_getD,List.getD_eq_getElem?_getD,List.getElem?_map,List.getElem?_eq_getElem hi];rfl
    rw[this]
   ·rw[q2,show K+(3+(padN (K%8)+32+8*raw.length))=K+3+(padN (K%8)+32)+8*raw.length by omega]
end Go.Proofs.YtgokdgcmkcmjeaaGreat
namespace Go.Proofs.YtgokdgcmkcmjeaaGreat
open Go.RowKit Go.ChangeShapes Go.WideShapes Go.ChangeAt Go.Joins
theorem quiet_callm{C:World→Prop}{K:Act→Prop}{a:Act}{o:Oper}(f:FuncId)(r:Value)(x:Operand)(xs:Array Operand)(ts:Array TypeId)(ho:o.op=.call {callee:=.value x,args:=xs,argTypes:=ts})(d:Option Tmp)(hd:o.dst=d)(hv:a.eval x=.func (.func f) #[r] #[])
  (eg:∀args w,(callFunc f args).run Tryz.prog w=.ok (.enter f args) w) (args:Array Value) (hx:#[r]++xs.map a.eval=args) (v:Value) (hc:∀w,C w→Calls Tryz.prog f args w fun e w'=>e=.returned v∧C w') (hk:K (a.put d v)):o.quiet Tryz.prog a C K:=by
 subst hd
 have hall:∀(ρ:Operand→Value) (w:World),ρ x=.func (.func f) #[r] #[]→#[r]++xs.map ρ=args→(execOp ρ o).run Tryz.prog w=.ok (.enter f args) w:=by
  intro ρ w h1 h2
  simp[execOp,ho,resolve,invoke,h1,h2,go_sem,eg,Deferred.ofValue]
 exact⟨v,fun w hw=>by unfold Oper.quietAt;rw[hall _ w hv hx];exact⟨rfl,hc w hw⟩,hk⟩
theorem RowC.kept{S:Nat→Prop}{w w':World}{g n:Nat}{x l:Nat→Nat}(h:RowC w g n x l)(hk:KpB S w w')(hS:S g):RowC w' g n x l:=by
 obtain⟨cur,h1,h2⟩:=h;exact⟨cur,(hk g hS).trans h1,h2⟩
theorem RdU.rangeS{S:Nat→Prop}{w w':World}{B:Nat}{A:Option Addr}{l:List (Int×Int)}(h:RdU w B A l)(hk:KpB S w w'){b o:Nat}(hA:A=some ⟨b,o,none⟩)(hS:S b){j:Nat}(hj:j<l.length):w'.rangeAt b (o+j*2) (runC (l.getD j run0)):=
 fun i v hv=>(hk.cell (p:=⟨b,o+j*2+i,none⟩) hS).trans (h.range hA hj i v hv)
theorem runs11_any(w:World)(S:Nat→Prop)(B g:Nat)(f:Nat→Nat)(K:Nat)(A2:Option Addr)(m c2:Nat)(l:List (Int×Int))(F:Nat→Nat)(gk ck:Nat)(h:RowAt w S B g f K)(hm:m=l.length)(hr:RdU w w.heap.size A2 l)(hS:InS S A2 m)(hm2:m≤1000)
  (hrc:RowC w gk 19 (codeB F 19) F) (hSk:S gk) (hF:checkE F 19 15=0) (hl:∀r∈l,0≤r.1∧r.1≤18∧0≤r.2∧FitN (r.2.toNat,(bitV r.1).toNat)) (hk:K+bitsT (l.flatMap (runP F))≤16000000):
  Calls Tryz.prog 129 #[.pointer (some ⟨g,0,none⟩),.slice A2 m c2,.func (.func 49) #[.slice (some ⟨gk,0,none⟩) 19 ck] #[]] w fun e w'=>e=.returned (.tuple #[])∧RowAt w' S B g (putsF f K (l.flatMap (runP F))) (K+bitsT (l.flatMap (runP F)))∧KpB S w w'∧Below B w w':=by
 have H:=Lib.hid h;have HM:=Lib.hid hm;have HR:=Lib.hid hr;have HS:=Lib.hid hS;have HRC:=Lib.hid hrc;have HSK:=Lib.hid hSk;have HF:=Lib.hid hF;have HL:=Lib.hid hl;have HK:=Lib.hid hk
 clear h hm hr hS hrc hSk hF hl hk
 go_enter Tryz.func129,Tryz.ntmps129
 go_wp2_with fail
 go_loopw [12] (fun iv wr=>∃i:Nat,i≤m∧iv=.int .i64 (i:Int)∧Hid (RowAt wr S B g (putsF f K ((l.take i).flatMap (runP F))) (K+bitsT ((l.take i).flatMap (runP F))))∧Hid (KpB S w wr)∧Hid (Below B w wr)) (fun iv _=>m-(intOf iv).toNat)
 case atStart=>exact⟨0,Nat.zero_le _,rfl,Lib.hid H.out,Lib.hid (KpB.refl _ _),Lib.hid (Below.refl _ _)⟩
 case round=>
  obtain⟨i,hi,rfl,HRA,HKP,HB⟩:=hrel
  by_cases hlt:i<m
  ·have hlti:(i:Int)<(m:Int):=by omega
   have hil:i<l.length:=by rw[←HM.out];exact hlt
   obtain⟨b,o,rfl,hbl,hc⟩:=HR.out.at hil
   have hSb:S b:=HS.out b o (by omega) rfl
   have hrg:=HR.out.rangeS HKP.out rfl hSb hil
   obtain⟨s0,s18,x0,hfit⟩:=HL.out _ (run_mem hil)
   have hstep:=runP_take (F:=F) hil
   have hle:bitsT ((l.take (i+1)).flatMap (runP F))≤bitsT (l.flatMap (runP F)):=by
    have e:l.flatMap (runP F)=(l.take (i+1)).flatMap (runP F)++(l.drop (i+1)).flatMap (runP F):=by rw[←List.flatMap_append,List.take_append_drop]
    rw[e,bitsT_app];omega
   obtain⟨⟨s,x⟩,ht⟩:∃t,t=l.getD i run0:=⟨_,rfl⟩
   rw[←ht]at hrg s0 s18 x0 hfit hstep
   dsimp only at s0 s18 x0 hfit
   obtain⟨q,rfl⟩:=Int.eq_ofNat_of_zero_le s0
   obtain⟨y,rfl⟩:=Int.eq_ofNat_of_zero_le x0
   have hbv:bitV ((q:Nat):Int)=((bitsR (q:Int):Nat):Int):=by unfold bitV;rw[if_pos (by omega)]
   obtain⟨bb,hbb⟩:∃b,b=bitsR (q:Int):=⟨_,rfl⟩
   rw[←hbb]at hbv
   have hb7:bb≤7:=by rw[hbb];exact bitsR_le' _
   rw[hbv,Int.toNat_natCast,Int.toNat_natCast]at hfit
   have hy:y<128:=by
    have:=hfit.1
    have e:(2:Nat)^bb≤2^7:=Nat.pow_le_pow_right (by omega) hb7
    have e2:(2:Nat)^7=128:=rfl
    dsimp only at this;omega
   have hrp:runP F ((q:Int),(y:Int))=[codP F 19 q,(y,bb)]:=by unfold runP;rw[hbv,Int.toNat_natCast,Int.toNat_natCast,Int.toNat_natCast]
   rw[hrp]at hstep
   obtain⟨⟨Z,Y⟩,hZY⟩:∃t,t=codP F 19 q:=⟨_,rfl⟩
   obtain⟨G,hG⟩:∃G,G=putsF f K ((l.take i).flatMap (runP F)):=⟨_,rfl⟩
   obtain⟨k,hkk⟩:∃k,k=K+bitsT ((l.take i).flatMap (runP F)):=⟨_,rfl⟩
   have hra:=HRA.out
   rw[←hG,←hkk]at hra
   obtain⟨W3,hW3⟩:∃W3,W3=mkV wr #[.int .i64 0,.int .i64 0] #[.int .i64 (q:Int),.int .i64 (y:Int)] 208:=⟨_,rfl⟩
   have hb3:Below wr.heap.size wr W3:=by rw[hW3];exact mkV_below _ _ _ _
   have hrow:W3.heap[wr.heap.size]?=some (.cells #[.int .i64 (q:Int),.int .i64 (y:Int)] 208 (0,0)):=by rw[hW3];exact mkV_row wr _ _ _
   have hs3:wr.heap.size<W3.heap.size:=(Array.getElem?_eq_some_iff.1 hrow).1
   have y0:W3.cell? ⟨wr.heap.size,0,none⟩=some (.int .i64 (q:Int)):=(cell_of_row W3 _ 0 _ _ (0,0) hrow).trans rfl
   have y1:W3.cell? ⟨wr.heap.size,1,none⟩=some (.int .i64 (y:Int)):=(cell_of_row W3 _ 1 _ _ (0,0) hrow).trans rfl
   have hbt:=fun V:World=>bits10_any V ((q:Nat):Int)
   rw[hbv]at hbt
   have hZfit:FitN (Z,Y):=by
    obtain⟨h1,h2⟩:=code_fits HF.out (show q<19 by omega)
    rw[hZY]
    exact⟨turnN_lt _ _,by show F q≤16;omega⟩
   have hkeq:k+bitsT [(Z,Y),(y,bb)]=K+bitsT ((l.take (i+1)).flatMap (runP F)):=by rw[hstep,bitsT_app,hkk,hZY];omega
   have hGeq:putsF G k [(Z,Y),(y,bb)]=putsF f K ((l.take (i+1)).flatMap (runP F)):=by rw[hstep,putsF_app,hG,hkk,hZY]
   have hkb:k+bitsT [(Z,Y),(y,bb)]≤16000000:=by have:=HK.out;omega
   have hrcW:=HRC.out.kept HKP.out HSK.out
   have hgk:gk<wr.heap.size:=hrcW.lt
   have hkS:=hra.top
   have HRA2:=Lib.hid (hra.after hb3);have HKP3:=Lib.hid (HKP.out.tr (KpB.below hkS hb3));have HB3:=Lib.hid (HB.out.trans (hb3.mono hra.size));have HRC3:=Lib.hid (hrcW.below hb3 hgk);have HW3:=Lib.hid hW3;have HRG:=Lib.hid (show wr.rangeAt b (o+i*2) [.int .i64 (q:Int),.int .i64 (y:Int)]from hrg)
   have HBT:=Lib.hid hbt;have HZF:=Lib.hid hZfit;have HKE:=Lib.hid hkeq;have HGE:=Lib.hid hGeq;have HZY:=Lib.hid hZY;have HFT:=Lib.hid hfit
   have hq19:q<19:=by omega
   have hbi:(bb:Int)≤7:=by omega
   clear hrg hb3 hrow hW3 hbt hZfit hkeq hGeq hZY hfit hra hrcW hkS hstep hle ht hc hbl hSb s0 s18 x0 hbv hbb hrp hG hkk HRA
   go_wp2_with (first
    |refine wpList_load_mid rfl _ _ rfl b (o+i*2) rfl [.int .i64 (q:Int),.int .i64 (y:Int)] _ HRG.out Tryz.underlying208 rfl szRun ?_
    |(refine wpList_store_rowTo rfl _ _ _ rfl rfl wr.heap.size #[.int .i64 (q:Int),.int .i64 (y:Int)] rfl rfl 208 #[.int .i64 0,.int .i64 0] (heap_alloc_new wr _) szRun rfl (by simp[Value.oneCell']) ?_;change wpList _ _ _ _ _ (mkV wr #[.int .i64 0,.int .i64 0] #[.int .i64 (q:Int),.int .i64 (y:Int)] 208);rw[←HW3.out])
    |fail)
   refine(HBT.out W3).mono ?_
   rintro e w4 ⟨rfl,hb4⟩
   have hs4:wr.heap.size<w4.heap.size:=by have:=hb4.size;omega
   have x0:∀p:After w4.heap.size w4,p.w.cell? ⟨wr.heap.size,0,none⟩=some (.int .i64 (q:Int)):=fun p=>(p.h.cell (p:=⟨wr.heap.size,0,none⟩) hs4).trans ((hb4.cell (p:=⟨wr.heap.size,0,none⟩) hs3).trans y0)
   have x1:∀p:After w4.heap.size w4,p.w.cell? ⟨wr.heap.size,1,none⟩=some (.int .i64 (y:Int)):=fun p=>(p.h.cell (p:=⟨wr.heap.size,1,none⟩) hs4).trans ((hb4.cell (p:=⟨wr.heap.size,1,none⟩) hs3).trans y1)
   have hrc4:=HRC3.out.below hb4 HRC3.out.lt
   have T1:Hid (∀V,Below w4.heap.size w4 V→Calls Tryz.prog 49 #[.slice (some ⟨gk,0,none⟩) 19 ck,.int .i64 (q:Int)] V fun e w'=>e=.returned (.agg #[.int .u32 (Z:Int),.int .i64 (Y:Int)])∧Below w4.heap.size w4 w'):=Lib.hid fun V hV=>by
    have h1:=of11_any V gk 19 ck F q (hrc4.below hV hrc4.lt) HF.out hq19 (by omega)
    rw[←HZY.out]at h1
    exact h1.mono fun _ _ ⟨e,b⟩=>⟨e,hV.trans (b.mono hV.size)⟩
   have HRA4:=Lib.hid (HRA2.out.after hb4);have HKP4:=Lib.hid (HKP3.out.tr (KpB.below HRA2.out.top hb4));have HB4:=Lib.hid (HB3.out.trans (hb4.mono HRA2.out.size))
   clear hb4 y0 y1 hs3 hrc4 HRA2 HKP3 HB3 HRC3
   go_wp2
   refine wp_split_after1 9 w4.heap.size w4 (Below.refl _ _) (by kernel_rfl) (by kernel_rfl) (.tmp 0) (.pointer (some ⟨g,0,none⟩)) rfl (some 22) rfl rfl rfl rfl (by kernel_rfl) (fun _ _ _ h=>h) ?_
   simp only[List.take_succ_cons,List.take_zero,List.drop_succ_cons,List.drop_zero,Act.put,List.setIfInBounds_toArray,List.set_cons_zero,List.set_cons_succ]
   repeat (first
    |(go_big_quiet_want;refine quiet_build 146 #[(0,.tmp 29),(1,.tmp 30)] rfl (some 31) rfl #[.int .u32 (y:Int),.int .i64 (bb:Int)] (by simpa[Act.eval]using built_numP (y:Int) (bb:Int)) ?_;go_big_quiet_on;simp only[Act.put,List.setIfInBounds_toArray,List.set_cons_zero,List.set_cons_succ])
    |(go_big_quiet_want;refine quiet_callm 49 (.slice (some ⟨gk,0,none⟩) 19 ck) (.tmp 23) #[.tmp 25] #[3] rfl (some 26) rfl (by simp[Act.eval]) (enters_of Tryz.func49 (by kernel_rfl) rfl) #[.slice (some ⟨gk,0,none⟩) 19 ck,.int .i64 (q:Int)] (by simp[Act.eval]) (.agg #[.int .u32 (Z:Int),.int .i64 (Y:Int)]) (fun V ⟨p,hp⟩=>by rw[hp];exact call_after T1.out p) ?_;go_big_quiet_on;simp only[Act.put,List.setIfInBounds_toArray,List.set_cons_zero,List.set_cons_succ])
    |(go_big_quiet_step (fail)))
   refine wpQuiet_nil ?_
   rintro V ⟨⟨V,hV⟩,rfl⟩
   have hrv:=HRA4.out.after hV
   have hput:=put_lit V S B g G k [(Z,Y),(y,bb)] 2 rfl #[.int .u32 (Z:Int),.int .i64 (Y:Int),.int .u32 (y:Int),.int .i64 (bb:Int)] rfl hrv (by omega) (fun z hz=>by
    simp only[List.mem_cons,List.not_mem_nil,or_false]at hz
    rcases hz with rfl|rfl
    ·exact HZF.out
    ·exact HFT.out) hkb
   rw[HKE.out,HGE.out]at hput
   have HPUT:=Lib.hid hput;have HKPV:=Lib.hid (HKP4.out.tr (KpB.below HRA4.out.top hV));have HBV:=Lib.hid (HB4.out.trans (hV.mono HRA4.out.size))
   clear hput hrv hV x0 x1 T1
   go_wp2_with fail
   refine HPUT.out.mono ?_
   rintro e w5 ⟨rfl,h1,h2,h3⟩
   have H1:=Lib.hid h1;have H2:=Lib.hid (HKPV.out.tr h2);have H3:=Lib.hid (HBV.out.trans h3)
   clear h1 h2 h3
   go_wp2
   go_roundw
   case rel=>exact⟨i+1,by omega,by go_num,H1,H2,H3⟩
   case measure=>simp[intOf];omega
  ·obtain rfl:i=m:=by omega
   have hlti:¬(i:Int)<(i:Int):=by omega
   have hr:=HRA.out
   rw[HM.out,List.take_length]at hr
   have HRR:=Lib.hid hr
   clear hr HRA
   go_wp2
   go_end0
   exact⟨rfl,HRR.out,HKP.out,HB.out⟩
end Go.Proofs.YtgokdgcmkcmjeaaGreat
namespace Go.Proofs.YtgokdgcmkcmjeaaGreat
open Go.RowKit Go.ChangeShapes Go.WideShapes Go.ChangeAt Go.Joins
theorem RdT.rangeS{S:Nat→Prop}{w w':World}{B:Nat}{A:Option Addr}{l:List Tok}(h:RdT w B A l)(hk:KpB S w w'){b o:Nat}(hA:A=some ⟨b,o,none⟩)(hS:S b){j:Nat}(hj:j<l.length):w'.rangeAt b (o+j*3) (tokC (l.getD j tok0)):=
 fun i v hv=>(hk.cell (p:=⟨b,o+j*3+i,none⟩) hS).trans (h.range hA hj i v hv)
structure BookAt (w:World) (S:Nat→Prop) (g n:Nat) (F:Nat→Nat):Prop where
 row:RowC w g n (codeB F n) F
 ins:S g
 chk:checkE F n 15=0
theorem BookAt.kept{S:Nat→Prop}{w w':World}{g n:Nat}{F:Nat→Nat}(h:BookAt w S g n F)(hk:KpB S w w'):BookAt w' S g n F:=⟨h.row.kept hk h.ins,h.ins,h.chk⟩
theorem BookAt.of{S:Nat→Prop}{w:World}{g n:Nat}{F:Nat→Nat}(h:BookAt w S g n F)(c i:Nat)(hi:i<n)(hn:n≤1000000)(Z Y:Nat)(hZ:codP F n i=(Z,Y)):
  Calls Tryz.prog 49 #[.slice (some ⟨g,0,none⟩) n c,.int .i64 (i:Int)] w fun e w'=>e=.returned (.agg #[.int .u32 (Z:Int),.int .i64 (Y:Int)])∧Below w.heap.size w w':=by
 have h1:=of11_any w g n c F i h.row h.chk hi hn
 rw[hZ]at h1
 exact h1
theorem BookAt.fit{S:Nat→Prop}{w:World}{g n:Nat}{F:Nat→Nat}(h:BookAt w S g n F){i:Nat}(hi:i<n):FitN (codP F n i):=by
 obtain⟨_,h2⟩:=code_fits h.chk hi
 exact⟨turnN_lt _ _,by show F i≤16;omega⟩
theorem toksP_take{F G:Nat→Nat}{n k:Nat}{l:List Tok}{i:Nat}(h:i<l.length):(l.take (i+1)).flatMap (tokP F n G k)=(l.take i).flatMap (tokP F n G k)++tokP F n G k (l.getD i tok0):=by
 rw[take_one h,List.flatMap_append];simp
theorem bitsT_flat_le{F G:Nat→Nat}{n k:Nat}(l:List Tok)(i:Nat):bitsT ((l.take i).flatMap (tokP F n G k))≤bitsT (toksP F n G k l):=by
 have e:l.flatMap (tokP F n G k)=(l.take i).flatMap (tokP F n G k)++(l.drop i).flatMap (tokP F n G k):=by rw[←List.flatMap_append,List.take_append_drop]
 unfold toksP
 rw[e,bitsT_app,bitsT_app];omega
theorem tokens11_any(w:World)(S:Nat→Prop)(B g:Nat)(f:Nat→Nat)(K:Nat)(A2:Option Addr)(m c2:Nat)(l:List Tok)(F:Nat→Nat)(ga n ca:Nat)(G:Nat→Nat)(gb k cb:Nat)(h:RowAt w S B g f K)(hm:m=l.length)(hr:RdT w w.heap.size A2 l)(hS:InS S A2 m)(hm2:m≤1000000)
  (ha:BookAt w S ga n F) (hb:BookAt w S gb k G) (hn:n≤1000) (hkk:k≤1000) (h256:256<n) (hok:∀t∈l,mayT t=true∧t.x<256) (hin:∀t∈l,symA t<n∧(t.n≠0→symB t<k)) (hk:K+bitsT (toksP F n G k l)≤16000000):
  Calls Tryz.prog 47 #[.pointer (some ⟨g,0,none⟩),.slice A2 m c2,.func (.func 49) #[.slice (some ⟨ga,0,none⟩) n ca] #[],.func (.func 49) #[.slice (some ⟨gb,0,none⟩) k cb] #[]] w fun e w'=>e=.returned (.tuple #[])∧RowAt w' S B g (putsF f K (toksP F n G k l)) (K+bitsT (toksP F n G k l))∧KpB S w w'∧Below B w w':=by
 have H:=Lib.hid h;have HM:=Lib.hid hm;have HR:=Lib.hid hr;have HS:=Lib.hid hS;have HA:=Lib.hid ha;have HBB:=Lib.hid hb;have HOK:=Lib.hid hok;have HIN:=Lib.hid hin;have HK:=Lib.hid hk
 clear h hm hr hS ha hb hok hin hk
 go_enter Tryz.func47,Tryz.ntmps47
 go_wp2_with fail
 go_loopw [16] (fun iv wr=>∃i:Nat,i≤m∧iv=.int .i64 (i:Int)∧Hid (RowAt wr S B g (putsF f K ((l.take i).flatMap (tokP F n G k))) (K+bitsT ((l.take i).flatMap (tokP F n G k))))∧Hid (KpB S w wr)∧Hid (Below B w wr)) (fun iv _=>m-(intOf iv).toNat)
 case atStart=>exact⟨0,Nat.zero_le _,rfl,Lib.hid H.out,Lib.hid (KpB.refl _ _),Lib.hid (Below.refl _ _)⟩
 case round=>
  obtain⟨i,hi,rfl,HRA,HKP,HB⟩:=hrel
  by_cases hlt:i<m
  ·have hlti:(i:Int)<(m:Int):=by omega
   have hil:i<l.length:=by rw[←HM.out];exact hlt
   obtain⟨b,o,rfl,hbl,hc⟩:=HR.out.at hil
   have hSb:S b:=HS.out b o (by omega) rfl
   have hrg:=HR.out.rangeS HKP.out rfl hSb hil
   have hmem:l.getD i tok0∈l:=by rw[List.getD_eq_getElem?_getD,List.getElem?_eq_getElem hil];exact List.getElem_mem hil
   obtain⟨hmy,hx8⟩:=HOK.out _ hmem
   obtain⟨hsa,hsb⟩:=HIN.out _ hmem
   have hstep:=toksP_take (F:=F) (G:=G) (n:=n) (k:=k) hil
   have hle:=bitsT_flat_le (F:=F) (G:=G) (n:=n) (k:=k) l (i+1)
   obtain⟨t,ht⟩:∃t,t=l.getD i tok0:=⟨_,rfl⟩
   rw[←ht]at hrg hmy hx8 hsa hsb hstep
   obtain⟨Q,hQ⟩:∃Q,Q=putsF f K ((l.take i).flatMap (tokP F n G k)):=⟨_,rfl⟩
   obtain⟨q,hq⟩:∃q,q=K+bitsT ((l.take i).flatMap (tokP F n G k)):=⟨_,rfl⟩
   have hra:=HRA.out
   rw[←hQ,←hq]at hra
   have hbe:q+bitsT (tokP F n G k t)=K+bitsT ((l.take (i+1)).flatMap (tokP F n G k)):=by rw[hstep,bitsT_app,hq];omega
   have hfe:putsF Q q (tokP F n G k t)=putsF f K ((l.take (i+1)).flatMap (tokP F n G k)):=by rw[hstep,putsF_app,hQ,hq]
   have hqb:q+bitsT (tokP F n G k t)≤16000000:=by have:=HK.out;omega
   obtain⟨W3,hW3⟩:∃W3,W3=mkV wr #[.int .u8 0,.int .i64 0,.int .i64 0] (tokC t).toArray 36:=⟨_,rfl⟩
   have hb3:Below wr.heap.size wr W3:=by rw[hW3];exact mkV_below _ _ _ _
   have hrow:W3.heap[wr.heap.size]?=some (.cells (tokC t).toArray 36 (0,0)):=by rw[hW3];exact mkV_row wr _ _ _
   have hs3:wr.heap.size<W3.heap.size:=(Array.getElem?_eq_some_iff.1 hrow).1
   obtain⟨S',hS'⟩:∃S':Nat→Prop,S'=fun j=>S j∨(wr.heap.size≤j∧j<W3.heap.size):=⟨_,rfl⟩
   have hSS:∀j,S j→S' j:=fun j hj=>by rw[hS'];exact .inl hj
   have hSv:S' wr.heap.size:=by rw[hS'];exact .inr ⟨Nat.le_refl _,hs3⟩
   have hra3:RowAt W3 S' B g Q q:=by rw[hS'];exact hra.grow hb3
   have y0:W3.cell? ⟨wr.heap.size,0,none⟩=some (.int .u8 (t.x:Int)):=(cell_of_row W3 _ 0 _ _ (0,0) hrow).trans rfl
   have y1:W3.cell? ⟨wr.heap.size,1,none⟩=some (.int .i64 t.d):=(cell_of_row W3 _ 1 _ _ (0,0) hrow).trans rfl
   have y2:W3.cell? ⟨wr.heap.size,2,none⟩=some (.int .i64 t.n):=(cell_of_row W3 _ 2 _ _ (0,0) hrow).trans rfl
   have hk3:KpB S w W3:=HKP.out.tr (KpB.below hra.top hb3)
   have HRA3:=Lib.hid hra3;have HSS:=Lib.hid hSS;have HSV:=Lib.hid hSv;have HK3:=Lib.hid hk3;have HB3:=Lib.hid (HB.out.trans (hb3.mono hra.size));have HW3:=Lib.hid hW3;have HRG:=Lib.hid hrg
   have HBE:=Lib.hid hbe;have HFE:=Lib.hid hfe;have HMY:=Lib.hid hmy;have HSB:=Lib.hid hsb
   clear hra3 hSS hSv hk3 hb3 hrow hW3 hS' hra hrg hbe hfe hQ hq hstep hle ht hmem hc hbl hSb HRA
   by_cases h0:t.n=0
   ·have hn0:(t.n==0)=true:=by rw[h0];rfl
    have hsx:symA t=t.x:=by unfold symA;rw[if_pos h0]
    have htp:tokP F n G k t=[codP F n t.x]:=by unfold tokP;rw[if_pos h0]
    rw[hsx]at hsa
    rw[htp]at hqb
    have hbe:=HBE.out
    have hfe:=HFE.out
    rw[htp]at hbe hfe
    obtain⟨x,hx⟩:∃x,x=t.x:=⟨_,rfl⟩
    rw[←hx]at hsa hqb hbe hfe y0 hx8
    have hft:=HA.out.fit (i:=x) hsa
    obtain⟨⟨Z,Y⟩,hZ⟩:∃t,t=codP F n x:=⟨_,rfl⟩
    rw[←hZ]at hqb hbe hfe hft
    have hof:=(HA.out.kept HK3.out).of ca x hsa (by omega) Z Y hZ.symm
    have HOF:=Lib.hid hof;have HBE:=Lib.hid hbe;have HFE:=Lib.hid hfe;have HFT:=Lib.hid hft
    clear hof hbe hfe hft hZ hx hsx htp HMY HSB hmy hsb
    go_wp2_with (first|refine wpList_load_mid rfl _ _ rfl b (o+i*3) rfl (tokC t) _ HRG.out Tryz.underlying36 rfl szTok ?_|refine wpList_store_rowTo rfl _ _ _ rfl rfl wr.heap.size (tokC t).toArray rfl rfl 36 #[.int .u8 0,.int .i64 0,.int .i64 0] (heap_alloc_new wr _) (szTokA _) rfl (tokA_one _) ?_;change wpList _ _ _ _ _ (mkV wr #[.int .u8 0,.int .i64 0,.int .i64 0] (tokC t).toArray 36);rw[←HW3.out]|fail)
    refine HOF.out.mono ?_
    rintro e w4 ⟨rfl,hb4⟩
    have hput:=put_lit w4 S' B g Q q [(Z,Y)] 1 rfl #[.int .u32 (Z:Int),.int .i64 (Y:Int)] rfl (HRA3.out.after hb4) (by omega) (fun z hz=>by
     simp only[List.mem_singleton]at hz;rw[hz];exact HFT.out) hqb
    rw[HBE.out,HFE.out]at hput
    have HPUT:=Lib.hid hput;have HK4:=Lib.hid (HK3.out.tr ((KpB.below HRA3.out.top hb4).less HSS.out));have HB4:=Lib.hid (HB3.out.trans (hb4.mono HRA3.out.size))
    clear hput hb4 y0 y1 y2
    go_wp2_with fail
    refine HPUT.out.mono ?_
    rintro e w5 ⟨rfl,h1,h2,h3⟩
    have H1:=Lib.hid (h1.less HSS.out);have H2:=Lib.hid (HK4.out.tr (h2.less HSS.out));have H3:=Lib.hid (HB4.out.trans h3)
    clear h1 h2 h3
    go_wp2
    go_roundw
    case rel=>exact⟨i+1,by omega,by go_num,H1,H2,H3⟩
    case measure=>simp[intOf];omega
   ·have hn0:(t.n==0)=false:=by rw[beq_eq_false_iff_ne];exact h0
    obtain⟨hE1,hE2,_,_⟩:=(sym_lt hmy hx8).2.2 h0
    obtain⟨hf1,hf2⟩:=ext_fit hmy hx8 h0
    obtain⟨_,_,_,_,p1,_,p3,p4⟩:=long_there hE1
    obtain⟨_,_,_,_,q1,_,q3,q4⟩:=far_there hE2
    have hsD:=hsb h0
    have eS:lgS t.n=((symA t:Nat):Int):=by
     have h5:3≤t.n∧t.n≤258:=lg_ok hE1
     have:0≤lgS t.n:=by unfold lgS;rw[if_pos h5];omega
     unfold symA;rw[if_neg h0];omega
    have eD:frS t.d=((symB t:Nat):Int):=by
     have h5:1≤t.d∧t.d≤32768:=fr_ok hE2
     have:0≤frS t.d:=by unfold frS;rw[if_pos h5];omega
     unfold symB;omega
    have htp:tokP F n G k t=[codP F n (lgS t.n).toNat,((lgX t.n).toNat,(lgB t.n).toNat),codP G k (frS t.d).toNat,((frX t.d).toNat,(frB t.d).toNat)]:=by unfold tokP;rw[if_neg h0]
    rw[eS,eD,Int.toNat_natCast,Int.toNat_natCast]at htp
    obtain⟨u,eu⟩:=Int.eq_ofNat_of_zero_le p3
    obtain⟨v,ev⟩:=Int.eq_ofNat_of_zero_le q3
    obtain⟨x1,ex1⟩:=Int.eq_ofNat_of_zero_le p1
    obtain⟨x2,ex2⟩:=Int.eq_ofNat_of_zero_le q1
    have hlg:=fun V:World=>long9_any V t.n
    have hfr:=fun V:World=>far9_any V t.d
    rw[eS,eu,ex1,hE1]at hlg
    rw[eD,ev,ex2,hE2]at hfr
    rw[ex1,eu,Int.toNat_natCast,Int.toNat_natCast]at hf1
    rw[ex2,ev,Int.toNat_natCast,Int.toNat_natCast]at hf2
    rw[ex1,eu,ex2,ev,Int.toNat_natCast,Int.toNat_natCast,Int.toNat_natCast,Int.toNat_natCast]at htp
    have hx1:x1<65536:=by
     have h1:x1<2^u:=hf1.1
     have e:(2:Nat)^u≤2^16:=Nat.pow_le_pow_right (by omega) hf1.2
     have e2:(2:Nat)^16=65536:=rfl
     omega
    have hx2:x2<65536:=by
     have h1:x2<2^v:=hf2.1
     have e:(2:Nat)^v≤2^16:=Nat.pow_le_pow_right (by omega) hf2.2
     have e2:(2:Nat)^16=65536:=rfl
     omega
    have hu5:u≤16:=hf1.2
    have hv5:v≤16:=hf2.2
    obtain⟨sA,hsA⟩:∃s,s=symA t:=⟨_,rfl⟩
    obtain⟨sD,hsDe⟩:∃s,s=symB t:=⟨_,rfl⟩
    rw[←hsA]at hlg htp hsa
    rw[←hsDe]at hfr htp hsD
    have hft1:=HA.out.fit (i:=sA) hsa
    have hft2:=HBB.out.fit (i:=sD) hsD
    obtain⟨⟨Z1,Y1⟩,hZ1⟩:∃t,t=codP F n sA:=⟨_,rfl⟩
    obtain⟨⟨Z2,Y2⟩,hZ2⟩:∃t,t=codP G k sD:=⟨_,rfl⟩
    rw[←hZ1,←hZ2]at htp
    rw[←hZ1]at hft1
    rw[←hZ2]at hft2
    have hsp:([(Z1,Y1),(x1,u),(Z2,Y2),(x2,v)]:List (Nat×Nat))=[(Z1,Y1),(x1,u)]++[(Z2,Y2),(x2,v)]:=rfl
    have hbe:=HBE.out
    have hfe:=HFE.out
    rw[htp,hsp,bitsT_app]at hqb hbe
    rw[htp,hsp,putsF_app]at hfe
    obtain⟨q2,hq2⟩:∃q2,q2=q+bitsT [(Z1,Y1),(x1,u)]:=⟨_,rfl⟩
    obtain⟨Q2,hQ2⟩:∃Q2,Q2=putsF Q q [(Z1,Y1),(x1,u)]:=⟨_,rfl⟩
    rw[←Nat.add_assoc,←hq2]at hqb hbe
    rw[←hQ2,←hq2]at hfe
    have hqb1:q+bitsT [(Z1,Y1),(x1,u)]≤16000000:=by omega
    have HLG:=Lib.hid hlg;have HFR:=Lib.hid hfr;have HBE2:=Lib.hid hbe;have HFE2:=Lib.hid hfe;have HQB:=Lib.hid hqb;have HQB1:=Lib.hid hqb1;have HQ2:=Lib.hid hq2;have HQ2F:=Lib.hid hQ2
    have HFT1:=Lib.hid hft1;have HFT2:=Lib.hid hft2;have HF1:=Lib.hid hf1;have HF2:=Lib.hid hf2;have HZ1:=Lib.hid hZ1;have HZ2:=Lib.hid hZ2;have HY1:=Lib.hid y1
    clear hlg hfr hbe hfe hqb hqb1 hq2 hQ2 hft1 hft2 hf1 hf2 hZ1 hZ2 htp hsp hsA hsDe eS eD eu ev ex1 ex2 hE1 hE2 p1 p3 p4 q1 q3 q4 hsb hmy hx8 HMY HSB HBE HFE y0 y1
    go_wp2_with (first|refine wpList_load_mid rfl _ _ rfl b (o+i*3) rfl (tokC t) _ HRG.out Tryz.underlying36 rfl szTok ?_|refine wpList_store_rowTo rfl _ _ _ rfl rfl wr.heap.size (tokC t).toArray rfl rfl 36 #[.int .u8 0,.int .i64 0,.int .i64 0] (heap_alloc_new wr _) (szTokA _) rfl (tokA_one _) ?_;change wpList _ _ _ _ _ (mkV wr #[.int .u8 0,.int .i64 0,.int .i64 0] (tokC t).toArray 36);rw[←HW3.out]|fail)
    refine(HLG.out W3).mono ?_
    rintro e w4 ⟨rfl,hb4⟩
    have HRA4:=Lib.hid (HRA3.out.after hb4);have HK4:=Lib.hid (HK3.out.tr ((KpB.below HRA3.out.top hb4).less HSS.out));have HB4:=Lib.hid (HB3.out.trans (hb4.mono HRA3.out.size))
    have HY4:=Lib.hid ((hb4.cell (p:=⟨wr.heap.size,1,none⟩) hs3).trans HY1.out)
    have hs4:wr.heap.size<w4.heap.size:=by have:=hb4.size;omega
    have HOF1:=Lib.hid ((HA.out.kept HK4.out).of ca sA hsa (by omega) Z1 Y1 HZ1.out.symm)
    clear hb4 y2 HRA3 HK3 HB3 HY1 hs3
    go_wp2_with fail
    refine HOF1.out.mono ?_
    rintro e w5 ⟨rfl,hb5⟩
    have hput:=put_lit w5 S' B g Q q [(Z1,Y1),(x1,u)] 2 rfl #[.int .u32 (Z1:Int),.int .i64 (Y1:Int),.int .u32 (x1:Int),.int .i64 (u:Int)] rfl (HRA4.out.after hb5) (by omega) (fun z hz=>by
     simp only[List.mem_cons,List.not_mem_nil,or_false]at hz
     rcases hz with rfl|rfl
     ·exact HFT1.out
     ·exact HF1.out) HQB1.out
    rw[←HQ2.out,←HQ2F.out]at hput
    have HPUT:=Lib.hid hput;have HK5:=Lib.hid (HK4.out.tr ((KpB.below HRA4.out.top hb5).less HSS.out));have HB5:=Lib.hid (HB4.out.trans (hb5.mono HRA4.out.size))
    have HY5:=Lib.hid ((hb5.cell (p:=⟨wr.heap.size,1,none⟩) hs4).trans HY4.out)
    clear hput hb5 HRA4 HK4 HB4 HY4 HOF1 hs4
    go_wp2_with (first
     |(refine wpList_buildTo rfl 146 #[(0,.tmp 44),(1,.tmp 45)] rfl (some 46) rfl #[.int .u32 (x1:Int),.int .i64 (u:Int)] ?_ ?_;focus(simpa[Act.eval]using built_numP (x1:Int) (u:Int)))
     |fail)
    refine HPUT.out.mono ?_
    rintro e w6 ⟨rfl,h1,h2,h3⟩
    have y6:=(h2.cell (p:=⟨wr.heap.size,1,none⟩) HSV.out).trans HY5.out
    have HRA6:=Lib.hid h1;have HK6:=Lib.hid (HK5.out.tr (h2.less HSS.out));have HB6:=Lib.hid (HB5.out.trans h3)
    clear h1 h2 h3 HPUT HK5 HB5 HY5
    go_wp2_with fail
    refine(HFR.out w6).mono ?_
    rintro e w7 ⟨rfl,hb7⟩
    have HRA7:=Lib.hid (HRA6.out.after hb7);have HK7:=Lib.hid (HK6.out.tr ((KpB.below HRA6.out.top hb7).less HSS.out));have HB7:=Lib.hid (HB6.out.trans (hb7.mono HRA6.out.size))
    have HOF2:=Lib.hid ((HBB.out.kept HK7.out).of cb sD hsD (by omega) Z2 Y2 HZ2.out.symm)
    clear hb7 y6 HRA6 HK6 HB6
    go_wp2_with fail
    refine HOF2.out.mono ?_
    rintro e w8 ⟨rfl,hb8⟩
    have hput:=put_lit w8 S' B g Q2 q2 [(Z2,Y2),(x2,v)] 2 rfl #[.int .u32 (Z2:Int),.int .i64 (Y2:Int),.int .u32 (x2:Int),.int .i64 (v:Int)] rfl (HRA7.out.after hb8) (by omega) (fun z hz=>by
     simp only[List.mem_cons,List.not_mem_nil,or_false]at hz
     rcases hz with rfl|rfl
     ·exact HFT2.out
     ·exact HF2.out) HQB.out
    rw[HBE2.out,HFE2.out]at hput
    have HPUT:=Lib.hid hput;have HK8:=Lib.hid (HK7.out.tr ((KpB.below HRA7.out.top hb8).less HSS.out));have HB8:=Lib.hid (HB7.out.trans (hb8.mono HRA7.out.size))
    clear hput hb8 HRA7 HK7 HB7 HOF2
    go_wp2_with (first
     |(refine wpList_buildTo rfl 146 #[(0,.tmp 62),(1,.tmp 63)] rfl (some 64) rfl #[.int .u32 (x2:Int),.int .i64 (v:Int)] ?_ ?_;focus(simpa[Act.eval]using built_numP (x2:Int) (v:Int)))
     |fail)
    refine HPUT.out.mono ?_
    rintro e w9 ⟨rfl,h1,h2,h3⟩
    have H1:=Lib.hid (h1.less HSS.out);have H2:=Lib.hid (HK8.out.tr (h2.less HSS.out));have H3:=Lib.hid (HB8.out.trans h3)
    clear h1 h2 h3
    go_wp2
    go_roundw
    case rel=>exact⟨i+1,by omega,by go_num,H1,H2,H3⟩
    case measure=>simp[intOf];omega
  ·obtain rfl:i=m:=by omega
   have hlti:¬(i:Int)<(i:Int):=by omega
   have hr:=HRA.out
   rw[HM.out,List.take_length]at hr
   obtain⟨Q,hQ⟩:∃Q,Q=putsF f K (l.flatMap (tokP F n G k)):=⟨_,rfl⟩
   obtain⟨q,hq⟩:∃q,q=K+bitsT (l.flatMap (tokP F n G k)):=⟨_,rfl⟩
   rw[←hQ,←hq]at hr
   obtain⟨⟨Z,Y⟩,hZ⟩:∃t,t=codP F n 256:=⟨_,rfl⟩
   have hbe:q+bitsT [(Z,Y)]=K+bitsT (toksP F n G k l):=by unfold toksP;rw[bitsT_app,hq,hZ];omega
   have hfe:putsF Q q [(Z,Y)]=putsF f K (toksP F n G k l):=by unfold toksP;rw[putsF_app,hQ,hq,hZ]
   have hft:=HA.out.fit (i:=256) h256
   rw[←hZ]at hft
   have hof:=(HA.out.kept HKP.out).of ca 256 h256 (by omega) Z Y hZ.symm
   have hqb:q+bitsT [(Z,Y)]≤16000000:=by rw[hbe];exact HK.out
   have HRR:=Lib.hid hr;have HOF:=Lib.hid hof;have HBE:=Lib.hid hbe;have HFE:=Lib.hid hfe;have HFT:=Lib.hid hft
   clear hr hof hbe hfe hft hZ hQ hq HRA
   go_wp2_with fail
   refine HOF.out.mono ?_
   rintro e w4 ⟨rfl,hb4⟩
   have hput:=put_lit w4 S B g Q q [(Z,Y)] 1 rfl #[.int .u32 (Z:Int),.int .i64 (Y:Int)] rfl (HRR.out.after hb4) (by omega) (fun z hz=>by
    simp only[List.mem_singleton]at hz;rw[hz];exact HFT.out) hqb
   rw[HBE.out,HFE.out]at hput
   have HPUT:=Lib.hid hput;have HK4:=Lib.hid (HKP.out.tr (KpB.below HRR.out.top hb4));have HB4:=Lib.hid (HB.out.trans (hb4.mono HRR.out.size))
   clear hput hb4
   go_wp2_with fail
   refine HPUT.out.mono ?_
   rintro e w5 ⟨rfl,h1,h2,h3⟩
   have H1:=Lib.hid h1;have H2:=Lib.hid (HK4.out.tr h2);have H3:=Lib.hid (HB4.out.trans h3)
   clear h1 h2 h3
   go_wp2
   go_end0
   exact⟨rfl,H1.out,H2.out,H3.out⟩
end Go.Proofs.YtgokdgcmkcmjeaaGreat
