/-
  Words and walks.
-/
import Derived.RangeFuncFrom
import Derived.RangeFuncBox
import Derived.RangeFuncLeaves
import Derived.RangeFuncBound
import Derived.RangeFuncCalls
import Derived.Shelf.RegionOpen
import Derived.OwnWalkIn
import Derived.TacticsInMore
import Derived.LoopNIn
import Derived.LoopIn
import Derived.Test.YtgokdgcmkcmjeaaGreatqkaa
import Derived.Test.YtgokdgcmkcmjeaaGreatqkab
import Derived.Test.YtgokdgcmkcmjeaaGreatqkac
set_option maxRecDepth 100000
set_option maxHeartbeats 16000000
namespace Go.Proofs.YtgokdgcmkcmjeaaGreat
open Value renaming int → ae, slice → af, pointer → ag, agg → ai, bool → aj
open IntKind renaming i64 → ak
open Obj renaming cells → ao
open Ending renaming returned → aq
open Go renaming World → au, Addr → aw, Calls → ax, Value → ay, Program → aA, Oper → aB, TypeId → aC, wpList_store_rowTo → aD, wpList_buildTo → aE, wpList_load_row → aF, heap_alloc_new → aH, cell_of_row → aI, setRow_heap → aJ, bodyPost_ret → aL, heap_setCell_same → aO, frozen_of_row → aP
open Go.RowKit renaming intOf → aQ, Hid → aR, Below → aS
open _root_.Go.Proofs.Tryz
open Go.RowKit
def vC(c:Nat->Int)(v:ay)(n a:Int):List ay:=lS c++[v,ae ak n,ae ak a]
def mc(c:Nat->Int)(v:ay)(n a:Int):Array ay:=(vC c v n a).toArray
theorem AJ(c:Nat->Int)(v:ay)(n a:Int):(mc c v n a).size=19:=by simp[mc,vC,lS]
theorem xO(c:Nat->Int)(v:ay)(n a:Int)(i:Nat):(mc c v n a)[i]?=if i<16 then some (ae ak (c i))else if i=16 then some v else if i=17 then some (ae ak n)else if i=18 then some (ae ak a)else none:=by
 have e:(mc c v n a)[i]?=(vC c v n a)[i]?:=by simp[mc]
 rw[e];unfold vC;rw[List.getElem?_append,xo,xp];by_cases h:i<16
 ·rw[if_pos h,if_pos h,if_pos h]
 ·rw[if_neg h,if_neg h];by_cases h2:i=16
  ·subst h2;rfl
  ·rw[if_neg h2];by_cases h3:i=17
   ·subst h3;rfl
   ·rw[if_neg h3];by_cases h4:i=18
    ·subst h4;rfl
    ·rw[if_neg h4,List.getElem?_eq_none (by simp;omega)]
theorem FU:(prog.info? 220).map (fun i=>(i.zero,i.size))=some (some (ai (mc (fun _=>0) (af none 0 0) 0 0)),19):=by kernel_rfl
theorem Nu:(prog.info? 220).map (·.size)=some 19:=(zero_of_info FU).2
def jq(w:au)(b:Nat)(c:Nat->Int)(v:ay)(n a:Int):Prop:=w.heap[b]?=some (ao (mc c v n a) 220 (0,0))
theorem jq.kR{w:au}{b:Nat}{c:Nat->Int}{v:ay}{n a:Int}(h:jq w b c v n a){i:Nat}(hi:i<16):w.cell? ⟨b,i,none⟩=some (ae ak (c i)):=by
 rw[aI w b i _ _ (0,0) h,xO,if_pos hi]
theorem jq.syms{w:au}{b:Nat}{c:Nat->Int}{v:ay}{n a:Int}(h:jq w b c v n a):w.cell? ⟨b,16,none⟩=some v:=by
 rw[aI w b 16 _ _ (0,0) h,xO,if_neg (by omega),if_pos rfl]
theorem jq.FV{w:au}{b:Nat}{c:Nat->Int}{v:ay}{n a:Int}(h:jq w b c v n a):w.cell? ⟨b,17,none⟩=some (ae ak n):=by
 rw[aI w b 17 _ _ (0,0) h,xO,if_neg (by omega),if_neg (by omega),if_pos rfl]
theorem jq.ahead{w:au}{b:Nat}{c:Nat->Int}{v:ay}{n a:Int}(h:jq w b c v n a):w.cell? ⟨b,18,none⟩=some (ae ak a):=by
 rw[aI w b 18 _ _ (0,0) h,xO,if_neg (by omega),if_neg (by omega),if_neg (by omega),if_pos rfl]
theorem jq.frozen{w:au}{b:Nat}{c:Nat->Int}{v:ay}{n a:Int}(h:jq w b c v n a)(j:Nat):w.frozen? ⟨b,j,none⟩=false:=aP w b j _ _ h
theorem jq.drewN{w:au}{b:Nat}{c:Nat->Int}{v:ay}{n a:Int}(h:jq w b c v n a)(k:Nat):jq (w.drewN k) b c v n a:=h
theorem jq.xq{w:au}{b:Nat}{c:Nat->Int}{v:ay}{n a:Int}(h:jq w b c v n a)(u:ay):jq (w.setCell ⟨b,16,none⟩ u) b c u n a:=by
 unfold jq;rw[aO w b 16 _ _ _ h];rfl
theorem jq.Nv{w:au}{b:Nat}{c:Nat->Int}{v:ay}{n a:Int}(h:jq w b c v n a)(x:Int):jq (w.setCell ⟨b,17,none⟩ (ae ak x)) b c v x a:=by
 unfold jq;rw[aO w b 17 _ _ _ h];rfl
theorem jq.xP{w:au}{b:Nat}{c:Nat->Int}{v:ay}{n a:Int}(h:jq w b c v n a)(x:Int):jq (w.setCell ⟨b,18,none⟩ (ae ak x)) b c v n x:=by
 unfold jq;rw[aO w b 18 _ _ _ h];rfl
theorem FW(w:au)(b:Nat)(c:Nat->Int)(A:Option aw)(m cap:Nat)(n a:Int)(h:jq w b c (af A m cap) n a):
  ax prog 148 #[ag (some ⟨b,0,none⟩)] w fun e w'=>e=aq (aj (decide (0<m)))/\w=w':=by
 have k:=h.syms
 clear h
 cases hd:decide (0<m)
 ·have h2:decide ((m:Int)>0)=false:=by simp at hd⊢;omega
  have h3:decide ((0:Int)<(m:Int))=false:=by simp at hd⊢;omega
  go_enter func148,ntmps148
  go_wp2;go_ret;exact⟨rfl,rfl⟩
 ·have h2:decide ((m:Int)>0)=true:=by simp at hd⊢;omega
  have h3:decide ((0:Int)<(m:Int))=true:=by simp at hd⊢;omega
  go_enter func148,ntmps148
  go_wp2;go_ret;exact⟨rfl,rfl⟩
def Nw(w0:au)(b:Nat)(c:Nat->Int)(A:Option aw)(m cap n a bit:Nat)(l:List Int)(e:Ending)(w':au):Prop:=
 aS b w0 w'/\∃q:Nat,c (n+1)=(q:Int)/\((2*a+bit<q/\e=aq (.tuple #[ae ak (l.getD (2*a+bit) 0),aj true]))\/
  (q<=2*a+bit/\e=aq (.tuple #[ae ak 0,aj false])/\∃A2,(A=none->A2=none)/\(∀x,A=some x->A2=if cap=q then some x else some (x.add q))/\jq w' b c (af A2 (m-q) (cap-q)) ((n+1:Nat):Int) ((2*a+bit-q:Nat):Int)))
theorem Nx(w:au)(b:Nat)(c:Nat->Int)(A:Option aw)(m cap n a bit q:Nat)(l:List Int)(h:jq w b c (af A m cap) (n:Int) (a:Int))(hl:m=l.length)(hr:iM w b A l)(aV:m<=cap)(hc:cap<=maxLen)(hn:n<15)(ha:a<=1000000)(hb:bit<2)
  (hq:c (n+1)=(q:Int)) (aW:q<=m):
  ax prog 149 #[ag (some ⟨b,0,none⟩),ae ak (bit:Int)] w (Nw w b c A m cap n a bit l):=by
 unfold maxLen at hc
 have k1:=h.FV
 have f1:=h.frozen 17
 have f0:=h.frozen 16
 have h2:=h.Nv ((n:Int)+1)
 have k2:=h2.ahead
 have f2:=h2.frozen 18
 have h3:=h2.xP (2*(a:Int)+(bit:Int))
 have k3:=h3.FV
 have k4:=h3.kR (show n+1<16 by omega)
 have k5:=h3.ahead
 have k6:=h3.syms
 have f5:=h3.frozen 18
 rw[hq]at k4
 have ah:=((Below.refl b w).setCell (p:=⟨b,17,none⟩) fe (ae ak ((n:Int)+1))).setCell (p:=⟨b,18,none⟩) fe (ae ak (2*(a:Int)+(bit:Int)))
 have HB:=fa ah;have H3:=fa h3;have HR:=fa hr;have HL:=fa hl;have HQ:=fa hq
 clear h h2 h3 ah hr hl hq
 have aU:(n:Int)+1<16:=by omega
 by_cases hx:2*a+bit<q
 ·have hd:decide (2*(a:Int)+(bit:Int)<(q:Int))=true:=by simp;omega
  obtain⟨b1,o,rfl,aX,al⟩:=(HR.out.below HB.out fe).at (k:=2*a+bit) (by rw[<-HL.out];omega);have e1:=al (2*a+bit) (by rw[<-HL.out];omega);obtain⟨y,hy⟩:=fb (l.getD (2*a+bit) 0);rw[<-hy]at e1;have HY:=fa hy;clear al hy;go_enter func149,ntmps149
  go_wp2;go_quiet (fail)
  go_wp2;go_quiet (fail)
  go_wp2;go_ret2;exact⟨rh (rh HB.out _) _,q,HQ.out,.inl ⟨hx,by rw[HY.out];rfl⟩⟩
 ·have hd:decide (2*(a:Int)+(bit:Int)<(q:Int))=false:=by simp;omega
  have av:2*(a:Int)+(bit:Int)-(q:Int)=((2*a+bit-q:Nat):Int):=by omega
  have h4:=H3.out.xP (2*(a:Int)+(bit:Int)-(q:Int));have H4:=fa h4;have aT:=fa av
  have k7:=h4.syms;have f7:=h4.frozen 16;clear h4 av;have aY:q<=cap:=by omega
  rcases A with _|x
  ·go_enter func149,ntmps149
   go_wp2;go_quiet (fail)
   go_wp2;go_ret2;refine⟨((rh HB.out nq).setCell (p:=⟨b,18,none⟩) fe _).setCell (p:=⟨b,16,none⟩) fe _,q,HQ.out,.inr ⟨by omega,rfl,none,fun _=>rfl,(fun x h=>by cases h),?_⟩⟩;have ad:=((H3.out.drewN nq).xP (2*(a:Int)+(bit:Int)-(q:Int))).xq (af none (m-q) (cap-q));rw[<-aT.out];exact ad
  ·obtain⟨A2,hA2⟩:∃A2,(if cap=q then(some x:Option aw)else some (x.add q))=A2:=⟨_,rfl⟩;go_enter func149,ntmps149
   go_wp2;go_quiet (fail)
   go_wp2;go_ret2;refine⟨((rh HB.out nq).setCell (p:=⟨b,18,none⟩) fe _).setCell (p:=⟨b,16,none⟩) fe _,q,HQ.out,.inr ⟨by omega,rfl,A2,(fun h=>by cases h),(fun y h=>by cases h;exact hA2.symm),?_⟩⟩;have ad:=((H3.out.drewN nq).xP (2*(a:Int)+(bit:Int)-(q:Int))).xq (af A2 (m-q) (cap-q));rw[<-aT.out];exact ad
theorem Ny(g:Nat->Nat)(k:Nat):UR g k 1=iO g k:=by simp[UR]
def Gone(f:Nat->Nat)(g:Nat->Nat)(l at_ n:Nat):Prop:=UT f 320 g l at_ 17 0=UT f 320 g l at_ (17-n) n/\Vl f 320 (bvN g at_ n) n 320=none
theorem Nz(f g:Nat->Nat)(l at_:Nat):Gone f g l at_ 0:=⟨rfl,vo.2 fun i _=>decide_eq_false fun h=>by omega⟩
theorem NC{f g:Nat->Nat}{l at_ n:Nat}(h:Gone f g l at_ n)(hn:n<=15)(hm:kp f 320 (bvN g at_ n) n 320=false):UT f 320 g l at_ 17 0=(0,0,50):=by
 rw[h.1,show 17-n=(16-n)+1 by omega];simp only[UT];rw[h.2];simp only;rw[if_pos hm]
theorem ND{f g:Nat->Nat}{l at_ n:Nat}(h:Gone f g l at_ n)(hn:n<=15)(hm:kp f 320 (bvN g at_ n) n 320=true)(hl:8*l<=at_+n):UT f 320 g l at_ 17 0=(0,0,10):=by
 rw[h.1,show 17-n=(16-n)+1 by omega];simp only[UT];rw[h.2];simp only;rw[if_neg (by rw[hm];decide),if_pos hl]
theorem FX{f g:Nat->Nat}{l at_ n:Nat}(h:Gone f g l at_ n)(hn:n<=15)(hm:kp f 320 (bvN g at_ n) n 320=true)(hl:at_+n<8*l):UT f 320 g l at_ 17 0=UT f 320 g l at_ (17-(n+1)) (n+1):=by
 rw[h.1,show 17-n=(17-(n+1))+1 by omega];simp only[UT];rw[h.2];simp only;rw[if_neg (by rw[hm];decide),if_neg (by omega)]
theorem NF{f g:Nat->Nat}{l at_ n i:Nat}(h:Gone f g l at_ n)(hn:n<15)(hm:kp f 320 (bvN g at_ n) n 320=true)(hl:at_+n<8*l)(hf:Vl f 320 (bvN g at_ (n+1)) (n+1) 320=some i):UT f 320 g l at_ 17 0=(i,at_+(n+1),0):=by
 rw[FX h (by omega) hm hl,show 17-(n+1)=(15-n)+1 by omega];simp only[UT];rw[hf]
theorem NG(c:Nat->Int)(A:Option aw)(m cap:Nat):prog.built 220 [(0,ai (lS c).toArray),(1,af A m cap)]=some (mc c (af A m cap) 0 0):=by
 kernel_rfl
theorem NH(c:Nat->Int)(v:ay)(n a:Int)(hv:v.oneCell'=true):(mc c v n a).all (·.oneCell')=true:=
 all_oneCell_toArray fun u hu=>by
  unfold vC lS at hu;rcases List.mem_append.1 hu with h|h
  ·obtain⟨i,_,rfl⟩:=List.mem_map.1 h;rfl
  ·simp at h;rcases h with rfl|rfl|rfl
   ·exact hv
   ·rfl
   ·rfl
theorem NI(w:au)(c:Nat->Int)(v:ay)(s:List Int)(hv:nV w w.heap.size v s)(hs:s.length<=1000000)(Ab:Option aw)(l cb:Nat)(g:Nat->Nat)(hg:fB w w.heap.size Ab l g)(hl:l<=1000000)(a:Int)(cq: -9223372036854775808<=a)(ha:a<=9223372036854775807):
  ax prog 102 #[ai (fJ c v),af Ab l cb,ae ak a] w fun e w'=>MG c s g l a e/\aS w.heap.size w w':=by
 have hz:=(zero_of_info FU).1
 have hb:=(Below.refl w.heap.size w).alloc fe (ao (fJ c v) 26)
 have bM:=Nt (w.alloc (ao (fJ c v) 26)) c v s ((hv.below hb fe).more hb.size) hs
 have bN:=fa bM;have HB:=fa hb;have HT:=fa (EX w c v);have HG:=fa hg;have HV:=fa hv
 have bO:=EX w c v
 clear bM hb hg hv
 go_enter func102,ntmps102
 go_wp2_with (refine aF rfl _ _ rfl w.heap.size rfl _ (fJ c v) (0,0) _ HT.out underlying26 rfl (by rw[jl];exact oZ) ?_)
 refine bN.out.mono ?_
 rintro e w2 ⟨bP,aT⟩
 have bQ:=bO.below aT (by simp)
 have bR:=fa bQ
 have bx:=fa (HB.out.trans (aT.mono HB.out.size))
 have cD:w.heap.size<w2.heap.size:=by have:=aT.size;simp at this;omega
 clear aT bQ bO
 rcases bP with⟨⟨f,hf⟩,rfl⟩|⟨bS,rfl⟩
 ·by_cases aX:a<0
  ·have hd:decide (a<0)=true:=by simpa using aX
   have HF:=fa hf;have hx:tI f g l a=(0,0,2):=by unfold tI;rw[if_pos aX]
   have HX:=fa hx;clear hf hx;go_wp2;go_ret3
   exact⟨.inl ⟨f,HF.out,by rw[HX.out];rfl⟩,bx.out⟩
  ·have hd:decide (a<0)=false:=by simpa using aX
   obtain⟨at_,rfl⟩:=Int.eq_ofNat_of_zero_le (show 0<=a by omega);have hx:tI f g l (at_:Int)=UT f 320 g l at_ 17 0:=by unfold tI;rw[if_neg aX,Int.toNat_natCast]
   have HF:=fa hf;have HX:=fa hx
   have k1:=bR.out.syms;have bq:jq (w2.alloc (ao (mc (fun _=>0) (af none 0 0) 0 0) 220)) w2.heap.size (fun _=>0) (af none 0 0) 0 0:=aH w2 _;have aY:=fa bq;obtain⟨A,cap,rfl,bT,bU⟩:=HV.out;have cr:=fa bT;have bz:=fa bU
   clear hf hx bq bT bU;obtain⟨m,hm⟩:=fb (s.length);rw[<-hm]at k1;have HM:=fa hm;clear hm;clear cq bN HB HT HV aX;go_wp2_with (first
    |(refine wpList_load_mid rfl _ _ rfl w.heap.size 0 rfl (lS c) _ bR.out.range underlying23 rfl (by rw[xo];exact EN) ?_)
    |(refine aE rfl 220 #[(0,.tmp 23),(1,.tmp 25)] rfl (some 26) rfl (mc c (af A m cap) 0 0) ?_ ?_;focus(simpa[Act.eval]using NG c A m cap))
    |(refine xl rfl _ _ _ rfl w2.heap.size (mc c (af A m cap) 0 0) rfl rfl _ (mc (fun _=>0) (af none 0 0) 0 0) aY.out (by rw[AJ];exact Nu) (by rw[AJ,AJ]) (NH _ _ _ _ rfl) ?_))
   have bV:aS w.heap.size w ((w2.alloc (ao (mc (fun _=>0) (af none 0 0) 0 0) 220)).setRow w2.heap.size (mc c (af A m cap) 0 0)):=tF (bx.out.alloc (by omega) _) (by omega) _;have bW:jq ((w2.alloc (ao (mc (fun _=>0) (af none 0 0) 0 0) 220)).setRow w2.heap.size (mc c (af A m cap) 0 0)) w2.heap.size c (af A m cap) ((0:Nat):Int) ((0:Nat):Int):=aJ _ _ _ _ _ _ aY.out;have bX:=fa bV;have ct:=fa bW
   clear bV bW aY k1;simp only[Act.put];go_loopw [2] (fun av wr=>∃(n ah k cp:Nat) (A2:Option aw),n<=15/\ah<=1000000/\k<=cp/\cp<=maxLen/\k<=1000000/\av=ae ak ((at_+n:Nat):Int)/\aR (jq wr w2.heap.size c (af A2 k cp) (n:Int) (ah:Int))/\aR (k=(s.drop (fM f 320 n)).length)/\aR (iM wr w2.heap.size A2 (s.drop (fM f 320 n)))/\aR (A2=none->cp=0)/\aR (ah*pt n+ia f 320 n=bvN g at_ n*pt n)/\aR (Gone f g l at_ n)/\(n=0\/at_+n<=8*l)/\aR (aS w.heap.size w wr)) (fun av _=>8*l+1-(aQ av).toNat)
   case atStart=>
    refine⟨0,0,m,cap,A,by omega,by omega,by rw[HM.out];exact bz.out.2.1,bz.out.2.2,by rw[HM.out];exact hs,rfl,ct,fa (by rw[HM.out];rfl),fa ?_,fa bz.out.1,fa ?_,fa (Nz f g l at_),.inl rfl,bX⟩
    ·exact((cr.out.below bX.out fe).more (by omega))
    ·simp[ia,bvN]
   case round=>
    obtain⟨n,ah,k,cp,A2,hn,cu,bA,bY,cH,rfl,bB,HK,bZ,b0,HE,bf,cI,aW⟩:=hrel;have hf:=HF.out;have bg:=vh hf;obtain⟨_,_,_,_,aV,al⟩:=lk hf.1;have bj:=(EJ hf).1;have hv:=EW g at_ n;have aZ:=Nd (v:=bvN g at_ n) bg aV al hn hv (by rw[<-HE.out];omega);have bC:k=fM f 320 15-fM f 320 n:=by rw[HK.out,List.length_drop,bj]
    by_cases cv:k=0
    ·have b1:kp f 320 (bvN g at_ n) n 320=false:=by rw[aZ];exact decide_eq_false (by omega)
     have ad:=fa (NC bf.out hn b1);subst cv;have hop:=FW wr w2.heap.size c A2 0 cp (n:Int) (ah:Int) bB.out;rw[show decide (0<0)=false from rfl]at hop;have bl:=fa hop;clear hf bg aV al bj hv aZ bC b1 hop;go_wp2_with (go_at_call 148;refine bl.out.mono ?_;rintro e w' ⟨rfl,rfl⟩)
     go_ret3
     exact⟨.inl ⟨f,HF.out,by rw[HX.out,ad.out];rfl⟩,aW.out⟩
    ·have bD:fM f 320 n<fM f 320 15:=by omega
     have a1:kp f 320 (bvN g at_ n) n 320=true:=by rw[aZ];exact decide_eq_true bD
     have br:n<15:=by
      rcases Nat.lt_or_ge n 15 with h|h
      ·exact h
      ·obtain rfl:n=15:=by omega
       omega
     have hop:=FW wr w2.heap.size c A2 k cp (n:Int) (ah:Int) bB.out;rw[decide_eq_true (show 0<k by omega)]at hop;have bl:=fa hop;have b2:=(HG.out.below aW.out fe).more aW.out.size;by_cases b3:8*l<at_+n+1
     ·have ad:=fa (ND bf.out hn a1 (by omega));have aU:=DP wr Ab l cb (at_+n) 1 (by omega) (by omega) (by omega) b3;have bE:=fa aU;clear hf bg aV al bj hv aZ bC a1 hop aU b2 bD;go_wp2_with (first
       |(go_at_call 148;refine bl.out.mono ?_;rintro e w' ⟨rfl,rfl⟩)
       |(go_at_call 94;refine bE.out.mono ?_;rintro e w' ⟨rfl,rfl⟩))
      go_ret3
      exact⟨.inl ⟨f,HF.out,by rw[HX.out,ad.out];rfl⟩,aW.out⟩
     ·have aU:=DQ wr w.heap.size Ab l cb g (at_+n) 1 (HG.out.below aW.out fe) (by omega) (by omega) (by omega);rw[Ny]at aU;have aT:=th g (at_+n);have bF:bvN g at_ (n+1)=2*bvN g at_ n+iO g (at_+n):=rfl;obtain⟨bit,bt⟩:=fb (iO g (at_+n));rw[<-bt]at aU aT bF;have hx:=Nb (b:=bit) (show n+1<=15 by omega) HE.out;rw[<-bF]at hx;have bn:=hf.2.2.1 (n+1) (by omega);have bG:fM f 320 (n+1)=fM f 320 n+tcN f (n+1) 320:=rfl;have cw:=zQ f 320 (show n+1<=15 by omega);have a2:=M3 (f:=f) (N:=320) (v:=bvN g at_ (n+1)) (show n+1<=15 by omega) hx;have a3:=Na (f:=f) (N:=320) (v:=bvN g at_ (n+1)) (show n+1<=15 by omega) hx;have a4:=Nc (f:=f) (N:=320) (v:=bvN g at_ (n+1)) hx;have a5:=fun(x:Nat) (h:x<tcN f (n+1) 320)=>(Mm hf (show 0<n+1 by omega) (by omega) h).1
      have b4:=FX bf.out hn a1 (by omega);have b5:=fun(i:Nat)=>NF (i:=i) bf.out br a1 (by omega)
      obtain⟨q,hq⟩:=fb (tcN f (n+1) 320);rw[<-hq]at bn bG a2 a3 a4 a5;have bu:=Nx wr w2.heap.size c A2 k cp n ah bit q (s.drop (fM f 320 n)) bB.out HK.out bZ.out bA bY br cu aT bn (by omega);have cE:at_+n+1<=8*l:=by omega
      have a6:(s.drop (fM f 320 n)).drop q=s.drop (fM f 320 (n+1)):=by rw[List.drop_drop,bG]
      have a7:=fun(x:Nat)=>(show(s.drop (fM f 320 n)).getD x 0=s.getD (fM f 320 (n+1-1)+x) 0 from by rw[List.getD_eq_getElem?_getD,List.getElem?_drop,<-List.getD_eq_getElem?_getD];rfl)
      have bE:=fa aU;have b6:=fa bu;have cx:=fa bn;have a8:=fa a6;have bH:=fa a7
      have b7:=fa a2;have b8:=fa a3;have b9:=fa a4;have ca:=fa a5;have cy:=fa b4;have cz:=fa b5
      have cJ:q<=k:=by omega
      have cK:ah<=32767:=by
       have h1:ah*pt n<=bvN g at_ n*pt n:=by rw[<-HE.out];omega
       have h2:=Nat.le_of_mul_le_mul_right h1 (qX hn);have h3:=Nat.pow_le_pow_right (n:=2) (by omega) hn;have h4:(2:Nat)^15=32768:=rfl;omega
      clear hf bg aV al bj hv aZ bC a1 hop aU b2 bD bu bn bG cw a2 a3 a4 a5 b4 b5 bt bF hx hq a6 a7;go_wp2_with (first
       |(go_at_call 148;refine bl.out.mono ?_;rintro e w' ⟨rfl,rfl⟩)
       |(go_at_call 94;refine bE.out.mono ?_;rintro e w' ⟨rfl,rfl⟩))
      refine b6.out.mono ?_;rintro e w4 ⟨bI,q',cf,bJ⟩;obtain rfl:q'=q:=by have:=cf.symm.trans cx.out;omega
      clear cf;have cg:=fa (aW.out.trans (bI.mono (by omega)));have ch:=fa (bZ.out.below bI fe);clear bI;rcases bJ with⟨a9,rfl⟩|⟨a9,rfl,A3,cA,bK,cj⟩
      ·have ck:=b7.out a9;have ad:=fa (cz.out _ ck);have bL:=ca.out _ a9;rw[<-bH.out]at bL;rw[bL];obtain⟨S,hS⟩:=fb ((US f (n+1) 320).getD (2*ah+bit) 0);rw[<-hS]at ad⊢;clear ck bL hS;go_wp2;go_ret3
       exact⟨.inl ⟨f,HF.out,by rw[HX.out,ad.out];simp[vq];omega⟩,cg.out⟩
      ·have cB:=fa (show Gone f g l at_ (n+1)from⟨cy.out,b8.out a9⟩);have cC:=fa (b9.out a9);have cl:=fa (show iM w4 w2.heap.size A3 (s.drop (fM f 320 (n+1)))from by
        rw[<-a8.out];rcases A2 with _|x
        ·have:=b0.out rfl;exact absurd bA (by omega)
        ·exact FJ ch.out q' cp (by rw[<-HK.out];exact bA) (bK x rfl).symm)
       have cm:=fa (show A3=none->cp-q'=0 from fun h=>by
        rcases A2 with _|x
        ·rw[b0.out rfl];omega
        ·have:=bK x rfl;rw[h]at this;split at this
         ·exact absurd this (by simp)
         ·exact absurd this (by simp))
       have cn:=fa cj;have hlen:=fa (show k-q'=(s.drop (fM f 320 (n+1))).length from by rw[<-a8.out,List.length_drop,<-HK.out]);clear cA bK cj;go_wp2;go_roundw
       case rel=>exact⟨n+1,2*ah+bit-q',k-q',cp-q',A3,by omega,by omega,by omega,by unfold maxLen at bY⊢;omega,by omega,by go_num,cn,hlen,cl,cm,cC,cB,.inr (by omega),cg⟩
       case measure=>simp[aQ];omega
 ·have HF:=fa bS;clear bS;go_wp2;go_ret3
  exact⟨.inr ⟨HF.out,rfl⟩,bx.out⟩
def AL(F:Fence)(n:Nat)(P:aA)(g:Nat)(lb:Array ay)(ad:Nat->Array ay)(Kp:au->au->Prop)(L:Nat)(w:au):Prop:=
 ∀(l:Nat) (J:Nat->au->Prop) (W:au),aS w.heap.size w W->
  (∀j W1,J j W1->j<L->YieldAt F (n-1) P l (ad j) W1 fun e W'=>e=aq (aj true)/\J (j+1) W'/\Kp W1 W')->
  J 0 W->CallsIn F n P g (#[.func (.yield l) #[] #[]]++lb) W fun e W'=>(∃v,e=aq v)/\J L W'
theorem FY{F:Fence}{n:Nat}{P:aA}{g:Operand}{ps:Array Tmp}{assign body:Code}{Q:Exit->Act->au->Prop}{a:Act}{w:au}
  (a2:F.round=none) (h1:1<=n) {gf:Nat} {lb:Array ay} (hg:a.eval g=.func (.func gf) #[] lb) (a4:F.fn gf) (eg:∀args w,(callFunc gf args).run P w=.ok (.enter gf args) w)
  {ah:Nat->Array ay} {Kp:au->au->Prop} {L:Nat} (aW:AL F (n-1) P gf lb ah Kp L w)
  (aX:∀{A B C:au},Kp A B->Kp B C->Kp A C) (aY:∀(W:au) (l:Nat) (o o':Obj),w.heap.size<=l->W.heap[l]?=some o->o.isCells=false->o.isWalk=false->Kp W (W.putObj l o')) (a5:∀j,(ah j).size=ps.size)
  (I:Nat->au->Prop) (hI:OwnFrom w.heap.size I) (h0:I 0 w) (a₁:Nat->Act)
  (al:∀(l j:Nat) (W:au) (K:Act->au->Prop),K (a₁ j) W->
   assign.wpIn (F.inRound l) (n-1-1) P (Exit.then K (fun _ _ _=>False)) {tmps:=(ps.zip (ah j)).foldl (fun t (p,v)=>t.setIfInBounds p v) a.tmps,defers:=[]} W)
  (aU:∀(l j:Nat) (W:au),I j W->j<L->body.wpIn (F.inRound l) (n-1-1) P (fun e _ W'=>e=.normal/\KeepsOthers W W'/\Kp W W'/\I (j+1) W') (a₁ j) W)
  (aV:∀(D:Nat) (W:au),w.heap.size<=D->I L W->W.heap[D]?=some (.deferred (some []))->Q .normal {a with defers:={target:=.collected D,args:=#[]}::a.defers} W):
  (Code.rangeFunc g ps assign body).wpIn F n P Q a w:=by
 refine wpIn_rangeFunc fun fn a6=>?_
 rw[a2]
 obtain⟨rec,ad⟩:∃rec:LoopState->Loop,rec=fun st=>{state:=st,pending:=none,fn,tmps:=a.tmps,params:=ps,assign,body,defers:=w.heap.size}:=⟨_,rfl⟩
 obtain⟨D,hD⟩:=fb (w.heap.size)
 obtain⟨W1,av⟩:=fb ((w.alloc (.deferred (some []))).alloc (.loop (rec .ready)))
 have a7:W1.heap[D+1]?=some (.loop (rec .ready)):=by
  rw[av,hD];have h:=World.alloc_heap_new (w.alloc (.deferred (some []))) (.loop (rec .ready));rwa[World.size_alloc]at h
 have a8:W1.heap[D]?=some (.deferred (some [])):=by
  rw[av,hD];exact(Below.heap_alloc _ _ _ (by simp)).trans (World.alloc_heap_new w _)
 have a9:I 0 W1:=by rw[av];exact hI.alloc _ (hI.alloc _ h0)
 have bf:aS w.heap.size w W1:=by
  rw[av];exact((Below.refl _ w).alloc fe _).alloc (by simp) _
 refine⟨D+1,[{target:=.collected D,args:=#[]}],W1,{target:=.fn (.func gf) lb,args:=#[.func (.yield (D+1)) #[] #[]]},W1,gf,#[.func (.yield (D+1)) #[] #[]]++lb,W1,?_,?_,?_,?_,fun _=>h1,?_⟩
 ·rw[av,ad,hD];exact run_enterLoop_outer _ _ _ _ _
 ·simp only[resolve,hg];simp[go_sem]
 ·intro f' aZ;simp[Target.leads]at aZ;subst aZ;exact a4
 ·simp[invoke,go_sem,eg]
 ·refine(aW (D+1) (fun j W=>I j W/\W.heap[D+1]?=some (.loop (rec .ready))/\W.heap[D]?=some (.deferred (some []))) W1 bf ?_ ⟨a9,a7,a8⟩).mono ?_
  ·rintro j W ⟨hi,hl,hk⟩ hj;have bg:D+1<W.heap.size:=(Array.getElem?_eq_some_iff.1 hl).1;have hy:=run_yield (P:=P) (args:=ah j) hl (by rw[ad];exact a5 j);rw[ad]at hy;refine⟨fn,_,assign,body,hy,roundIn_of_wpIn a6 (al _ j W _ ⟨_,run_beginRound hl (by rw[ad]),?_⟩)⟩;have bj:(W.putObj (D+1) (.loop {rec .ready with state:=.busy})).heap[D+1]?=some (.loop {rec .ready with state:=.busy}):=World.putObj_heap_same bg;have bl:(W.putObj (D+1) (.loop {rec .ready with state:=.busy})).heap[D]?=some (.deferred (some [])):=(World.putObj_heap_other (by omega)).trans hk;have bn:Kp W (W.putObj (D+1) (.loop {rec .ready with state:=.busy})):=aY W _ _ _ (by omega) hl rfl rfl;refine wpIn_mono (aU _ j _ (hI.putObj _ hi (by omega) hl rfl) hj) ?_;rintro e a3 W3 ⟨rfl,a1,bq,br⟩;have aT:=a1.same _ _ bj rfl;have hr:=run_endRound (P:=P) none aT;rw[ad]at hr aT;refine⟨_,_,hr,rfl,⟨hI.putObj _ br (by omega) aT rfl,?_,(World.putObj_heap_other (by omega)).trans (a1.same _ _ bl rfl)⟩,aX (aX bn bq) (aY W3 _ _ _ (by omega) aT rfl rfl)⟩;rw[World.putObj_heap_same (Array.getElem?_eq_some_iff.1 aT).1,ad];rfl
  ·rintro e W2 ⟨⟨v,rfl⟩,hi,hl,hk⟩;refine⟨none,_,by have h:=run_endLoop (P:=P) hl (by rw[ad];simp);rw[ad]at h;exact h,?_⟩;exact aV D _ (by omega) (hI.putObj _ hi (by omega) hl rfl) ((World.putObj_heap_other (by omega)).trans hk)
def fC(S:Nat->Prop)(W W':au):Prop:=∀k,S k->W'.heap[k]?=W.heap[k]?
theorem fC.refl(S:Nat->Prop)(W:au):fC S W W:=fun _ _=>rfl
theorem fC.tr{S:Nat->Prop}{A B C:au}(h:fC S A B)(k:fC S B C):fC S A C:=fun i hi=>(k i hi).trans (h i hi)
theorem fC.cell{S:Nat->Prop}{W W':au}(h:fC S W W'){p:aw}(hp:S p.block):W'.cell? p=W.cell? p:=by
 simp only[World.cell?,h _ hp]
theorem fB.kept{S:Nat->Prop}{w w':au}{B n:Nat}{A:Option aw}{f:Nat->Nat}(h:fB w B A n f)(hk:fC S w w')(hS:∀k,k<B->S k):fB w' B A n f:=by
 refine⟨h.1,fun hn=>?_⟩;obtain⟨b,o,rfl,ad,hc⟩:=h.2 hn;exact⟨b,o,rfl,ad,fun j hj=>by rw[hk.cell (p:=⟨b,o+j,none⟩) (hS b ad)];exact hc j hj⟩
open Go.Shelf
attribute [local go_sem] Oper.semAt_some
def lD(f:Nat->Nat)(n j:Nat):Nat:=(fZ f n 15).getD j 0
theorem NJ{f:Nat->Nat}{n k x:Nat}(h0:0<k)(hx:x<tcN f k n):∀M,k<=M->(fZ f n M).getD (fM f n (k-1)+x) 0=(US f k n).getD x 0/\fM f n (k-1)+x<(fZ f n M).length:=by
 have hlen:(US f k n).length=tcN f k n:=lQ f h0 n;intro M;induction M with
 |zero=>intro h;omega
 |succ M ih=>
  intro h;simp only[fZ];rcases Nat.eq_or_lt_of_le h with e|e
  ·have e2:k-1=M:=by omega
   rw[e2,<-e,List.length_append,nm,hlen];refine⟨?_,by omega⟩;rw[List.getD_eq_getElem?_getD,List.getElem?_append_right (by rw[nm];omega),nm,Nat.add_sub_cancel_left,List.getD_eq_getElem?_getD]
  ·obtain⟨i1,i2⟩:=ih (by omega);refine⟨?_,by rw[List.length_append];omega⟩;rw[List.getD_eq_getElem?_getD,List.getElem?_append_left i2,<-List.getD_eq_getElem?_getD];exact i1
theorem NK{f:Nat->Nat}{n k i:Nat}(h0:0<k)(hk:k<=15)(hi:i<n)(hf:f i=k):lD f n (fM f n (k-1)+tcN f k i)=i/\fM f n (k-1)+tcN f k i<fM f n 15:=by
 have h:=NJ (x:=tcN f k i) h0 (xN f h0 hf hi) 15 hk;rw[AE f h0 hf n hi,nm]at h;exact h
def vD(f:Nat->Nat)(n j:Nat):Array ay:=#[ae ak (lD f n j:Nat),ae .u8 (f (lD f n j):Nat)]
theorem NL(F:Fence)(fu:Nat)(a1:F.fn 187)(a2:F.round=none)(hn:1<=fu)(l Bs B:Nat)(A:Option aw)(n cap:Nat)(f:Nat->Nat)(S:Nat->Prop)(a3:S Bs)(aX:∀k,k<B->S k)(hlen:n<=1000)(J:Nat->au->Prop)
  (hY:∀j W1,J j W1->j<fM f n 15->YieldAt F (fu-1) prog l (vD f n j) W1 fun e W'=>e=aq (aj true)/\J (j+1) W'/\fC S W1 W')
  (W:au) (av:W.cell? ⟨Bs,0,none⟩=some (af A n cap)) (hr:fB W B A n f) (h0:J 0 W):
  CallsIn F fu prog 187 #[.func (.yield l) #[] #[],ag (some ⟨Bs,0,none⟩)] W fun e W'=>(∃v,e=aq v)/\J (fM f n 15) W':=by
 refine callsIn_of_wp func187 rfl a1 ?_ a2
 simp only[ntmps187,List.size_toArray,List.length_cons,List.length_nil,Nat.reduceAdd,Nat.reduceSub,Array.replicate_succ,Array.replicate_zero,List.push_toArray,List.append_toArray,List.nil_append,List.cons_append]
 have HR:=fa hr;have HS:=fa aX
 clear hr aX
 gi_wp2
 gi_loopw [3] (fun kv wr=>∃k:Nat,1<=k/\k<=16/\kv=ae .u8 k/\J (fM f n (k-1)) wr/\fC S W wr) (fun kv _=>16-(aQ kv).toNat)
 case atStart=>exact⟨1,Nat.le_refl _,by omega,rfl,h0,fC.refl _ _⟩
 case round=>
  obtain⟨k,a9,hk,rfl,aU,ad⟩:=hrel;obtain⟨wo,rfl⟩:∃wo:au,wo=wr:=⟨_,rfl⟩;by_cases bf:k<16
  ·have bg:=(ad.cell (p:=⟨Bs,0,none⟩) a3).trans av;have a4:=fa aU;have a5:=fa ad;have HY:=fa hY;have bj:=fa av
   clear aU ad hY av;have a8:decide ((k:Int)<=15)=true:=by simp;omega
   gi_wp2
   gi_loopw [12] (fun iv wi=>∃i:Nat,i<=n/\iv=ae ak i/\J (fM f n (k-1)+tcN f k i) wi/\fC S W wi) (fun iv _=>n-(aQ iv).toNat)
   case atStart=>exact⟨0,Nat.zero_le _,rfl,by show J (_+0) _;rw[Nat.add_zero];exact a4.out,a5.out⟩
   case round=>
    obtain⟨i,hi,rfl,hJ,ad⟩:=hrel;by_cases aT:i<n
    ·obtain⟨b,o,rfl,_,hc⟩:=(HR.out.kept ad HS.out).2 (by omega);have aV:=hc i aT;have bl:=HR.out.1 i;clear hc;by_cases he:f i=k
     ·have aW:=NK (f:=f) (n:=n) (k:=k) (i:=i) (by omega) (by omega) aT he;obtain⟨fn,tmps,assign,body,hy,hR⟩:=HY.out _ _ hJ aW.2;have aY:vD f n (fM f n (k-1)+tcN f k i)=#[ae ak (i:Int),ae .u8 (k:Int)]:=by unfold vD;rw[aW.1,he]
      rw[aY]at hy;have ah:=Fz f (show 0<k by omega) he;have al:=fa ah;have HK:=fa ad
      rw[he]at aV;clear aW aY ah ad hJ;have bn:((k:Int)==(k:Int))=true:=by simp
      gi_wp2
      refine hR.mono ?_;rintro e W3 ⟨rfl,a6,aZ⟩;have a7:=fa aZ;clear aZ;gi_wp2
      go_roundw
      case rel=>exact⟨i+1,by omega,by go_num,by rw[al.out];exact a6,HK.out.tr a7.out⟩
      case measure=>simp[aQ];omega
     ·have bq:((f i:Int)==(k:Int))=false:=by simp;omega
      have ah:tcN f k (i+1)=tcN f k i:=by simp only[tcN];rw[if_neg (fun g=>he g.2)];rfl
      have al:=fa ah;have HK:=fa ad
      clear ah ad;gi_wp2
      refine⟨(fun f h=>by cases h),?_⟩;gi_wp2
      go_roundw
      case rel=>exact⟨i+1,by omega,by go_num,by rw[al.out];exact hJ,HK.out⟩
      case measure=>simp[aQ];omega
    ·obtain rfl:i=n:=by omega
     have ah:fM f i (k-1)+tcN f k i=fM f i (k+1-1):=by
      obtain⟨K,rfl⟩:∃K,k=K+1:=⟨k-1,by omega⟩;rfl
     have al:=fa ah;have HK:=fa ad
     clear ah ad;gi_wp2
     go_roundw
     case rel=>exact⟨k+1,by omega,by omega,by go_num,by rw[<-al.out];exact hJ,HK.out⟩
     case measure=>simp[aQ];omega
  ·obtain rfl:k=16:=by omega
   clear hY av;gi_wp2
   go_end0;exact⟨⟨_,rfl⟩,aU⟩
theorem NM(F:Fence)(n:Nat)(ad:F.fn 174)(ah:F.round=none)(a:Option aw)(len cap:Nat)(w:au):
  CallsIn F n prog 174 #[af a len cap] w fun e w'=>e=aq (.func (.func 187) #[] #[ag (some ⟨w.heap.size,0,none⟩)])/\w'=w.alloc (ao #[af a len cap] 22):=by
 refine callsIn_of_wp func174 rfl ad ?_ ah
 simp only[ntmps174,List.size_toArray,List.length_cons,List.length_nil,Nat.reduceAdd,Nat.reduceSub,Array.replicate_succ,Array.replicate_zero,List.push_toArray,List.append_toArray,List.nil_append,List.cons_append]
 gi_wp2
 go_ret
 exact⟨rfl,rfl⟩
theorem NN(F:Fence)(fu:Nat)(ad:F.fn 187)(ah:F.round=none)(hn:1<=fu)(Bs B:Nat)(A:Option aw)(n cap:Nat)(f:Nat->Nat)(S:Nat->Prop)(al:S Bs)(av:∀k,k<B->S k)(hlen:n<=1000)(w:au)(aT:w.cell? ⟨Bs,0,none⟩=some (af A n cap))(aU:Bs<w.heap.size)(hB:B<=w.heap.size)(hr:fB w B A n f):
  AL F fu prog 187 #[ag (some ⟨Bs,0,none⟩)] (vD f n) (fC S) (fM f n 15) w:=fun l J W hW hY h0=>
 NL F fu ad ah hn l Bs B A n cap f S al av hlen J hY W ((hW.cell aU).trans aT) ((hr.below hW hB)) h0
theorem AN{F:Fence}{n:Nat}{P:aA}{w:au}{ops:Array aB}{rest:List aB}{o:aB}{a:Act}{Q:Exit->Act->au->Prop}(hg:o.guard=none)(s x:Operand)(t:aC)
  (hop:o.op=.call {callee:=.builtin .append,args:=#[s,x],argTypes:=#[t,t]}) (v u v':ay) (w':au) (hs:a.eval s=v) (hx:a.eval x=u)
  (ad:(Builtin.append_ #[t,t] o.type #[v,u]).run P w=.ok v' w') (h:wpListIn F n P ops Q rest (a.put o.dst v') w'):wpListIn F n P ops Q (o::rest) a w:=by
 refine wpListIn_plain hg fun K ah=>?_
 unfold Oper.wpIn
 refine⟨?_,?_⟩
 ·simp[Oper.about,hop,resolve,Target.leads,Sem.run_pure]
 ·rw[Oper.semAt_plain F _ _ (by rw[hop];intro c al;cases al)];simp[execOp,hop,resolve,invoke,builtin,hs,hx,ad,Result.andThen];exact ah _ _ h
theorem rB{F:Fence}{n:Nat}{P:aA}{ops:Array aB}{rest:List aB}{o:aB}{a:Act}{w:au}{Q:Exit->Act->au->Prop}(ad:o.guard=none)(ty:aC)(x:Operand)(ho:o.op=.load ty x)
  (g:Nat) (hx:a.eval x=ag (some ⟨g,0,none⟩)) (t:aC) (cs:Array ay) (fr:Nat×Nat) (d:TypeDesc) (hg:w.heap[g]?=some (ao cs t fr))
  (hu:P.underlying ty=some d) (hd:(match d with| .struct _| .array _ _=>true|_=>false)=true) (hi:(P.info? ty).map (·.size)=some cs.size)
  (h:wpListIn F n P ops Q rest (a.put o.dst (ai cs)) w):wpListIn F n P ops Q (o::rest) a w:=by
 refine wpListIn_plain ad fun K ah=>?_
 unfold Oper.wpIn
 refine⟨?_,?_⟩
 ·simp[Oper.about,ho]
 ·rw[Oper.semAt_plain F _ _ (by rw[ho];intro c al;cases al)];have:=run_loadVar_row (P:=P) w g t ty cs fr d hg hu hd hi;simp[execOp,ho,hx,Instr.loadAt,Instr.sureAddr,this,Result.andThen];exact ah _ _ h
theorem FZ{F:Fence}{n:Nat}{P:aA}{ops:Array aB}{rest:List aB}{o:aB}{a:Act}{w:au}{Q:Exit->Act->au->Prop}(ah:o.guard=none)(ty:aC)(x y:Operand)(ho:o.op=.store ty x y)
  (ad:o.dst=none) (g:Nat) (cells:Array ay) (hx:a.eval x=ag (some ⟨g,0,none⟩)) (hy:a.eval y=ai cells)
  (t:aC) (old:Array ay) (hg:w.heap[g]?=some (ao old t (0,0))) (hi:(P.info? ty).map (·.size)=some cells.size)
  (hold:old.size=cells.size) (h1:cells.all (·.oneCell')=true)
  (h:wpListIn F n P ops Q rest a (w.setRow g cells)):wpListIn F n P ops Q (o::rest) a w:=by
 refine wpListIn_plain ah fun K al=>?_
 unfold Oper.wpIn
 refine⟨?_,?_⟩
 ·simp[Oper.about,ho]
 ·rw[Oper.semAt_plain F _ _ (by rw[ho];intro c av;cases av)];have:=run_storeVar_row (P:=P) w g t ty old cells hg hi hold h1;simp[execOp,ho,hx,hy,Instr.storeAt,Instr.sureAddr,this,Result.andThen];show K (a.put o.dst undef) _
  rw[show a.put o.dst undef=a by rw[ad];rfl];exact al _ _ h
attribute [local go_sem] Oper.semAt_some
def oH(f:Nat->Nat)(L:List Nat)(m:Nat):Int:=((L.countP fun x=>f x==m:Nat):Int)
theorem F0(f:Nat->Nat)(k m:Nat):∀n,(US f k n).countP (fun x=>f x==m)=if k=m then(US f k n).length else 0
 |0=>by simp[US]
 |n+1=>by
  simp only[US,List.countP_append,List.length_append];rw[F0 f k m n];by_cases h:f n=k
  ·rw[if_pos h];by_cases e:k=m
   ·simp[e,h]
   ·simp[e,h]
  ·rw[if_neg h];simp
theorem F3(f:Nat->Nat)(m n:Nat):∀M,(fZ f n M).countP (fun x=>f x==m)=if 0<m/\m<=M then tcN f m n else 0
 |0=>by simp[fZ];omega
 |M+1=>by
  simp only[fZ,List.countP_append];rw[F3 f m n M,F0];by_cases e:M+1=m
  ·subst e;rw[if_neg (by omega),if_pos rfl,if_pos ⟨by omega,Nat.le_refl _⟩,lQ f (by omega),Nat.zero_add]
  ·rw[if_neg e];by_cases h:0<m/\m<=M
   ·rw[if_pos h,if_pos ⟨h.1,by omega⟩,Nat.add_zero]
   ·rw[if_neg h,if_neg (by omega)]
theorem NO(f:Nat->Nat)(n:Nat){m:Nat}(hm:m<16):oH f (fZ f n 15) m=(tcN f m n:Int):=by
 unfold oH;rw[F3];by_cases h:0<m
 ·rw[if_pos ⟨h,by omega⟩]
 ·obtain rfl:m=0:=by omega
  rw[if_neg (by omega),qv]
theorem F4{f:Nat->Nat}{n j:Nat}(h:j<fM f n 15):(fZ f n 15).take (j+1)=(fZ f n 15).take j++[lD f n j]:=by
 rw[<-nm]at h;rw[List.take_succ_eq_append_getElem h];unfold lD;rw[List.getD_eq_getElem?_getD,List.getElem?_eq_getElem h];rfl
theorem NP{f:Nat->Nat}{n j:Nat}(h:j<fM f n 15):lD f n j<n/\0<f (lD f n j)/\f (lD f n j)<=15:=by
 rw[<-nm]at h;have hm:lD f n j∈fZ f n 15:=by
  unfold lD;rw[List.getD_eq_getElem?_getD,List.getElem?_eq_getElem h];exact List.getElem_mem _
 have key:∀M x,x∈fZ f n M->x<n/\0<f x/\f x<=M:=by
  intro M;induction M with
  |zero=>intro x hx;simp[fZ]at hx
  |succ M ih=>
   intro x hx;simp only[fZ,List.mem_append]at hx;rcases hx with hx|hx
   ·have:=ih x hx;omega
   ·have:=(nt f (M+1) x n).1 hx;omega
 exact key 15 _ hm
theorem NQ{f:Nat->Nat}{n j:Nat}(h:j<fM f n 15):(fun m=>if m=f (lD f n j)then oH f ((fZ f n 15).take j) (f (lD f n j))+1 else oH f ((fZ f n 15).take j) m)=oH f ((fZ f n 15).take (j+1)):=by
 funext m;rw[F4 h];unfold oH;rw[List.countP_append];by_cases e:m=f (lD f n j)
 ·subst e;simp
 ·rw[if_neg e];have:(f (lD f n j)==m)=false:=by simp;omega
  simp[this]
def AO(B b k:Nat):Prop:=k<B\/k=b+1
def xQ(w u:au)(b:Nat)(f:Nat->Nat)(n j:Nat)(W:au):Prop:=
 aS w.heap.size w W/\fC (AO w.heap.size b) u W/\u.heap.size<=W.heap.size/\gJ W w.heap.size (fun _=>0) (af none 0 0)/\
 ∃(A:Option aw) (c:Nat),gJ W b (oH f ((fZ f n 15).take j)) (af A j c)/\W.ownsRow (b+2) 3 1 (af A j c) j (jj (gg ((fZ f n 15).take j)))
theorem xQ.own(w u:au)(b:Nat)(f:Nat->Nat)(n:Nat)(hb:w.heap.size<b)(hu:u.heap.size=b+2):OwnFrom u.heap.size (xQ w u b f n):=by
 rintro j W W' row ⟨h1,h2,h3,h4,A,c,h5,h6⟩ ad hr;have hk:∀k,k<u.heap.size->W'.heap[k]?=W.heap[k]?:=fun k hk=>ad.block k (by omega) (fun e=>by have:=(hr k e.symm).1;omega)
 refine⟨h1.grown ad ?_ (fun r e=>?_),fun k hS=>(hk k ?_).trans (h2 k hS),Nat.le_trans h3 ad.size,(hk _ (by omega)).trans h4,A,c,(hk _ (by omega)).trans h5,ri h6 ad (fun r e=>(hr r e).2)⟩
 ·omega
 ·have:=(hr r e).1;omega
 ·rcases hS with hS|hS<;>omega
attribute [local go_sem] Oper.semAt_some
theorem NS(w:au)(A:Option aw)(n c:Nat)(f:Nat->Nat)(fh:Int)(hr:fB w w.heap.size A n f)(hn:n<=1000000):
  ax prog 136 #[af A n c,ae ak fh] w fun e w'=>∃v,e=aq (.tuple #[ai (fJ (ib f n fh) v),ae ak (fD f n fh)])/\iz w' w.heap.size v (gZ f n fh)/\aS w.heap.size w w':=by
 have hz:=(zero_of_info VP).1
 obtain⟨E,hE⟩:=fb (fD f n fh)
 have aY:=(Below.refl w.heap.size w).alloc fe (ao (fJ (fun _=>0) (af none 0 0)) 26)
 have bf:gJ (w.alloc (ao (fJ (fun _=>0) (af none 0 0)) 26)) w.heap.size (fun _=>0) (af none 0 0):=aH w _
 have a6:=AI (w.alloc (ao (fJ (fun _=>0) (af none 0 0)) 26)) A n c f fh ((hr.below aY fe).more aY.size) hn
 rw[<-hE]at a6⊢
 have HR:=fa hr;have a7:=fa a6;have av:=fa aY;have aT:=fa bf
 clear hr a6 aY bf
 by_cases h0:E=0
 ·have bN:n<=320:=(lk (hE.symm.trans h0)).2.2.1;have e1:(fun m=>(tcN f m n:Int))=ib f n fh:=by funext m;unfold ib;rw[if_pos (by rw[<-hE];exact h0)]
  have e2:gg (fZ f n 15)=gZ f n fh:=by unfold gZ;rw[if_pos (by rw[<-hE];exact h0)]
  rw[<-e1,<-e2];clear hE e1 e2;subst h0;refine(callsIn_wide (n:=5)).1 ?_;refine callsIn_of_wp_marks func136 rfl trivial ?_ rfl;simp only[ntmps136,List.size_toArray,List.length_cons,List.length_nil,Nat.reduceAdd,Nat.reduceSub,Array.replicate_succ,Array.replicate_zero,List.push_toArray,List.append_toArray,List.nil_append,List.cons_append];gi_wp2_with fail
  refine⟨trivial,(callsIn_wide.2 a7.out).mono ?_⟩;rintro e w2 ⟨rfl,ad⟩;have aU:=fa (aT.out.below ad aT.out.lt);have aZ:=fa (av.out.trans (ad.mono av.out.size));have bg:w.heap.size<w2.heap.size:=by have:=ad.size;simp at this;omega
  clear ad a7 av aT;gi_wp2_with (refine⟨trivial,?_⟩;gi_at_call 174;refine(NM _ _ trivial rfl _ _ _ _).mono ?_;rintro e w' ⟨rfl,rfl⟩)
  obtain⟨u,hu⟩:=fb ((w2.alloc (ao (fJ (fun _=>0) (af none 0 0)) 26)).alloc (ao #[af A n c] 22));have bj:u.heap.size=w2.heap.size+2:=by rw[hu];simp
  have a8:aS w.heap.size w u:=by rw[hu];exact(aZ.out.alloc (by omega) _).alloc (by simp;omega) _
  have bl:gJ u w2.heap.size (fun _=>0) (af none 0 0):=by rw[hu];exact heap_alloc2_old w2 _ _
  have bn:gJ u w.heap.size (fun _=>0) (af none 0 0):=by rw[hu];exact gJ.alloc (aU.out.alloc _) _
  have bO:u.cell? ⟨w2.heap.size+1,0,none⟩=some (af A n c):=by
   rw[hu];have h:=(Boxed.new (w2.alloc (ao (fJ (fun _=>0) (af none 0 0)) 26)) 22 (af A n c)).cell;rwa[World.size_alloc]at h
  have bq:fB u w.heap.size A n f:=HR.out.below a8 fe;rw[<-hu];have bP:=fa a8;have bQ:=fa bl;have bR:=fa bn;have br:=fa bq
  clear hu a8 bl bn bq aU aZ;refine FY (L:=fM f n 15) rfl (by omega) (gf:=187) (lb:=#[ag (some ⟨w2.heap.size+1,0,none⟩)]) rfl trivial (enters_of func187 (by kernel_rfl) rfl)
   (NN _ _ trivial rfl (by omega) (w2.heap.size+1) w.heap.size A n c f (AO w.heap.size w2.heap.size) (.inr rfl) (fun k hk=>.inl hk) (by omega) u bO (by omega) (by omega) br.out)
   (fun h k=>h.tr k) (fun W l ob b0 hl _ _ _ k hS=>World.putObj_heap_other (by rcases hS with hS|hS<;>omega)) (fun _=>rfl)
   (xQ w u w2.heap.size f n) (xQ.own w u w2.heap.size f n bg bj) ?start
   (fun j=>{tmps:=#[af A n c,ae ak fh,undef,undef,ag (some ⟨w.heap.size,0,none⟩),ae ak 0,ae ak 0,ag (some ⟨w2.heap.size,0,none⟩),ae ak ((lD f n j:Nat):Int),ae .u8 ((f (lD f n j):Nat):Int),af A n c,ae ak fh,ae ak 0,ae ak 0,aj false,undef,undef,af A n c,.func (.func 187) #[] #[ag (some ⟨w2.heap.size+1,0,none⟩)],ae ak ((lD f n j:Nat):Int),ae .u8 ((f (lD f n j):Nat):Int),undef,undef,undef,undef,undef,undef,undef,undef,undef,undef,undef,undef,undef,undef],defers:=[]}) ?assign ?body ?done
  case start=>
   exact⟨bP.out,fC.refl _ _,Nat.le_refl _,bR.out,none,0,by rw[List.take_zero];exact bQ.out,World.ownsRow_nil _ _ _ 1⟩
  case assign=>
   intro l j W K hK;simp only[vD];gi_wp2
   exact hK
  case body=>
   rintro l j W ⟨h1,h2,h3,h4,Ao,co,h5,h6⟩ hj;obtain⟨bt,bu,a4⟩:=NP hj;have a1:=NQ hj;have a9:=F4 hj;have bS:j<=1000000:=by
    have:=ER f n 15;omega
   obtain⟨y,hy⟩:=fb (lD f n j);rw[<-hy]at bu a4 a1 a9 bt⊢;obtain⟨k,hk⟩:=fb (f y);rw[<-hk]at bu a4 a1⊢;have c1:=h5.kR (show k<16 by omega);have f1:=h5.frozen k;have bT:0<=oH f ((fZ f n 15).take j) k/\oH f ((fZ f n 15).take j) k<=1000000:=by
    unfold oH;have h1:=List.countP_le_length (p:=fun x=>f x==k) (l:=(fZ f n 15).take j);have h2:=List.length_take_le j (fZ f n 15);omega
   have ah:=h5.MC (show k<16 by omega) (oH f ((fZ f n 15).take j) k+1);rw[a1]at ah;obtain⟨x,hx⟩:=fb (oH f ((fZ f n 15).take j) k);rw[<-hx]at c1 ah bT;have aV:=ownsRow_setCell_below h6 (a:=⟨w2.heap.size,k,none⟩) (by show w2.heap.size<_;omega) (ae ak (x+1));have a2:(W.setCell ⟨w2.heap.size,k,none⟩ (ae ak (x+1))).heap.size=W.heap.size:=by simp[World.setCell]
   obtain⟨A',c',w3,aW,aX,al,a5⟩:=LC (W.setCell ⟨w2.heap.size,k,none⟩ (ae ak (x+1))) (w2.heap.size+2) Ao j co _ aV (y:Int) bS (by rw[a2];omega);rw[a2]at aW;have bx:=ah.syms;have a3:=ah.below al (by omega);have bz:=(h4.other (p:=⟨w2.heap.size,k,none⟩) (by show w.heap.size≠w2.heap.size;omega) (ae ak (x+1))).below al (by omega);have bA:=(h1.setCell (p:=⟨w2.heap.size,k,none⟩) (by show w.heap.size<=w2.heap.size;omega) (ae ak (x+1))).trans (al.mono (by omega));have bB:fC (AO w.heap.size w2.heap.size) W w3:=fun b hS=>by
    have bC:b≠w2.heap.size:=by rcases hS with hS|hS<;>omega
    have bU:b<w2.heap.size+2:=by rcases hS with hS|hS<;>omega
    exact(al.block b bU).trans (Below.heap_setCell W _ _ b bC)
   have bD:KeepsOthers W w3:=(KeepsOthers.setCell W _ _).trans a5;have b1:=a3.frozen 16;have b2:=a3.syms;have bE:u.heap.size<=w3.heap.size:=by have:=al.size;rw[a2]at this;omega
   have bF:=fa a3;have bV:=fa bz;have bW:=fa bA;have bG:=fa aW;have bH:=fa aX;have bI:=fa bB;have bX:=fa bD;have H2:=fa h2;have bY:=fa a9
   clear h1 h2 h4 h5 h6 ah aV aW aX al a5 a3 bz bA bB bD a9 a1 hx hy hk a2 bt;gi_wp2_with (gi_at_builtin;refine AN rfl (.tmp 29) (.tmp 31) 24 rfl (af Ao j co) (af (some ⟨W.heap.size,0,none⟩) 1 1) (af A' (j+1) c') w3 rfl rfl bG.out ?_)
   refine⟨bX.out.trans (KeepsOthers.setCell _ _ _),?_,?_⟩
   ·exact fun b hS=>(Below.heap_setCell w3 _ _ b (by show b≠w2.heap.size;rcases hS with hS|hS<;>omega)).trans (bI.out b hS)
   ·refine⟨bW.out.setCell (p:=⟨w2.heap.size,16,none⟩) (by show w.heap.size<=w2.heap.size;omega) _,fun b hS=>((Below.heap_setCell w3 _ _ b (by show b≠w2.heap.size;rcases hS with hS|hS<;>omega)).trans (bI.out b hS)).trans (H2.out b hS),by rw[show(w3.setCell ⟨w2.heap.size,16,none⟩ (af A' (j+1) c')).heap.size=w3.heap.size by simp[World.setCell]];exact bE,bV.out.other (by show w.heap.size≠w2.heap.size;omega) _,A',c',bF.out.xq _,?_⟩;have e2:gg ((fZ f n 15).take j)++[(y:Int)]=gg ((fZ f n 15).take (j+1)):=by rw[bY.out,<-zW];rfl
    rw[<-e2];exact ownsRow_setCell_below bH.out (by show w2.heap.size<_;omega) _
  case done=>
   rintro D W hD ⟨h1,h2,h3,h4,Ao,co,h5,h6⟩ hK;rw[List.take_of_length_le (by rw[nm];omega)]at h5 h6;have bJ:gJ W w2.heap.size (fun m=>(tcN f m n:Int)) (af Ao (fM f n 15) co):=by
    have e:=MB (af Ao (fM f n 15) co) (fun m hm=>NO f n (m:=m) hm);unfold gJ at h5⊢;rw[e]at h5;exact h5
   have H1:=fa h1;have H2:=fa h2;have H4:=fa h4;have H5:=fa bJ;have H6:=fa h6;have HK:=fa hK
   clear h1 h2 h4 h5 bJ h6 hK;gi_wp2_with (first
    |(refine rB rfl _ _ rfl w2.heap.size rfl _ (fJ (fun m=>(tcN f m n:Int)) (af Ao (fM f n 15) co)) (0,0) _ H5.out underlying26 rfl (by rw[jl];exact oZ) ?_)
    |(refine FZ rfl _ _ _ rfl rfl w.heap.size (fJ (fun m=>(tcN f m n:Int)) (af Ao (fM f n 15) co)) rfl rfl _ (fJ (fun _=>0) (af none 0 0)) H4.out (by rw[jl];exact oZ) (by rw[jl,jl]) (l7 _ _ rfl) ?_))
   have bZ:D≠w.heap.size:=by omega
   have hT:=EP (d:=fun m=>(tcN f m n:Int)) (v:=af Ao (fM f n 15) co) H4.out;obtain⟨Y,hY⟩:=fb (W.setRow w.heap.size (fJ (fun m=>(tcN f m n:Int)) (af Ao (fM f n 15) co)));have bK:∀k,k≠w.heap.size->Y.heap[k]?=W.heap[k]?:=fun k hk=>by rw[hY];exact setRow_other _ _ _ _ hk
   have bL:aS w.heap.size w Y:=by rw[hY];exact tF H1.out fe _
   rw[<-hY]at hT⊢;have bM:Y.heap[D]?=some (.deferred (some [])):=(bK D bZ).trans HK.out;refine⟨by simp,.inl ⟨_,_,rfl,run_takeDeferred bM,?_⟩⟩;refine⟨_,(ES rfl _ _ w.heap.size _ _ rfl ?_).trans rfl,af Ao (fM f n 15) co,rfl,?_,?_⟩
   ·exact(World.putObj_heap_other (by omega)).trans hT
   ·have ho:iz (Y.putObj D (.deferred none)) (w2.heap.size+2) (af Ao (fM f n 15) co) (gg (fZ f n 15)):=by
     unfold iz;rw[oS,nm];have h0:Y.ownsRow (w2.heap.size+2) 3 1 (af Ao (fM f n 15) co) (fM f n 15) (jj (gg (fZ f n 15))):=Kn H6.out (fun g hg=>bK g (by omega));exact ri h0 (grownBy_putObj' Y D _) (fun r e=>by cases e;exact⟨_,bM,rfl⟩)
    exact lZ ho (by omega)
   ·exact bL.grown (grownBy_putObj' Y D _) bL.size (fun r e=>by cases e;omega)
 ·have bC:(E !=0)=true:=by simpa using h0
  have e1:ib f n fh=fun _=>0:=by funext m;unfold ib;rw[if_neg (by rw[<-hE];exact h0)]
  have e2:gZ f n fh=[]:=by unfold gZ;rw[if_neg (by rw[<-hE];exact h0)]
  rw[e1,e2];clear hE h0 e1 e2;go_enter func136,ntmps136
  go_wp2_with fail
  refine a7.out.mono ?_;rintro e w2 ⟨rfl,ad⟩;have aU:=fa (aT.out.below ad aT.out.lt);have aZ:=fa (av.out.trans (ad.mono av.out.size));clear ad;have bx:=fun(v:ay) (h:v.oneCell'=true)=>l7 (fun _=>0) v h
  go_wp2_with (refine xl rfl _ _ _ rfl w.heap.size (fJ (fun _=>0) (af none 0 0)) rfl rfl 26 (fJ (fun _=>0) (af none 0 0)) aU.out (by rw[jl];exact oZ) rfl (bx _ rfl) ?_)
  refine aL (v:=.tuple #[ai (fJ (fun _=>0) (af none 0 0)),ae ak E]) ((ES rfl _ _ w.heap.size _ _ rfl (EP aU.out)).trans rfl) rfl ⟨_,rfl,World.ownsRow_nil _ _ _ 1,tF aZ.out fe _⟩
theorem tS(c:Nat->Int)(v:ay):(prog.info? 26).map (·.size)=some (iS c v).length:=by
 rw[show(iS c v).length=17 by simp[iS,lS]];exact oZ
theorem NT{w:au}{b:Nat}{c:Nat->Int}{v:ay}(h:gJ w b c v):w.rangeAt b 0 (iS c v):=fun j u hu=>by
 rw[Nat.zero_add,aI w b j _ _ (0,0) h];simpa[fJ]using hu
def pd(S:Nat->Prop)(w:au)(F:Nat->Nat)(c:Nat->Int)(u:ay):Prop:=∃sy,pb S w u sy/\lC c sy F
theorem pd.fr{S:Nat->Prop}{w w':au}{F:Nat->Nat}{c:Nat->Int}{u:ay}(h:pd S w F c u)(k:Fr S w w'):pd S w' F c u:=by
 obtain⟨sy,h1,h2⟩:=h;exact⟨sy,h1.fr k,h2⟩
theorem AP(w:au)(p:Nat)(A:Option aw)(l c:Nat)(g:Nat->Nat)(s:Rz)(h:fx w p A l c s)(hg:fB w w.heap.size A l g)(hl:l<=1000000)(hs:s.1<=8*l)(S:Nat->Prop)(F:Nat->Nat)(ct:Nat->Int)(u:ay)(_hu:u.oneCell'=true)(ht:s.2=0->pd S w F ct u):
  ax prog 63 #[ag (some ⟨p,0,none⟩),ai (fJ ct u)] w fun e w'=>e=aq (ae ak (jM (UT F 320 g l s.1 17 0) s:Int))/\fx w' p A l c (jf (UT F 320 g l s.1 17 0) s)/\Fr (At p) w w':=by
 obtain⟨W1,ah⟩:=fb (w.alloc (ao (fJ ct u) 26))
 have ad:aS w.heap.size w W1:=by rw[ah];exact fz.alloc fe _
 have av:W1.heap.size=w.heap.size+1:=by rw[ah];simp
 have aT:gJ W1 w.heap.size ct u:=by rw[ah];exact aH w _
 have h1:fx W1 p A l c s:=fg.below h ad h.lt
 have c2:=h1.e
 have aU:=fa ah
 have aV:=fa ad;have a1:=fa av
 obtain⟨a,e0⟩:=s
 by_cases h0:e0=0
 ·subst h0;have ha:a<=8*l:=hs;obtain⟨sy,aW,al⟩:=ht rfl;have c0:∀q:kN W1.heap.size W1,q.w.cell? ⟨p,0,none⟩=some (af A l c):=fun q=>fx.b (fg.below h1 q.h h1.lt)
  have c1:∀q:kN W1.heap.size W1,q.w.cell? ⟨p,1,none⟩=some (ae ak (a:Int)):=fun q=>fx.a (fg.below h1 q.h h1.lt)
  have R1:=fa fun V (hV:aS W1.heap.size W1 V)=>(fg.below h1 hV h1.lt:fx V p A l c (a,0))
  have K1:=fa fun V (hV:aS W1.heap.size W1 V) x=>ry V p A l c (a,0) (fg.below h1 hV h1.lt) x
  have aX:aR (∀V,(∃q:kN W1.heap.size W1,V=q.w)->V.rangeAt w.heap.size 0 (iS ct u)):=fa (by
   rintro V ⟨q,rfl⟩;exact NT (aT.below q.h (by omega)))
  have T1:=fa fun V (hV:aS W1.heap.size W1 V)=>(NI V ct u sy ((aW.1.below (ad.trans (hV.mono ad.size)) fe).more (by have:=hV.size;omega)) (by have:=(EJ al).2;omega) A l c g ((hg.below (ad.trans (hV.mono ad.size)) fe).more (by have:=hV.size;omega)) hl (a:Int) (by omega) (by omega)).mono fun e w' ⟨q1,q2⟩=>(show e=Ending.returned (vq (UT F 320 g l a 17 0))/\aS W1.heap.size W1 w' by
   rcases q1 with⟨f,hf,he⟩|⟨aY,_⟩
   ·rw[Ml hf al]at he;unfold tI at he;rw[if_neg (by omega),Int.toNat_natCast]at he;exact⟨he,hV.trans (q2.mono hV.size)⟩
   ·exact absurd al (aY F))
  show ax _ _ _ _ (fun e w'=>e=aq (ae ak (jM (UT F 320 g l a 17 0) (a,0):Int))/\fx w' p A l c (jf (UT F 320 g l a 17 0) (a,0))/\Fr (At p) w w')
  obtain⟨⟨y,b,e⟩,hr⟩:∃r,r=UT F 320 g l a 17 0:=⟨_,rfl⟩;rw[<-hr]at T1⊢;unfold vq fJ at T1;dsimp only at T1;by_cases he:e=0
  ·subst he;have e1:jM (y,b,(0:Int)) (a,0)=y:=rfl;have e2:jf (y,b,(0:Int)) (a,0)=(b,0):=rfl;rw[e1,e2];clear e1 e2 h hg ht aW al hr hs h1 aT ad av ah K1 _hu ha;go_enter func63,ntmps63
   go_wp2_with (first|(rw[<-aU.out])|fail)
   refine qq W1.heap.size W1 fz (by kernel_rfl) (by kernel_rfl) ?_;repeat (first
    |(go_big_quiet_want;with_reducible refine pJ _ _ rfl _ _ rfl _ _ aX.out underlying26 rfl (tS _ _) ?_;go_big_quiet_on;simp only[Act.put,List.setIfInBounds_toArray,List.set_cons_zero,List.set_cons_succ])
    |(go_big_quiet_step (with_reducible exact mP T1.out _)))
   refine wpQuiet_nil ?_;rintro V ⟨⟨V,hV⟩,rfl⟩;have HV:=fa hV;have RV:fx V p A l c (a,0):=R1.out V hV;have k1:=RV.a;have k2:=RV.free 1;have aZ:=fa RV;clear hV RV R1 c0 c1 c2 T1;go_wp2;go_ret;refine⟨rfl,aZ.out.AA b,((Fr.of aV.out).trans (Fr.of HV.out)).trans (Fr.cell _ _ _ _)⟩
  ·have e1:jM (y,b,e) (a,0)=0:=by unfold jM;rw[if_neg (fun h=>h rfl),if_pos he]
   have e2:jf (y,b,e) (a,0)=jv (a,0) e:=by unfold jf jv;rw[if_neg (fun h=>h rfl),if_pos he,if_pos rfl]
   have d0:(e==0)=false:=beq_eq_false_iff_ne.2 he;have d1:(e !=0)=true:=by simp[bne,d0]
   rw[e1,e2];clear e1 e2 h hg ht aW al hr hs h1 aT ad av ah _hu ha he R1;go_enter func63,ntmps63
   go_wp2_with (first|(rw[<-aU.out])|fail)
   refine qq W1.heap.size W1 fz (by kernel_rfl) (by kernel_rfl) ?_;repeat (first
    |(go_big_quiet_want;with_reducible refine pJ _ _ rfl _ _ rfl _ _ aX.out underlying26 rfl (tS _ _) ?_;go_big_quiet_on;simp only[Act.put,List.setIfInBounds_toArray,List.set_cons_zero,List.set_cons_succ])
    |(go_big_quiet_step (with_reducible exact mP T1.out _)))
   refine wpQuiet_nil ?_;rintro V ⟨⟨V,hV⟩,rfl⟩;have HV:=fa hV;have KV:=fa (K1.out V hV e);clear hV c0 c1 c2 T1 K1;go_wp2_with fail
   refine KV.out.mono ?_;rintro e w2 ⟨rfl,h2,f2⟩;have H2:=fa h2;have F2:=fa f2
   clear h2 f2;go_wp2;go_ret;exact⟨rfl,H2.out,((Fr.of aV.out).trans (Fr.of HV.out)).trans F2.out⟩
 ·have d0:(e0==0)=false:=beq_eq_false_iff_ne.2 h0;have d1:(e0 !=0)=true:=by simp[bne,d0]
  rw[xF (s:=(a,e0)) h0,Ff (s:=(a,e0)) h0];have HH:=fa h1;clear h hg h0 hs ht h1 aT ad av ah;go_enter func63,ntmps63
  go_wp2_with (first|(rw[<-aU.out])|fail)
  go_ret;exact⟨rfl,HH.out,Fr.of aV.out⟩
def gF(M:Nat->Nat):Nat->Nat
 |0=>0
 |b+1=>gF M b+M b
def jr(M:Nat->Nat):Nat->Nat
 |0=>0
 |b+1=>jr M b+M b*gN b
def pU(l m f s o:Int)(M:Nat->Nat):Nat->Int:=fun i=>if i=0 then l else if i=1 then m else if i=2 then f else if i=3 then s else if i<18 then((M (i-4):Nat):Int)else o
def fN(l m f s o:Int)(M:Nat->Nat):Array ay:=jk (pU l m f s o M) 19
theorem AQ:(prog.info? 173).map (fun i=>(i.zero,i.size))=some (some (ai (fN 0 0 0 0 0 (fun _=>0))),19):=by kernel_rfl
theorem nZ(T:Nat->Int):(prog.info? 173).map (·.size)=some (jk T 19).size:=by rw[pL];kernel_rfl
def gj(w:au)(g:Nat)(l m f s o:Int)(M:Nat->Nat):Prop:=w.heap[g]?=some (ao (fN l m f s o M) 173 (0,0))
section
variable {w w':au} {g:Nat} {l m f s o:Int} {M:Nat->Nat}
theorem gj.lt(h:gj w g l m f s o M):g<w.heap.size:=(Array.getElem?_eq_some_iff.1 h).1
theorem gj.at(h:gj w g l m f s o M){i:Nat}(hi:i<19):w.cell? ⟨g,i,none⟩=some (ae ak (pU l m f s o M i)):=Lr h hi
theorem gj.least(h:gj w g l m f s o M):w.cell? ⟨g,0,none⟩=some (ae ak l):=h.at (i:=0) (by omega)
theorem gj.fh(h:gj w g l m f s o M):w.cell? ⟨g,1,none⟩=some (ae ak m):=h.at (i:=1) (by omega)
theorem gj.first(h:gj w g l m f s o M):w.cell? ⟨g,2,none⟩=some (ae ak f):=h.at (i:=2) (by omega)
theorem gj.last(h:gj w g l m f s o M):w.cell? ⟨g,3,none⟩=some (ae ak s):=h.at (i:=3) (by omega)
theorem gj.own(h:gj w g l m f s o M):w.cell? ⟨g,18,none⟩=some (ae ak o):=h.at (i:=18) (by omega)
theorem gj.many(h:gj w g l m f s o M){b:Nat}(hb:b<14):w.cell? ⟨g,4+b,none⟩=some (ae ak ((M b:Nat):Int)):=by
 have:=h.at (i:=4+b) (by omega);have e:pU l m f s o M (4+b)=((M b:Nat):Int):=by
  unfold pU;rw[if_neg (by omega),if_neg (by omega),if_neg (by omega),if_neg (by omega),if_pos (by omega),show 4+b-4=b by omega]
 rw[e]at this;exact this
theorem gj.frozen(h:gj w g l m f s o M)(j:Nat):w.frozen? ⟨g,j,none⟩=false:=aP w g j _ _ h
theorem gj.below{B:Nat}(h:gj w g l m f s o M)(hb:aS B w w')(hg:g<B):gj w' g l m f s o M:=(hb.block g hg).trans h
theorem gj.drew(h:gj w g l m f s o M):gj w.drew g l m f s o M:=h
theorem gj.drewN(h:gj w g l m f s o M)(k:Nat):gj (w.drewN k) g l m f s o M:=h
end
theorem sx(w:au)(l m f s o:Int)(M:Nat->Nat):gj (w.alloc (ao (fN l m f s o M) 173)) w.heap.size l m f s o M:=aH w _
theorem F5(w:au)(l m f s o:Int)(M:Nat->Nat)(y:Int)(h:Bool)(hh:h=decide (f<=y/\y<=s)):
  ax prog 151 #[ai (fN l m f s o M),ae ak y] w fun e w'=>e=aq (aj h)/\aS w.heap.size w w':=by
 have hk:=sx w l m f s o M
 have hb:aS w.heap.size w (w.alloc (ao (fN l m f s o M) 173)):=fz.alloc fe _
 have k2:=hk.first
 have k3:=hk.last
 obtain⟨a,ha⟩:=fb (decide (f<=y))
 obtain⟨c,hc⟩:=fb (decide (y<=s))
 have ad:h=(a&&c):=by rw[hh,ha,hc];simp
 have HB:=fa hb;have HH:=fa ad
 clear hk hb hh ad
 have ah:decide (f<=y)=a:=ha.symm
 have al:decide (y<=s)=c:=hc.symm
 clear ha hc
 rcases a with _|_
 ·go_enter func151,ntmps151
  go_wp2;go_ret;exact⟨by rw[HH.out];rfl,HB.out⟩
 ·go_enter func151,ntmps151
  go_wp2;go_ret;exact⟨by rw[HH.out];rfl,HB.out⟩
theorem AS{B:Nat}{a w:au}(h:aS B a w)(n:Nat):aS B a (w.drewN n):=⟨h.os,h.tape,h.output,h.size,h.block⟩
theorem xR(z b:Nat)(hz:z<=40000)(hb:b<14):wrap64 ((z:Int)*2^b)=((z*gN b:Nat):Int)/\z*gN b<=327680000:=by
 have e:(z:Int)*2^b=((z*2^b:Nat):Int):=by rw[Int.natCast_mul,Int.natCast_pow];rfl
 have h1:2^b<=2^13:=Nat.pow_le_pow_right (by omega) (by omega);have h2:z*2^b<=40000*2^13:=Nat.mul_le_mul hz h1;have h3:40000*2^13=327680000:=rfl;rw[e];unfold gN;generalize z*2^b=x at h2;unfold wrap64;omega
def NU(l f:Int)(M:Nat->Nat)(y:Int)(e:Ending):Prop:=
 ∃b z:Nat,b<14/\z<M b/\y=f+((gF M b+z:Nat):Int)/\e=aq (.tuple #[ae ak (l+((jr M b+z*gN b:Nat):Int)),ae ak (b:Int)])
theorem F6(M:Nat->Nat){i:Nat}:∀d,gF M i<=gF M (i+d)
 |0=>Nat.le_refl _
 |d+1=>Nat.le_trans (F6 M d) (Nat.le_add_right _ _)
theorem F7(M:Nat->Nat){i:Nat}:∀d,jr M i<=jr M (i+d)
 |0=>Nat.le_refl _
 |d+1=>Nat.le_trans (F7 M d) (Nat.le_add_right _ _)
theorem vE(M:Nat->Nat){i j:Nat}(h:i<=j):gF M i<=gF M j:=by
 have:=F6 M (i:=i) (j-i);rwa[show i+(j-i)=j by omega]at this
theorem AU(M:Nat->Nat){i j:Nat}(h:i<=j):jr M i<=jr M j:=by
 have:=F7 M (i:=i) (j-i);rwa[show i+(j-i)=j by omega]at this
theorem NV(w:au)(l m f s o:Int)(M:Nat->Nat)(ho:o≠0):
  ax prog 152 #[ai (fN l m f s o M),ae ak s] w fun e w'=>e=aq (.tuple #[ae ak o,ae ak 0])/\aS w.heap.size w w':=by
 have hk:=sx w l m f s o M
 have hb:aS w.heap.size w (w.alloc (ao (fN l m f s o M) 173)):=fz.alloc fe _
 have k2:=hk.own
 have k3:=hk.last
 have h1:(o !=0)=true:=by simpa using ho
 have h2:(s==s)=true:=by simp
 have HB:=fa hb
 clear hk hb ho
 go_enter func152,ntmps152
 go_wp2
 go_ret2
 exact⟨rfl,HB.out⟩
theorem NW(w:au)(l m f s o:Int)(M:Nat->Nat)(y:Int)(ad:o=0\/y≠s)(hl:0<=l/\l<=1000)(hf:0<=f/\f<=1000)(h1:f<=y)(h2:y<f+((gF M 14:Nat):Int))(hC:gF M 14<=40)(hS:jr M 14<=40000):
  ax prog 152 #[ai (fN l m f s o M),ae ak y] w fun e w'=>NU l f M y e/\aS w.heap.size w w':=by
 have hk:=sx w l m f s o M
 have hb:aS w.heap.size w (w.alloc (ao (fN l m f s o M) 173)):=fz.alloc fe _
 have k2:=hk.own
 have k3:=hk.last
 have k4:=hk.least
 have k5:=hk.first
 obtain⟨B1,ah⟩:=fb ((o !=0))
 obtain⟨B2,al⟩:=fb ((y==s))
 have a5:y<=1040:=by omega
 have hB:B1=false\/B2=false:=by
  rcases ad with e|e
  ·left;rw[ah,e];rfl
  ·right;rw[al];simpa using e
 have e1:=ah.symm
 have e2:=al.symm
 have HB:=fa hb;have HC:=fa hC;have HS:=fa hS;have HK:=fa hk;have H2:=fa h2;have av:=fa hB
 clear hb hC hS hk h2 ah al ad hB
 rcases B1 with _|_<;>rcases B2 with _|_
 case true.true=>rcases av.out with h|h<;>cases h
 all_goals(
  clear av;go_enter func152,ntmps152
  go_wp2;go_quiet (fail)
  go_wp2;go_loopw [4,5,6] (fun lv bv fv wr=>∃b z S:Nat,b<14/\z<=40/\S<=40000/\lv=ae ak (l+(S:Int))/\bv=ae ak (b:Int)/\fv=ae ak (z:Int)/\aR (S=jr M b)/\aR (y=f+((gF M b+z:Nat):Int))/\aR (gj wr w.heap.size l m f s o M)/\aR (aS w.heap.size w wr)) (fun _ bv _ _=>14-(aQ bv).toNat)
  case atStart=>
   refine⟨0,(y-f).toNat,0,by omega,?_,by omega,by simp,rfl,?_,fa rfl,fa ?_,fa (HK.out.drewN _),fa (AS HB.out _)⟩
   ·have:=H2.out;have:=HC.out;omega
   ·exact lX (by omega)
   ·show y=f+((0+(y-f).toNat:Nat):Int);omega
  case round=>
   obtain⟨b,z,S,hb,hz,hS,rfl,rfl,rfl,aT,HY,aU,aV⟩:=hrel;have c1:=aU.out.many hb;obtain⟨q,hq⟩:=fb (M b);rw[<-hq]at c1;have HQ:=fa hq;clear hq;have a4:q<=40:=by
    rw[HQ.out];have:gF M (b+1)<=gF M 14:=vE M (by omega);have h3:gF M (b+1)=gF M b+M b:=rfl;have:=HC.out;omega
   by_cases aW:q<=z
   ·have aX:(q:Int)<=(z:Int):=by omega
    have hd:decide ((q:Int)<=(z:Int))=true:=kP aX;have aZ:decide (q<=z)=true:=kP aW;go_wp2;go_roundw
    case rel=>
     obtain⟨g1,g2⟩:=xR q b (by omega) hb;have aY:b+1<14:=by
      rcases Nat.lt_or_ge (b+1) 14 with h|h
      ·exact h
      ·exfalso;have a1:b=13:=by omega
       have h1:=H2.out;have h2:=HY.out
       have h3:gF M 14=gF M 13+M 13:=rfl;rw[a1]at h2 HQ;have:=HQ.out;omega
     have a2:jr M (b+1)=S+q*gN b:=by rw[aT.out,HQ.out];rfl
     have a6:jr M (b+1)<=40000:=Nat.le_trans (AU M (by omega)) HS.out;have a3:gF M (b+1)=gF M b+q:=by rw[HQ.out];rfl
     refine⟨b+1,z-q,S+q*gN b,aY,by omega,by omega,lX ?_,by go_num,lX (by omega),fa a2.symm,fa ?_,aU,aV⟩
     ·rw[g1];unfold wrap64;omega
     ·rw[HY.out,a3];omega
    case measure=>simp[aQ];omega
   ·have hd:decide ((q:Int)<=(z:Int))=false:=lq (by omega);have aZ:decide (q<=z)=false:=lq aW;go_wp2;go_ret2;obtain⟨g1,g2⟩:=xR z b (by omega) hb;refine⟨⟨b,z,hb,by rw[<-HQ.out];omega,HY.out,?_⟩,aV.out⟩;rw[g1,<-aT.out];have e:wrap64 (l+(S:Int)+((z*gN b:Nat):Int))=l+((S+z*gN b:Nat):Int):=by unfold wrap64;omega
    rw[e];rfl)
def tT(l f s o:Int)(M:Nat->Nat)(y L:Int)(b:Nat):Prop:=
 (o≠0/\y=s/\L=o/\b=0)\/((o=0\/y≠s)/\∃z:Nat,b<14/\z<M b/\y=f+((gF M b+z:Nat):Int)/\L=l+((jr M b+z*gN b:Nat):Int))
structure sB (l m f s o:Int) (M:Nat->Nat):Prop where
 l0:0<=l/\l<=1000
 f0:0<=f/\f<=1000
 o0:0<=o/\o<=1000
 s0:s<=1100
 m0:m<l+((jr M 14:Nat):Int)
 sC:(o=0/\s<f+((gF M 14:Nat):Int))\/(o≠0/\s<=f+((gF M 14:Nat):Int))
 AV:gF M 14<=40
 AW:jr M 14<=40000
theorem F8{M:Nat->Nat}{b:Nat}(hb:b<14):gF M b+M b<=gF M 14/\jr M b+M b*gN b<=jr M 14:=
 ⟨vE M (i:=b+1) (by omega),AU M (i:=b+1) (by omega)⟩
theorem NY{l m f s o:Int}{M:Nat->Nat}(hk:sB l m f s o M){y L:Int}{b:Nat}(h:tT l f s o M y L b):0<=L/\L<=42000/\b<14:=by
 have h1:=hk.l0;have h2:=hk.o0;have h3:=hk.AW
 rcases h with⟨_,_,rfl,rfl⟩|⟨_,z,hb,hz,_,rfl⟩
 ·omega
 ·have h4:=(F8 (M:=M) hb).2;have h5:z*gN b<=M b*gN b:=Nat.mul_le_mul_right _ (by omega);omega
theorem F9(w:au)(l m f s o:Int)(M:Nat->Nat)(hk:sB l m f s o M)(y:Int)(hy:f<=y/\y<=s):
  ax prog 152 #[ai (fN l m f s o M),ae ak y] w fun e w'=>(∃(L:Int) (b:Nat),tT l f s o M y L b/\e=aq (.tuple #[ae ak L,ae ak (b:Int)]))/\aS w.heap.size w w':=by
 by_cases h:o≠0/\y=s
 ·obtain⟨h1,rfl⟩:=h;refine(NV w l m f y o M h1).mono ?_;rintro e w' ⟨rfl,hb⟩;exact⟨⟨o,0,.inl ⟨h1,rfl,rfl,rfl⟩,rfl⟩,hb⟩
 ·have h2:o=0\/y≠s:=by
   by_cases h0:o=0
   ·exact .inl h0
   ·exact .inr fun e=>h ⟨h0,e⟩
  have hC:=hk.sC;refine(NW w l m f s o M y h2 hk.l0 hk.f0 hy.1 (by rcases h2 with e|e<;>omega) hk.AV hk.AW).mono ?_;rintro e w' ⟨⟨b,z,h3,h4,h5,rfl⟩,hb⟩;exact⟨⟨_,b,.inr ⟨h2,z,h3,h4,h5,rfl⟩,rfl⟩,hb⟩
section
variable {w:au} {g:Nat} {l m f s o:Int} {M:Nat->Nat}
theorem gj.NZ(h:gj w g l m f s o M){j:Nat}(hj:j<14)(x:Nat):gj (w.setCell ⟨g,4+j,none⟩ (ae ak (x:Int))) g l m f s o (fun i=>if i=j then x else M i):=by
 unfold gj fN;rw[aO w g (4+j) _ _ _ h];unfold fN;rw[zD];refine congrArg (fun a=>some (Obj.cells a 173 (0,0))) (uS fun i hi=>?_);unfold pU;by_cases e:i=4+j
 ·subst e;rw[if_pos rfl,if_neg (by omega),if_neg (by omega),if_neg (by omega),if_neg (by omega),if_pos (by omega)];show(x:Int)=((if 4+j-4=j then x else M (4+j-4):Nat):Int)
  rw[if_pos (by omega)]
 ·rw[if_neg e];by_cases h4:i<4
  ·have:i=0\/i=1\/i=2\/i=3:=by omega
   rcases this with rfl|rfl|rfl|rfl<;>rfl
  ·rw[if_neg (show¬i=0 by omega),if_neg (show¬i=1 by omega),if_neg (show¬i=2 by omega),if_neg (show¬i=3 by omega),if_neg (show¬i=0 by omega),if_neg (show¬i=1 by omega),if_neg (show¬i=2 by omega),if_neg (show¬i=3 by omega)];show _=(if i<18 then((if i-4=j then x else M (i-4):Nat):Int)else o)
   rw[if_neg (show¬i-4=j by omega)]
theorem gj.setAt(h:gj w g l m f s o M){l' m' f' s' o':Int}(k:Nat)(x:Int)(he:∀i,i<19->(if i=k then x else pU l m f s o M i)=pU l' m' f' s' o' M i):gj (w.setCell ⟨g,k,none⟩ (ae ak x)) g l' m' f' s' o' M:=by
 unfold gj fN;rw[aO w g k _ _ _ h];unfold fN;rw[zD];exact congrArg (fun a=>some (Obj.cells a 173 (0,0))) (uS he)
theorem gj.N0(h:gj w g l m f s o M)(x:Int):gj (w.setCell ⟨g,1,none⟩ (ae ak x)) g l x f s o M:=
 h.setAt 1 x fun i hi=>by
  unfold pU;by_cases e:i=1
  ·subst e;rfl
  ·rw[if_neg e];by_cases e0:i=0
   ·subst e0;rfl
   ·rw[if_neg e0,if_neg e,if_neg e0,if_neg e]
theorem gj.Ga(h:gj w g l m f s o M)(x:Int):gj (w.setCell ⟨g,3,none⟩ (ae ak x)) g l m f x o M:=
 h.setAt 3 x fun i hi=>by
  unfold pU;by_cases e:i=3
  ·subst e;rfl
  ·rw[if_neg e,if_neg e,if_neg e]
theorem gj.N1(h:gj w g l m f s o M)(x:Int):gj (w.setCell ⟨g,18,none⟩ (ae ak x)) g l m f s x M:=
 h.setAt 18 x fun i hi=>by
  unfold pU;by_cases e:i=18
  ·subst e;rfl
  ·rw[if_neg e];by_cases e0:i<18
   ·rw[if_pos e0,if_pos e0]
   ·omega
theorem gj.other(h:gj w g l m f s o M){p:aw}(hp:g≠p.block)(u:ay):gj (w.setCell p u) g l m f s o M:=(Below.heap_setCell w p u g hp).trans h
end
theorem N2(a b c d:Int):prog.built 173 [(0,ae ak a),(1,ae ak b),(2,ae ak c),(3,ae ak d)]=some (fN a b c d 0 (fun _=>0)):=by kernel_rfl
def n0(L:List Nat)(j:Nat):Nat->Nat:=fun i=>if i<j then L.getD i 0 else 0
theorem N3(L:List Nat)(j:Nat):(fun i=>if i=j then L.getD j 0 else n0 L j i)=n0 L (j+1):=by
 funext i;unfold n0;by_cases e:i=j
 ·subst e;rw[if_pos rfl,if_pos (by omega)]
 ·rw[if_neg e];by_cases h:i<j
  ·rw[if_pos h,if_pos (by omega)]
  ·rw[if_neg h,if_neg (by omega)]
theorem Oa(L:List Nat):n0 L L.length=fun i=>L.getD i 0:=by
 funext i;unfold n0;by_cases h:i<L.length
 ·rw[if_pos h]
 ·rw[if_neg h,List.getD_eq_getElem?_getD,List.getElem?_eq_none (by omega)];rfl
def fQ(L:List Nat):Nat->Nat:=fun i=>L.getD i 0
theorem Gb(w:au)(l f:Int)(A:Option aw)(cap N:Nat)(L:List Nat)(hN:N=L.length)(a6:N<=14)(hr:iM w w.heap.size A (gg L))(hl:0<=l/\l<=1000)(hf:0<=f/\f<=1000)(hS:jr (fQ L) N<=40000)(hC:gF (fQ L) N<=40):
  ax prog 150 #[ae ak l,ae ak f,af A N cap] w fun e w'=>e=aq (ai (fN l (l-1+((jr (fQ L) N:Nat):Int)) f (f-1+((gF (fQ L) N:Nat):Int)) 0 (fQ L)))/\aS w.heap.size w w':=by
 have hz:=(zero_of_info AQ).1
 have HR:=fa hr;have HS:=fa hS;have HC:=fa hC;have HN:=fa hN
 obtain⟨a8,a9⟩:=hl
 obtain⟨bf,bg⟩:=hf
 clear hr hS hC hN
 obtain⟨V,hV⟩:=fb (gi (w.alloc (ao (fN 0 0 0 0 0 (fun _=>0)) 173)) (fN 0 0 0 0 0 (fun _=>0)) (fN l (l-1) f (f-1) 0 (fun _=>0)) 173)
 have v1:gj V (w.heap.size+1) l (l-1) f (f-1) 0 (fun _=>0):=by
  have:=kO (w.alloc (ao (fN 0 0 0 0 0 (fun _=>0)) 173)) (fN 0 0 0 0 0 (fun _=>0)) (fN l (l-1) f (f-1) 0 (fun _=>0)) 173;rw[World.size_alloc,<-hV]at this;exact this
 have bV:=km (w.alloc (ao (fN 0 0 0 0 0 (fun _=>0)) 173)) (fN 0 0 0 0 0 (fun _=>0)) (fN l (l-1) f (f-1) 0 (fun _=>0)) 173
 rw[<-hV]at bV
 have v0:gj V w.heap.size 0 0 0 0 0 (fun _=>0):=(sx w 0 0 0 0 0 (fun _=>0)).below bV (by simp)
 have b0:aS w.heap.size w V:=(fz.alloc fe _).trans (bV.mono (by simp))
 have hn:=(aH (w.alloc (ao (fN 0 0 0 0 0 (fun _=>0)) 173)) (ao (fN 0 0 0 0 0 (fun _=>0)) 173))
 rw[World.size_alloc]at hn
 have aV:((w.alloc (ao (fN 0 0 0 0 0 (fun _=>0)) 173)).alloc (ao (fN 0 0 0 0 0 (fun _=>0)) 173)).setRow (w.heap.size+1) (fN l (l-1) f (f-1) 0 (fun _=>0))=V:=by
  rw[hV];unfold gi;rw[World.size_alloc]
 have V0:=fa v0;have V1:=fa v1;have B0:=fa b0;have aZ:=fa hn;have a1:=fa aV
 clear v0 v1 b0 hn aV bV hV
 go_enter func150,ntmps150
 go_wp2_with (first
  |(refine aE rfl 173 #[(0,.tmp 10),(1,.tmp 12),(2,.tmp 13),(3,.tmp 15)] rfl (some 16) rfl (fN l (l-1) f (f-1) 0 (fun _=>0)) ?_ ?_;focus(simpa[Act.eval]using N2 l (l-1) f (f-1)))
  |(refine aD rfl _ _ _ rfl rfl (w.heap.size+1) (fN l (l-1) f (f-1) 0 (fun _=>0)) rfl rfl 173 (fN 0 0 0 0 0 (fun _=>0)) aZ.out (nZ _) rfl (tA _ _) ?_;rw[a1.out])
  |fail)
 go_loopw [19] (fun iv wr=>∃j S C:Nat,j<=N/\S<=40000/\C<=40/\iv=ae ak (j:Int)/\aR (S=jr (fQ L) j)/\aR (C=gF (fQ L) j)/\aR (gj wr w.heap.size 0 0 0 0 0 (fun _=>0))/\aR (gj wr (w.heap.size+1) l (l-1+(S:Int)) f (f-1+(C:Int)) 0 (n0 L j))/\aR (aS w.heap.size w wr)) (fun iv _=>N-(aQ iv).toNat)
 case atStart=>
  refine⟨0,0,0,Nat.zero_le _,by omega,by omega,rfl,fa rfl,fa rfl,V0,fa ?_,B0⟩;have h0:n0 L 0=fun _=>0:=funext fun i=>if_neg (by omega)
  rw[h0];simpa using V1.out
 case round=>
  obtain⟨j,S,C,hj,hS,hC,rfl,aW,aX,K0,K1,ah⟩:=hrel;by_cases aY:j<N
  ·have ad:j<14:=by omega
   obtain⟨b,o,rfl,_,hc⟩:=(HR.out.below ah.out fe).at (k:=j) (by rw[oS,<-HN.out];exact aY);have e1:=hc j (by rw[oS,<-HN.out];exact aY);rw[wK]at e1;obtain⟨q,hq⟩:=fb (L.getD j 0);rw[<-hq]at e1;have HQ:=fa hq;clear hq hc;have r1:=K1.out.many ad;have r2:=K1.out.frozen (4+j);have s1:=K1.out.NZ ad q;have r3:=s1.fh;have r4:=s1.frozen 1;have s2:=(s1.N0 (wrap64 (l-1+(S:Int)+wrap64 ((q:Int)*2^j)))).drew;have r5:=s2.last;have r6:=s2.frozen 3;have s3:=s2.Ga (f-1+(C:Int)+(q:Int));have t3:=(((K0.out.other (p:=⟨w.heap.size+1,4+j,none⟩) (by simp) (ae ak (q:Int))).other (p:=⟨w.heap.size+1,1,none⟩) (by simp) (ae ak (wrap64 (l-1+(S:Int)+wrap64 ((q:Int)*2^j))))).drew).other (p:=⟨w.heap.size+1,3,none⟩) (by simp) (ae ak (f-1+(C:Int)+(q:Int)));have b3:=((((ah.out.setCell (p:=⟨w.heap.size+1,4+j,none⟩) (by simp) (ae ak (q:Int))).setCell (p:=⟨w.heap.size+1,1,none⟩) (by simp) (ae ak (wrap64 (l-1+(S:Int)+wrap64 ((q:Int)*2^j))))).drew)).setCell (p:=⟨w.heap.size+1,3,none⟩) (by simp) (ae ak (f-1+(C:Int)+(q:Int)));have S3:=fa s3;have T3:=fa t3;have B3:=fa b3
   clear s1 s2 s3 t3 b3;have a7:q<=40:=by
    have h1:gF (fQ L) (j+1)<=gF (fQ L) N:=vE _ (by omega);have h2:gF (fQ L) (j+1)=gF (fQ L) j+q:=by rw[HQ.out];rfl
    have:=HC.out;omega
   go_wp2;go_region;all_goals(
    go_wp2;go_roundw
    case rel=>
     obtain⟨g1,g2⟩:=xR q j (by omega) ad;have a2:jr (fQ L) (j+1)=S+q*gN j:=by rw[aW.out,HQ.out];rfl
     have bj:jr (fQ L) (j+1)<=40000:=Nat.le_trans (AU _ (by omega)) HS.out;have a3:gF (fQ L) (j+1)=C+q:=by rw[aX.out,HQ.out];rfl
     have bl:gF (fQ L) (j+1)<=40:=Nat.le_trans (vE _ (by omega)) HC.out;have al:wrap64 (l-1+(S:Int)+wrap64 ((q:Int)*2^j))=l-1+((S+q*gN j:Nat):Int):=by rw[g1];unfold wrap64;omega
     have av:f-1+(C:Int)+(q:Int)=f-1+((C+q:Nat):Int):=by omega
     have s3:=S3.out;have t3:=T3.out;have b3:=B3.out
     rw[al,av]at s3;have hM:(fun i=>if i=j then q else n0 L j i)=n0 L (j+1):=by rw[HQ.out];exact N3 L j
     rw[hM]at s3;rw[al,av]at t3 b3;rw[al,av];exact⟨j+1,S+q*gN j,C+q,by omega,by omega,by omega,by go_num,fa a2.symm,fa a3.symm,fa t3,fa s3,fa b3⟩
    case measure=>simp[aQ];omega)
  ·obtain rfl:j=N:=by omega
   obtain⟨m1,aT⟩:=fb (l-1+(S:Int));obtain⟨s1,aU⟩:=fb (f-1+(C:Int));have k1:=K1.out;rw[<-aT,<-aU]at k1;have K2:=fa k1;have a4:=fa aT;have a5:=fa aU
   clear k1 aT aU K1;go_wp2_with (first
    |(refine aF rfl _ _ rfl (w.heap.size+1) rfl _ (fN l m1 f s1 0 (n0 L j)) (0,0) _ K2.out underlying173 rfl (nZ _) ?_)
    |(refine aD rfl _ _ _ rfl rfl w.heap.size (fN l m1 f s1 0 (n0 L j)) rfl rfl 173 (fN 0 0 0 0 0 (fun _=>0)) K0.out (nZ _) rfl (tA _ _) ?_)
    |fail)
   refine aL (v:=ai (fN l m1 f s1 0 (n0 L j))) ?_ rfl ⟨?_,oX ah.out fe _⟩
   ·exact results_cell_row rfl _ _ w.heap.size _ _ (0,0) _ rfl (aJ _ _ _ _ _ _ K0.out) underlying173 rfl (nZ _)
   ·have hM:n0 L j=fQ L:=by rw[HN.out];exact Oa L
    rw[hM,a4.out,a5.out,aW.out,aX.out]
def jG:List Nat:=[8,4,4,4,4,4]
def jH:List Nat:=[4,2,2,2,2,2,2,2,2,2,2,2,2,2]
theorem Gc(w:au)(Z:Array ay)(T:aC)(L:List Nat)(cs:Array ay)(h:cs.toList=jj (gg L)):
  iM ((w.alloc (ao Z T)).alloc (ao cs 3)) ((w.alloc (ao Z T)).alloc (ao cs 3)).heap.size (some ⟨w.heap.size+1,0,none⟩) (gg L)/\
  ((w.alloc (ao Z T)).alloc (ao cs 3)).heap[w.heap.size]?=some (ao Z T (0,0))/\aS w.heap.size w ((w.alloc (ao Z T)).alloc (ao cs 3))/\w.heap.size<((w.alloc (ao Z T)).alloc (ao cs 3)).heap.size:=by
 have h1:=Km (w.alloc (ao Z T)) (gg L) cs h
 have h2:((w.alloc (ao Z T)).alloc (ao cs 3)).heap[w.heap.size]?=some (ao Z T (0,0)):=(Below.heap_alloc _ _ _ (by simp)).trans (aH w _)
 refine⟨?_,h2,(fz.alloc fe _).alloc (by simp) _,by simp;omega⟩
 rw[World.size_alloc w]at h1
 exact h1
theorem AX(w:au):ax prog 106 #[] w fun e w'=>e=aq (ai (fN 1 32768 0 29 0 (fQ jH)))/\aS w.heap.size w w':=by
 have hz:=(zero_of_info AQ).1;obtain⟨hr,v0,b0,ah⟩:=Gc w (fN 0 0 0 0 0 (fun _=>0)) 173 jH #[ae ak 4,ae ak 2,ae ak 2,ae ak 2,ae ak 2,ae ak 2,ae ak 2,ae ak 2,ae ak 2,ae ak 2,ae ak 2,ae ak 2,ae ak 2,ae ak 2] rfl;have ad:=Gb _ 1 0 _ 14 14 jH rfl (by omega) hr (by omega) (by omega) (by decide) (by decide);have e1:(1:Int)-1+((jr (fQ jH) 14:Nat):Int)=32768:=by decide
 have e2:(0:Int)-1+((gF (fQ jH) 14:Nat):Int)=29:=by decide
 rw[e1,e2]at ad;obtain⟨V,hV⟩:=fb (((w.alloc (ao (fN 0 0 0 0 0 (fun _=>0)) 173)).alloc (ao #[ae ak 4,ae ak 2,ae ak 2,ae ak 2,ae ak 2,ae ak 2,ae ak 2,ae ak 2,ae ak 2,ae ak 2,ae ak 2,ae ak 2,ae ak 2,ae ak 2] 3)));rw[<-hV]at ad v0 b0 ah;have HF:=fa ad;have V0:=fa v0;have B0:=fa b0;have HV:=fa hV.symm;have av:=fa ah
 clear ad v0 b0 hV hr e1 e2 ah;obtain⟨X,hX⟩:=fb (fN 1 32768 0 29 0 (fQ jH));obtain⟨x1,x2⟩:X.size=19/\X.all (·.oneCell')=true:=by rw[hX];exact⟨pL _ _,tA _ _⟩
 have x3:(prog.info? 173).map (·.size)=some X.size:=by rw[hX];exact nZ _
 rw[<-hX]at HF⊢;clear hX;go_enter func106,ntmps106
 go_wp2_with fail
 rw[HV.out];refine HF.out.mono ?_;rintro e w1 ⟨rfl,al⟩;have aT:=(al.block w.heap.size av.out).trans V0.out;have K1:=fa aT;have aU:=fa (B0.out.trans (al.mono (Nat.le_of_lt av.out)))
 clear aT al;go_wp2_with (first
  |(refine aD rfl _ _ _ rfl rfl w.heap.size X rfl rfl 173 (fN 0 0 0 0 0 (fun _=>0)) K1.out x3 (by rw[x1];rfl) x2 ?_)
  |fail)
 refine aL (v:=ai X) ?_ rfl ⟨rfl,oX aU.out fe _⟩;exact results_cell_row rfl _ _ w.heap.size _ _ (0,0) _ rfl (aJ _ _ _ _ _ _ K1.out) underlying173 rfl x3
theorem AY(w:au):ax prog 103 #[] w fun e w'=>e=aq (ai (fN 3 258 257 285 258 (fQ jG)))/\aS w.heap.size w w':=by
 have hz:=(zero_of_info AQ).1;obtain⟨hr,v0,b0,av⟩:=Gc w (fN 0 0 0 0 0 (fun _=>0)) 173 jG #[ae ak 8,ae ak 4,ae ak 4,ae ak 4,ae ak 4,ae ak 4] rfl;have ah:=Gb _ 3 257 _ 6 6 jG rfl (by omega) hr (by omega) (by omega) (by decide) (by decide);have e1:(3:Int)-1+((jr (fQ jG) 6:Nat):Int)=258:=by decide
 have e2:(257:Int)-1+((gF (fQ jG) 6:Nat):Int)=284:=by decide
 rw[e1,e2]at ah;obtain⟨V,hV⟩:=fb (((w.alloc (ao (fN 0 0 0 0 0 (fun _=>0)) 173)).alloc (ao #[ae ak 8,ae ak 4,ae ak 4,ae ak 4,ae ak 4,ae ak 4] 3)));rw[<-hV]at ah v0 b0 av;have HF:=fa ah;have V0:=fa v0;have B0:=fa b0;have HV:=fa hV.symm;have aV:=fa av
 clear ah v0 b0 hV hr e1 e2 av;obtain⟨MM,aW⟩:=fb (fQ jG);rw[<-aW]at HF⊢;clear aW;go_enter func103,ntmps103
 go_wp2_with fail
 rw[HV.out];refine HF.out.mono ?_;rintro e w1 ⟨rfl,aT⟩;have al:gj w1 w.heap.size 0 0 0 0 0 (fun _=>0):=(aT.block w.heap.size aV.out).trans V0.out;have ad:aS w.heap.size w w1:=B0.out.trans (aT.mono (Nat.le_of_lt aV.out));have aU:w.heap.size≠w1.heap.size:=by have:=al.lt;omega
 obtain⟨U,hU⟩:=fb (gi w1 (fN 0 0 0 0 0 (fun _=>0)) (fN 3 258 257 284 0 MM) 173);have u1:gj U w1.heap.size 3 258 257 284 0 MM:=by rw[hU];exact kO _ _ _ _
 have bU:aS w1.heap.size w1 U:=by rw[hU];exact km _ _ _ _
 have u0:gj U w.heap.size 0 0 0 0 0 (fun _=>0):=al.below bU al.lt;have f1:=u1.frozen 18;have k1:=u1.own;have u2:=u1.N1 258;have f2:=u2.frozen 3;have k2:=u2.last;have u3:=u2.Ga 285;have z3:=(u0.other (p:=⟨w1.heap.size,18,none⟩) aU (ae ak 258)).other (p:=⟨w1.heap.size,3,none⟩) aU (ae ak 285);have aX:=((ad.trans (bU.mono ad.size)).setCell (p:=⟨w1.heap.size,18,none⟩) ad.size (ae ak 258)).setCell (p:=⟨w1.heap.size,3,none⟩) ad.size (ae ak 285);have HU:=fa hU.symm;have U3:=fa u3;have Z3:=fa z3;have aY:=fa aX
 clear al ad aU hU u1 bU u0 u2 u3 z3 aX aT;go_wp2_with (first
  |(refine aD rfl _ _ _ rfl rfl w1.heap.size (fN 3 258 257 284 0 MM) rfl rfl 173 (fN 0 0 0 0 0 (fun _=>0)) (aH w1 _) (nZ _) rfl (tA _ _) ?_;change wpList _ _ _ _ _ (gi w1 (fN 0 0 0 0 0 (fun _=>0)) (fN 3 258 257 284 0 MM) 173);rw[HU.out])
  |(refine aF rfl _ _ rfl w1.heap.size rfl _ (fN 3 258 257 285 258 MM) (0,0) _ U3.out underlying173 rfl (nZ _) ?_)
  |(refine aD rfl _ _ _ rfl rfl w.heap.size (fN 3 258 257 285 258 MM) rfl rfl 173 (fN 0 0 0 0 0 (fun _=>0)) Z3.out (nZ _) rfl (tA _ _) ?_)
  |fail)
 refine aL (v:=ai (fN 3 258 257 285 258 MM)) ?_ rfl ⟨rfl,oX aY.out fe _⟩;exact results_cell_row rfl _ _ w.heap.size _ _ (0,0) _ rfl (aJ _ _ _ _ _ _ Z3.out) underlying173 rfl (nZ _)
theorem AZ:sB 3 258 257 285 258 (fQ jG):=⟨by omega,by omega,by omega,by omega,by decide,.inr (by decide),by decide,by decide⟩
theorem A0:sB 1 32768 0 29 0 (fQ jH):=⟨by omega,by omega,by omega,by omega,by decide,.inl (by decide),by decide,by decide⟩
theorem Ge:∀b,b<14->∀z,z<fQ jG b->gF (fQ jG) b+z<28/\gI (gF (fQ jG) b+z)=3+(jr (fQ jG) b+z*gN b)/\kJ (gF (fQ jG) b+z)=b:=by decide+kernel
theorem Gf:∀b,b<14->∀z,z<fQ jH b->gF (fQ jH) b+z<30/\ic (gF (fQ jH) b+z)=1+(jr (fQ jH) b+z*gN b)/\ln (gF (fQ jH) b+z)=b:=by decide+kernel
theorem Gg{y L:Int}{b:Nat}(hy:257<=y/\y<=285)(h:tT 3 257 285 258 (fQ jG) y L b):L=((gI (y-257).toNat:Nat):Int)/\b=kJ (y-257).toNat:=by
 rcases h with⟨_,rfl,rfl,rfl⟩|⟨_,z,hb,hz,ad,hL⟩
 ·exact⟨rfl,rfl⟩
 ·obtain⟨h1,h2,h3⟩:=Ge b hb z hz;have e:(y-257).toNat=gF (fQ jG) b+z:=by omega
  rw[e,h2,h3,hL];exact⟨by omega,rfl⟩
theorem Gh{y L:Int}{b:Nat}(hy:0<=y/\y<=29)(h:tT 1 0 29 0 (fQ jH) y L b):L=((ic y.toNat:Nat):Int)/\b=ln y.toNat:=by
 rcases h with⟨h0,_⟩|⟨_,z,hb,hz,ad,hL⟩
 ·exact absurd rfl h0
 ·obtain⟨h1,h2,h3⟩:=Gf b hb z hz;have e:y.toNat=gF (fQ jH) b+z:=by omega
  rw[e,h2,h3,hL];exact⟨by omega,rfl⟩
def qx(l f s o:Int)(M:Nat->Nat)(y:Int)(e:Ending):Prop:=
 if f<=y/\y<=s then∃(L:Int) (b:Nat),tT l f s o M y L b/\e=aq (.tuple #[ae ak (b:Int),ae ak 0])else e=aq (.tuple #[ae ak 0,ae ak 90])
theorem Gi(w:au)(l m f s o:Int)(M:Nat->Nat)(hk:sB l m f s o M)(y:Int):
  ax prog 104 #[ai (fN l m f s o M),ae ak y] w fun e w'=>qx l f s o M y e/\aS w.heap.size w w':=by
 obtain⟨h,hh⟩:=fb (decide (f<=y/\y<=s))
 have ah:=sx w l m f s o M
 have hb:aS w.heap.size w (w.alloc (ao (fN l m f s o M) 173)):=fz.alloc fe _
 have ad:=F5 (w.alloc (ao (fN l m f s o M) 173)) l m f s o M y h hh
 have aT:=ah.lt
 have aU:=fa ah;have HB:=fa hb;have HH:=fa hh;have aV:=fa ad;have HK:=fa hk;have aW:=fa aT
 clear ah hb hh ad hk aT
 go_enter func104,ntmps104
 go_wp2_with (first
  |(refine aF rfl _ _ rfl w.heap.size rfl _ (fN l m f s o M) (0,0) _ aU.out underlying173 rfl (nZ _) ?_)
  |fail)
 refine aV.out.mono ?_
 rintro e w1 ⟨rfl,al⟩
 have aX:gj w1 w.heap.size l m f s o M:=aU.out.below al aW.out
 have aY:=HB.out.trans (al.mono (Nat.le_of_lt aW.out))
 have a3:=fa aX;have av:=fa aY
 clear aX al aY
 rcases h with _|_
 ·have hn:¬(f<=y/\y<=s):=by have:=HH.out;simpa using this
  go_wp2;go_ret2;exact⟨by unfold qx;rw[if_neg hn];rfl,av.out⟩
 ·have hy:f<=y/\y<=s:=by have:=HH.out;simpa using this
  have aZ:=F9 w1 l m f s o M HK.out y hy;have a4:=fa aZ;have HY:=fa hy
  have a5:=fa (show w.heap.size<=w1.heap.size from av.out.size);clear aZ hy;go_wp2_with (first
   |(refine aF rfl _ _ rfl w.heap.size rfl _ (fN l m f s o M) (0,0) _ a3.out underlying173 rfl (nZ _) ?_)
   |fail)
  refine a4.out.mono ?_;rintro e w2 ⟨⟨L,b,a1,rfl⟩,a2⟩;have a6:=fa a1;have a7:=fa (av.out.trans (a2.mono a5.out))
  clear a1 a2;go_wp2;go_ret2;exact⟨by unfold qx;rw[if_pos HY.out];exact⟨L,b,a6.out,rfl⟩,a7.out⟩
def pV(l f s o:Int)(M:Nat->Nat)(y x:Int)(e:Ending):Prop:=
 if f<=y/\y<=s then∃(L:Int) (b:Nat),tT l f s o M y L b/\((x<0\/(gN b:Int)<=x)/\e=aq (.tuple #[ae ak 0,ae ak 2])\/
  (0<=x/\x<(gN b:Int))/\((L+x=o/\y≠s)/\e=aq (.tuple #[ae ak 0,ae ak 90])\/¬(L+x=o/\y≠s)/\e=aq (.tuple #[ae ak (L+x),ae ak 0])))
 else e=aq (.tuple #[ae ak 0,ae ak 90])
theorem Gj(w:au)(l m f s o:Int)(M:Nat->Nat)(hk:sB l m f s o M)(y x:Int):
  ax prog 105 #[ai (fN l m f s o M),ae ak y,ae ak x] w fun e w'=>pV l f s o M y x e/\aS w.heap.size w w':=by
 obtain⟨h,hh⟩:=fb (decide (f<=y/\y<=s))
 have ah:=sx w l m f s o M
 have hb:aS w.heap.size w (w.alloc (ao (fN l m f s o M) 173)):=fz.alloc fe _
 have ad:=F5 (w.alloc (ao (fN l m f s o M) 173)) l m f s o M y h hh
 have a5:=ah.lt
 have a6:=fa ah;have HB:=fa hb;have HH:=fa hh;have a7:=fa ad;have HK:=fa hk;have a8:=fa a5
 clear ah hb hh ad hk a5
 go_enter func105,ntmps105
 go_wp2_with (first
  |(refine aF rfl _ _ rfl w.heap.size rfl _ (fN l m f s o M) (0,0) _ a6.out underlying173 rfl (nZ _) ?_)
  |fail)
 refine a7.out.mono ?_
 rintro e w1 ⟨rfl,al⟩
 have a9:gj w1 w.heap.size l m f s o M:=a6.out.below al a8.out
 have bf:=HB.out.trans (al.mono (Nat.le_of_lt a8.out))
 have av:=fa a9;have aT:=fa bf
 clear a9 al bf
 rcases h with _|_
 ·have hn:¬(f<=y/\y<=s):=by have:=HH.out;simpa using this
  go_wp2;go_ret2;exact⟨by unfold pV;rw[if_neg hn];rfl,aT.out⟩
 ·have hy:f<=y/\y<=s:=by have:=HH.out;simpa using this
  have bg:=F9 w1 l m f s o M HK.out y hy;have br:=fa bg;have HY:=fa hy
  have bt:=fa (show w.heap.size<=w1.heap.size from aT.out.size);clear bg hy;go_wp2_with (first
   |(refine aF rfl _ _ rfl w.heap.size rfl _ (fN l m f s o M) (0,0) _ av.out underlying173 rfl (nZ _) ?_)
   |fail)
  refine br.out.mono ?_;rintro e w2 ⟨⟨L,b,aU,rfl⟩,aV⟩;have aW:gj w2 w.heap.size l m f s o M:=av.out.below aV av.out.lt;have k2:=aW.own;have k3:=aW.last;obtain⟨bA,bB,bz⟩:=NY HK.out aU;have bu:=fa aU;have aX:=fa (aT.out.trans (aV.mono bt.out))
  clear aU aV aW;have hp:wrap64 ((2:Int)^b)=((gN b:Nat):Int)/\gN b<=8192:=by
   have h1:2^b<=2^13:=Nat.pow_le_pow_right (by omega) (by omega);have e:(2:Int)^b=((2^b:Nat):Int):=by rw[Int.natCast_pow];rfl
   rw[e];unfold gN;generalize 2^b=z at h1;unfold wrap64;omega
  obtain⟨P,hP⟩:=fb (gN b);rw[<-hP]at hp;obtain⟨bj,bC⟩:=hp;have HP:=fa hP;have bl:=fa bj
  clear hP bj;have key:∀e,((x<0\/(P:Int)<=x)/\e=Ending.returned (.tuple #[ae ak 0,ae ak 2])\/(0<=x/\x<(P:Int))/\((L+x=o/\y≠s)/\e=aq (.tuple #[ae ak 0,ae ak 90])\/¬(L+x=o/\y≠s)/\e=aq (.tuple #[ae ak (L+x),ae ak 0])))->pV l f s o M y x e:=fun e he=>by
   unfold pV;rw[if_pos HY.out];rw[HP.out]at he;exact⟨L,b,bu.out,he⟩
  have aY:=fa key;clear key;by_cases aZ:x<0
  ·have hd:decide (x<0)=true:=kP aZ;go_wp2;go_ret2;exact⟨aY.out _ (.inl ⟨.inl aZ,rfl⟩),aX.out⟩
  ·have hd:decide (x<0)=false:=lq aZ;by_cases a1:(P:Int)<=x
   ·have a2:decide ((P:Int)<=x)=true:=kP a1;have bx:decide (wrap64 ((2:Int)^b)<=x)=true:=by rw[bl.out];exact a2
    go_wp2;go_ret2;exact⟨aY.out _ (.inl ⟨.inr a1,rfl⟩),aX.out⟩
   ·have a2:decide ((P:Int)<=x)=false:=lq a1;have bx:decide (wrap64 ((2:Int)^b)<=x)=false:=by rw[bl.out];exact a2
    obtain⟨B1,a3⟩:=fb ((L+x==o));obtain⟨B2,a4⟩:=fb ((y !=s));have e1:=a3.symm;have e2:=a4.symm;have bn:(L+x=o/\y≠s)↔(B1&&B2)=true:=by rw[a3,a4];simp
    have bq:=fa bn;clear a3 a4 bn;rcases B1 with _|_<;>rcases B2 with _|_;all_goals(
     go_wp2;go_ret2;refine⟨aY.out _ (.inr ⟨⟨by omega,by omega⟩,?_⟩),aX.out⟩;first
      |exact .inl ⟨bq.out.2 rfl,rfl⟩
      |exact .inr ⟨fun h=>absurd (bq.out.1 h) (by decide),rfl⟩)
theorem Ob(a b:Nat)(ha:a<9223372036854775808)(hb:b<9223372036854775808):bits .and ak (a:Int) (b:Int)=((a&&&b:Nat):Int):=by
 have hx:a&&&b<2^63:=Nat.and_lt_two_pow _ (by omega);show IntKind.i64.wrap ((BitVec.ofInt 64 (a:Int)&&&BitVec.ofInt 64 (b:Int)).toNat:Int)=_
 rw[BitVec.toNat_and,oq 64 a (by omega),oq 64 b (by omega),IntKind.wrap_i64];have e:(2:Nat)^63=9223372036854775808:=rfl;generalize a&&&b=x at hx⊢;omega
theorem Oc(z b:Nat)(hz:z<=40000)(hb:b<14):bits .and ak (z:Int) (wrap64 (wrap64 ((2:Int)^b)-1))=((z%gN b:Nat):Int):=by
 have e:(2:Int)^b=((2^b:Nat):Int):=by rw[Int.natCast_pow];rfl
 have h1:2^b<=2^13:=Nat.pow_le_pow_right (by omega) (by omega);have h0:0<2^b:=Nat.pow_pos (by omega);have e2:wrap64 (wrap64 ((2:Int)^b)-1)=((2^b-1:Nat):Int):=by
  rw[e];generalize 2^b=x at h1 h0;unfold wrap64;omega
 rw[e2,Ob z _ (by omega) (by omega),Nat.and_two_pow_sub_one_eq_mod];rfl
def pf(l m f s o:Int)(M:Nat->Nat)(n:Int)(e:Ending):Prop:=
 if n<l\/m<n then e=aq (.tuple #[ae ak 0,ae ak 0,ae ak 0,ae ak 2])else
 if n=o then e=aq (.tuple #[ae ak s,ae ak 0,ae ak 0,ae ak 0])else
 ∃b z:Nat,b<14/\z<M b*gN b/\n=l+((jr M b+z:Nat):Int)/\e=aq (.tuple #[ae ak (f+((gF M b+z/gN b:Nat):Int)),ae ak (b:Int),ae ak ((z%gN b:Nat):Int),ae ak 0])
theorem Gk(w:au)(l m f s o:Int)(M:Nat->Nat)(hk:sB l m f s o M)(n:Int):
  ax prog 130 #[ai (fN l m f s o M),ae ak n] w fun e w'=>pf l m f s o M n e/\aS w.heap.size w w':=by
 have ad:=sx w l m f s o M
 have hb:aS w.heap.size w (w.alloc (ao (fN l m f s o M) 173)):=fz.alloc fe _
 have k0:=ad.least
 have k1:=ad.fh
 have k2:=ad.first
 have k3:=ad.last
 have k4:=ad.own
 have a1:=fa ad;have HB:=fa hb;have HK:=fa hk
 clear ad hb hk
 by_cases y0:n<l
 ·have d0:decide (n<l)=true:=kP y0;go_enter func130,ntmps130
  go_wp2;refine aL (tw rfl _ _ _) rfl ?_;exact⟨by unfold pf;rw[if_pos (.inl y0)];rfl,HB.out⟩
 have d0:decide (n<l)=false:=lq y0
 by_cases y1:m<n
 ·have d1:decide (m<n)=true:=kP y1;go_enter func130,ntmps130
  go_wp2;refine aL (tw rfl _ _ _) rfl ?_;exact⟨by unfold pf;rw[if_pos (.inr y1)];rfl,HB.out⟩
 have d1:decide (m<n)=false:=lq y1
 have ah:¬(n<l\/m<n):=by omega
 by_cases y2:n=o
 ·subst y2;have d2:(n==n)=true:=by simp
  have HN:=fa ah;clear ah;go_enter func130,ntmps130
  go_wp2;refine aL (tw rfl _ _ _) rfl ?_;exact⟨by unfold pf;rw[if_neg HN.out,if_pos rfl];rfl,HB.out⟩
 have d2:(n==o)=false:=by simpa using y2
 obtain⟨a8,a9⟩:=HK.out.l0
 obtain⟨bf,bg⟩:=HK.out.f0
 have al:=HK.out.AW
 have a2:=HK.out.m0
 have a3:0<=n-l/\n-l<=40000/\n-l<((jr M 14:Nat):Int):=by omega
 obtain⟨bj,bl,av⟩:=a3
 have HN:=fa ah;have H3:=fa av;have HO:=fa y2
 clear al a2 ah av y2
 go_enter func130,ntmps130
 go_wp2
 go_quiet (fail)
 go_wp2
 go_loopw [4,5,8] (fun sv bv fv wr=>∃b z C:Nat,b<14/\z<=40000/\C<=40/\sv=ae ak (f+(C:Int))/\bv=ae ak (b:Int)/\fv=ae ak (z:Int)/\aR (C=gF M b)/\aR (n=l+((jr M b+z:Nat):Int))/\aR (gj wr w.heap.size l m f s o M)/\aR (aS w.heap.size w wr)) (fun _ bv _ _=>14-(aQ bv).toNat)
 case atStart=>
  refine⟨0,(n-l).toNat,0,by omega,by omega,by omega,by simp,rfl,?_,fa rfl,fa ?_,fa (a1.out.drewN _),fa (AS HB.out _)⟩
  ·exact lX (by omega)
  ·show n=l+((0+(n-l).toNat:Nat):Int);omega
 case round=>
  obtain⟨b,z,C,hb,hz,hC,rfl,rfl,rfl,aT,HY,aU,aV⟩:=hrel;have c1:=aU.out.many hb;obtain⟨q,hq⟩:=fb (M b);rw[<-hq]at c1;have HQ:=fa hq;clear hq;have a7:q<=40:=by
   rw[HQ.out];have:=(F8 (M:=M) hb).1;have:=HK.out.AV;omega
  obtain⟨g1,g2⟩:=xR q b (by omega) hb;obtain⟨P,hP⟩:=fb (q*gN b);rw[<-hP]at g1 g2;have HP:=fa hP;have G1:=fa g1
  clear hP g1;by_cases bn:P<=z
  ·have aW:(P:Int)<=(z:Int):=by omega
   have hd:decide (wrap64 ((q:Int)*2^b)<=(z:Int))=true:=by rw[G1.out];exact kP aW
   go_wp2;go_roundw
   case rel=>
    have aX:b+1<14:=by
     rcases Nat.lt_or_ge (b+1) 14 with h|h
     ·exact h
     ·exfalso;have a4:b=13:=by omega
      have h1:=H3.out;have h2:=HY.out
      have h3:jr M 14=jr M 13+M 13*gN 13:=rfl;have h4:=HP.out;rw[a4]at h2 h4 HQ;rw[HQ.out]at h4;omega
    have a5:jr M (b+1)=jr M b+P:=by rw[HP.out,HQ.out];rfl
    have a6:gF M (b+1)=C+q:=by rw[HQ.out,aT.out];rfl
    have bq:gF M (b+1)<=40:=Nat.le_trans (vE M (by omega)) HK.out.AV;refine⟨b+1,z-P,C+q,aX,by omega,by omega,lX (by omega),by go_num,lX ?_,fa a6.symm,fa ?_,aU,aV⟩
    ·rw[G1.out];unfold wrap64;omega
    ·rw[HY.out,a5];omega
   case measure=>simp[aQ];omega
  ·have hd:decide (wrap64 ((q:Int)*2^b)<=(z:Int))=false:=by rw[G1.out];exact lq (by omega)
   have aY:(z:Int)/2^b=((z/gN b:Nat):Int)/\z/gN b<=40000:=by
    have e:(2:Int)^b=((2^b:Nat):Int):=by rw[Int.natCast_pow];rfl
    refine⟨by rw[e];rfl,Nat.le_trans (Nat.div_le_self _ _) hz⟩
   have aZ:=fa aY;clear aY;go_wp2;go_quiet (fail)
   go_wp2;refine aL (tw rfl _ _ _) rfl ?_;refine⟨?_,AS aV.out _⟩;unfold pf;rw[if_neg HN.out,if_neg HO.out];refine⟨b,z,hb,by rw[<-HQ.out,<-HP.out];omega,HY.out,?_⟩;have e1:wrap64 (f+(C:Int)+(z:Int)/2^b)=f+((gF M b+z/gN b:Nat):Int):=by
    rw[aZ.out.1,<-aT.out];have:=aZ.out.2;generalize z/gN b=x at this;unfold wrap64;omega
   rw[e1,Oc z b hz hb];rfl
theorem Od{n:Int}{e:Ending}(h:pf 3 258 257 285 258 (fQ jG) n e):e=aq (.tuple #[ae ak (gv n),ae ak (iN n),ae ak (jK n),ae ak (nT n)]):=by
 unfold pf at h;by_cases h1:n<3\/258<n
 ·rw[if_pos h1]at h;have hk:¬(3<=n/\n<=258):=by omega
  unfold gv iN jK nT;rw[if_neg hk,if_neg hk,if_neg hk,if_neg hk];exact h
 ·rw[if_neg h1]at h;have hk:3<=n/\n<=258:=by omega
  by_cases h2:n=258
  ·rw[if_pos h2]at h;subst h2;exact h
  ·rw[if_neg h2]at h;obtain⟨b,z,hb,hz,hn,he⟩:=h;have hp:0<gN b:=Nat.pow_pos (by omega);have hd:z/gN b<fQ jG b:=Nat.div_lt_of_lt_mul (by rw[Nat.mul_comm];exact hz);obtain⟨g1,g2,g3⟩:=Ge b hb _ hd;have hm:=Nat.mod_lt z hp;have ad:=Nat.div_add_mod z (gN b);rw[Nat.mul_comm]at ad;obtain⟨i,hi⟩:=fb (gF (fQ jG) b+z/gN b);rw[<-hi]at g1 g2 g3 he;obtain⟨x,hx⟩:=fb (z%gN b);rw[<-hx]at hm ad he;have hT:n=((gI i+x:Nat):Int):=by omega
   have ah:¬(i=27/\x=31):=by
    rintro⟨rfl,rfl⟩;have e1:gI 27=227:=rfl;omega
   obtain⟨q1,_,_⟩:=DH (i:=i) (x:=x) (by omega) (by rw[g3];exact hm) ah;have eI:qm n=i:=by rw[hT];exact q1
   have e2:n.toNat-gI i=x:=by omega
   unfold gv iN jK nT;rw[if_pos hk,if_pos hk,if_pos hk,if_pos hk,eI,g3,e2,he];rw[show((257:Int)+(i:Int))=((257+i:Nat):Int) by omega]
theorem Oe{n:Int}{e:Ending}(h:pf 1 32768 0 29 0 (fQ jH) n e):e=aq (.tuple #[ae ak (gE n),ae ak (jo n),ae ak (jQ n),ae ak (ni n)]):=by
 unfold pf at h;by_cases h1:n<1\/32768<n
 ·rw[if_pos h1]at h;have hk:¬(1<=n/\n<=32768):=by omega
  unfold gE jo jQ ni;rw[if_neg hk,if_neg hk,if_neg hk,if_neg hk];exact h
 ·rw[if_neg h1]at h;have hk:1<=n/\n<=32768:=by omega
  rw[if_neg (by omega)]at h;obtain⟨b,z,hb,hz,hn,he⟩:=h;have hp:0<gN b:=Nat.pow_pos (by omega);have hd:z/gN b<fQ jH b:=Nat.div_lt_of_lt_mul (by rw[Nat.mul_comm];exact hz);obtain⟨g1,g2,g3⟩:=Gf b hb _ hd;have hm:=Nat.mod_lt z hp;have ad:=Nat.div_add_mod z (gN b);rw[Nat.mul_comm]at ad;obtain⟨i,hi⟩:=fb (gF (fQ jH) b+z/gN b);rw[<-hi]at g1 g2 g3 he;obtain⟨x,hx⟩:=fb (z%gN b);rw[<-hx]at hm ad he;have hT:n=((ic i+x:Nat):Int):=by omega
  obtain⟨q1,_,_⟩:=DI (i:=i) (x:=x) (by omega) (by rw[g3];exact hm);have eI:qo n=i:=by rw[hT];exact q1
  have e2:n.toNat-ic i=x:=by omega
  unfold gE jo jQ ni;rw[if_pos hk,if_pos hk,if_pos hk,if_pos hk,eI,g3,e2,he];rw[Int.zero_add]
theorem Og{y:Int}{e:Ending}(h:qx 3 257 285 258 (fQ jG) y e):e=aq (.tuple #[ae ak (mN y),ae ak (oU y)]):=by
 unfold qx at h;unfold mN oU;by_cases hy:257<=y/\y<=285
 ·rw[if_pos hy]at h⊢;obtain⟨L,b,hb,rfl⟩:=h;rw[if_pos hy,(Gg hy hb).2]
 ·rw[if_neg hy]at h⊢;rw[if_neg hy];exact h
theorem Oh{y:Int}{e:Ending}(h:qx 1 0 29 0 (fQ jH) y e):e=aq (.tuple #[ae ak (mO y),ae ak (oV y)]):=by
 unfold qx at h;unfold mO oV;by_cases hy:0<=y/\y<=29
 ·rw[if_pos hy]at h⊢;obtain⟨L,b,hb,rfl⟩:=h;rw[if_pos hy,(Gh hy hb).2]
 ·rw[if_neg hy]at h⊢;rw[if_neg hy];exact h
theorem Oi{y x:Int}{e:Ending}(h:pV 3 257 285 258 (fQ jG) y x e):e=aq (.tuple #[ae ak (kL y x),ae ak (kK y x)]):=by
 unfold pV at h;by_cases hy:257<=y/\y<=285
 ·rw[if_pos hy]at h;obtain⟨L,b,hb,h⟩:=h;obtain⟨rfl,rfl⟩:=Gg hy hb;have ep:gN (kJ (y-257).toNat)=2^kJ (y-257).toNat:=rfl;rw[ep]at h;rcases h with⟨h1,rfl⟩|⟨h1,h⟩
  ·have hE:kK y x=2:=by unfold kK;rw[if_pos hy,if_pos h1]
   have hV:kL y x=0:=by unfold kL;rw[if_neg (by rw[hE];decide)]
   rw[hE,hV]
  ·have ah:¬(x<0\/((2^kJ (y-257).toNat:Nat):Int)<=x):=by omega
   have al:((((gI (y-257).toNat:Nat):Int)+x=258/\y≠285))↔(y=284/\x=31):=by
    obtain⟨X,rfl⟩:=Int.eq_ofNat_of_zero_le h1.1;obtain⟨i,hi⟩:=fb ((y-257).toNat);rw[<-hi]at h1⊢;have hx:X<2^kJ i:=by omega
    constructor
    ·rintro⟨a,c⟩;have av:i<28:=by omega
     by_cases ad:i=27
     ·subst ad;have e1:gI 27=227:=rfl;omega
     ·exfalso;have hn:=DG i av ad;have hr:=zt.mono (i:=i+1) (27-(i+1)) (by omega);rw[show i+1+(27-(i+1))=27 by omega]at hr;have e1:gI 27=227:=rfl;omega
    ·rintro⟨a,c⟩;have ad:i=27:=by omega
     subst ad;have e1:gI 27=227:=rfl;omega
   rcases h with⟨h2,rfl⟩|⟨h2,rfl⟩
   ·have hE:kK y x=90:=by unfold kK;rw[if_pos hy,if_neg ah,if_pos (al.1 h2)]
    have hV:kL y x=0:=by unfold kL;rw[if_neg (by rw[hE];decide)]
    rw[hE,hV]
   ·have hE:kK y x=0:=by unfold kK;rw[if_pos hy,if_neg ah,if_neg (fun g=>h2 (al.2 g))]
    have hV:kL y x=((gI (y-257).toNat:Nat):Int)+x:=by unfold kL;rw[if_pos hE]
    rw[hE,hV]
 ·rw[if_neg hy]at h;have hE:kK y x=90:=by unfold kK;rw[if_neg hy]
  have hV:kL y x=0:=by unfold kL;rw[if_neg (by rw[hE];decide)]
  rw[hE,hV];exact h
theorem Oj{y x:Int}{e:Ending}(h:pV 1 0 29 0 (fQ jH) y x e):e=aq (.tuple #[ae ak (kM y x),ae ak (lp y x)]):=by
 unfold pV at h;by_cases hy:0<=y/\y<=29
 ·rw[if_pos hy]at h;obtain⟨L,b,hb,h⟩:=h;obtain⟨rfl,rfl⟩:=Gh hy hb;have ep:gN (ln y.toNat)=2^ln y.toNat:=rfl;rw[ep]at h;have ah:1<=ic y.toNat:=by
   have h1:=zu.mono (i:=0) y.toNat (by omega);have e0:ic 0=1:=rfl;rw[Nat.zero_add]at h1;omega
  rcases h with⟨h1,rfl⟩|⟨h1,h⟩
  ·have hE:lp y x=2:=by unfold lp;rw[if_pos hy,if_pos h1]
   have hV:kM y x=0:=by unfold kM;rw[if_neg (by rw[hE];decide)]
   rw[hE,hV]
  ·have ad:¬(x<0\/((2^ln y.toNat:Nat):Int)<=x):=by omega
   rcases h with⟨h2,rfl⟩|⟨h2,rfl⟩
   ·omega
   ·have hE:lp y x=0:=by unfold lp;rw[if_pos hy,if_neg ad]
    have hV:kM y x=((ic y.toNat:Nat):Int)+x:=by unfold kM;rw[if_pos hE]
    rw[hE,hV]
 ·rw[if_neg hy]at h;have hE:lp y x=90:=by unfold lp;rw[if_neg hy]
  have hV:kM y x=0:=by unfold kM;rw[if_neg (by rw[hE];decide)]
  rw[hE,hV];exact h
theorem Gl(w:au)(n:Int):ax prog 90 #[ae ak n] w fun e w'=>e=aq (.tuple #[ae ak (gv n),ae ak (iN n),ae ak (jK n),ae ak (nT n)])/\aS w.heap.size w w':=by
 obtain⟨X,hX⟩:=fb (fN 3 258 257 285 258 (fQ jG));have hs:=fun v=>Gk v 3 258 257 285 258 (fQ jG) AZ n
 have hk:=AY w;rw[<-hX]at hk hs;have HM:=fa hk;have HS:=fa hs
 obtain⟨z0,ad⟩:=fb (gv n);obtain⟨z1,ah⟩:=fb (iN n);obtain⟨z2,al⟩:=fb (jK n);obtain⟨z3,av⟩:=fb (nT n);have hy:∀e,pf 3 258 257 285 258 (fQ jG) n e->e=aq (.tuple #[ae ak z0,ae ak z1,ae ak z2,ae ak z3]):=fun e h=>by rw[ad,ah,al,av];exact Od h
 rw[<-ad,<-ah,<-al,<-av];have HY:=fa hy;clear ad ah al av hX hk hs hy;go_enter func90,ntmps90
 go_wp2_with fail
 refine HM.out.mono ?_;rintro e w1 ⟨rfl,aT⟩;have aU:=fa aT;clear aT;go_wp2_with fail
 refine(HS.out w1).mono ?_;rintro e w2 ⟨he,aV⟩;obtain rfl:=HY.out _ he;have aW:=fa (aU.out.trans (aV.mono aU.out.size));clear aV he;go_wp2;refine aL (tw rfl _ _ _) rfl ?_;exact⟨rfl,aW.out⟩
theorem Gm(w:au)(n:Int):ax prog 91 #[ae ak n] w fun e w'=>e=aq (.tuple #[ae ak (gE n),ae ak (jo n),ae ak (jQ n),ae ak (ni n)])/\aS w.heap.size w w':=by
 obtain⟨X,hX⟩:=fb (fN 1 32768 0 29 0 (fQ jH));have hs:=fun v=>Gk v 1 32768 0 29 0 (fQ jH) A0 n
 have hk:=AX w;rw[<-hX]at hk hs;have HM:=fa hk;have HS:=fa hs
 obtain⟨z0,ad⟩:=fb (gE n);obtain⟨z1,ah⟩:=fb (jo n);obtain⟨z2,al⟩:=fb (jQ n);obtain⟨z3,av⟩:=fb (ni n);have hy:∀e,pf 1 32768 0 29 0 (fQ jH) n e->e=aq (.tuple #[ae ak z0,ae ak z1,ae ak z2,ae ak z3]):=fun e h=>by rw[ad,ah,al,av];exact Oe h
 rw[<-ad,<-ah,<-al,<-av];have HY:=fa hy;clear ad ah al av hX hk hs hy;go_enter func91,ntmps91
 go_wp2_with fail
 refine HM.out.mono ?_;rintro e w1 ⟨rfl,aT⟩;have aU:=fa aT;clear aT;go_wp2_with fail
 refine(HS.out w1).mono ?_;rintro e w2 ⟨he,aV⟩;obtain rfl:=HY.out _ he;have aW:=fa (aU.out.trans (aV.mono aU.out.size));clear aV he;go_wp2;refine aL (tw rfl _ _ _) rfl ?_;exact⟨rfl,aW.out⟩
theorem Ok(w:au)(n:Int):ax prog 65 #[ae ak n] w fun e w'=>e=aq (.tuple #[ae ak (mN n),ae ak (oU n)])/\aS w.heap.size w w':=by
 obtain⟨X,hX⟩:=fb (fN 3 258 257 285 258 (fQ jG));have hs:=fun v=>Gi v 3 258 257 285 258 (fQ jG) AZ n
 have hk:=AY w;rw[<-hX]at hk hs;have HM:=fa hk;have HS:=fa hs
 obtain⟨z0,ad⟩:=fb (mN n);obtain⟨z1,ah⟩:=fb (oU n);have hy:∀e,qx 3 257 285 258 (fQ jG) n e->e=aq (.tuple #[ae ak z0,ae ak z1]):=fun e h=>by rw[ad,ah];exact Og h
 rw[<-ad,<-ah];have HY:=fa hy;clear ad ah hX hk hs hy;go_enter func65,ntmps65
 go_wp2_with fail
 refine HM.out.mono ?_;rintro e w1 ⟨rfl,al⟩;have av:=fa al;clear al;go_wp2_with fail
 refine(HS.out w1).mono ?_;rintro e w2 ⟨he,aT⟩;obtain rfl:=HY.out _ he;have aU:=fa (av.out.trans (aT.mono av.out.size));clear aT he;go_wp2;go_ret2;exact⟨rfl,aU.out⟩
theorem Ol(w:au)(n:Int):ax prog 67 #[ae ak n] w fun e w'=>e=aq (.tuple #[ae ak (mO n),ae ak (oV n)])/\aS w.heap.size w w':=by
 obtain⟨X,hX⟩:=fb (fN 1 32768 0 29 0 (fQ jH));have hs:=fun v=>Gi v 1 32768 0 29 0 (fQ jH) A0 n
 have hk:=AX w;rw[<-hX]at hk hs;have HM:=fa hk;have HS:=fa hs
 obtain⟨z0,ad⟩:=fb (mO n);obtain⟨z1,ah⟩:=fb (oV n);have hy:∀e,qx 1 0 29 0 (fQ jH) n e->e=aq (.tuple #[ae ak z0,ae ak z1]):=fun e h=>by rw[ad,ah];exact Oh h
 rw[<-ad,<-ah];have HY:=fa hy;clear ad ah hX hk hs hy;go_enter func67,ntmps67
 go_wp2_with fail
 refine HM.out.mono ?_;rintro e w1 ⟨rfl,al⟩;have av:=fa al;clear al;go_wp2_with fail
 refine(HS.out w1).mono ?_;rintro e w2 ⟨he,aT⟩;obtain rfl:=HY.out _ he;have aU:=fa (av.out.trans (aT.mono av.out.size));clear aT he;go_wp2;go_ret2;exact⟨rfl,aU.out⟩
theorem Om(w:au)(n x:Int):ax prog 66 #[ae ak n,ae ak x] w fun e w'=>e=aq (.tuple #[ae ak (kL n x),ae ak (kK n x)])/\aS w.heap.size w w':=by
 obtain⟨X,hX⟩:=fb (fN 3 258 257 285 258 (fQ jG));have hs:=fun v=>Gj v 3 258 257 285 258 (fQ jG) AZ n x
 have hk:=AY w;rw[<-hX]at hk hs;have HM:=fa hk;have HS:=fa hs
 obtain⟨z0,ad⟩:=fb (kL n x);obtain⟨z1,ah⟩:=fb (kK n x);have hy:∀e,pV 3 257 285 258 (fQ jG) n x e->e=aq (.tuple #[ae ak z0,ae ak z1]):=fun e h=>by rw[ad,ah];exact Oi h
 rw[<-ad,<-ah];have HY:=fa hy;clear ad ah hX hk hs hy;go_enter func66,ntmps66
 go_wp2_with fail
 refine HM.out.mono ?_;rintro e w1 ⟨rfl,al⟩;have av:=fa al;clear al;go_wp2_with fail
 refine(HS.out w1).mono ?_;rintro e w2 ⟨he,aT⟩;obtain rfl:=HY.out _ he;have aU:=fa (av.out.trans (aT.mono av.out.size));clear aT he;go_wp2;go_ret2;exact⟨rfl,aU.out⟩
theorem On(w:au)(n x:Int):ax prog 68 #[ae ak n,ae ak x] w fun e w'=>e=aq (.tuple #[ae ak (kM n x),ae ak (lp n x)])/\aS w.heap.size w w':=by
 obtain⟨X,hX⟩:=fb (fN 1 32768 0 29 0 (fQ jH));have hs:=fun v=>Gj v 1 32768 0 29 0 (fQ jH) A0 n x
 have hk:=AX w;rw[<-hX]at hk hs;have HM:=fa hk;have HS:=fa hs
 obtain⟨z0,ad⟩:=fb (kM n x);obtain⟨z1,ah⟩:=fb (lp n x);have hy:∀e,pV 1 0 29 0 (fQ jH) n x e->e=aq (.tuple #[ae ak z0,ae ak z1]):=fun e h=>by rw[ad,ah];exact Oj h
 rw[<-ad,<-ah];have HY:=fa hy;clear ad ah hX hk hs hy;go_enter func68,ntmps68
 go_wp2_with fail
 refine HM.out.mono ?_;rintro e w1 ⟨rfl,al⟩;have av:=fa al;clear al;go_wp2_with fail
 refine(HS.out w1).mono ?_;rintro e w2 ⟨he,aT⟩;obtain rfl:=HY.out _ he;have aU:=fa (av.out.trans (aT.mono av.out.size));clear aT he;go_wp2;go_ret2;exact⟨rfl,aU.out⟩
open Go.ChangeShapes Go.WideShapes Go.ChangeAt Go.Joins
theorem Oo{N:Nat}{l:List (Int×Int)}{i:Nat}(h:i<l.length)(out:List Nat):Vq N (l.drop i) out=
  if(l.getD i ka).1<0\/18<(l.getD i ka).1\/(l.getD i ka).2<0\/(2^fI (l.getD i ka).1:Nat)<=(l.getD i ka).2 then(8,[])else
   if((l.getD i ka).1=16/\out=[])\/N<out.length+gM (l.getD i ka).1 (l.getD i ka).2 then(100,[])else Vq N (l.drop (i+1)) (out++List.replicate (gM (l.getD i ka).1 (l.getD i ka).2) (nS (l.getD i ka).1 out)):=by
 have e:l.drop i=l.getD i ka::l.drop (i+1):=by
  rw[List.drop_eq_getElem_cons h,List.getD_eq_getElem?_getD,List.getElem?_eq_getElem h];rfl
 rw[e]
 obtain⟨s,x⟩:=l.getD i ka
 rfl
theorem Gn(out:List Nat)(k v:Nat):ft (out.length+k) (fc (out++List.replicate k v))=ft (out.length+k) (fc (out++List.replicate (k+1) v))/\fc (out++List.replicate (k+1) v) (out.length+k)=v:=by
 have h:=E5 (out++List.replicate k v) v;have e:out++List.replicate k v++[v]=out++List.replicate (k+1) v:=by rw[List.append_assoc,List.replicate_succ']
 rw[e,List.length_append,List.length_replicate]at h;exact h
theorem xS(s:Int):fI s<=7:=by
 unfold fI;split
 ·omega
 ·split
  ·omega
  ·split<;>omega
theorem Oq{s x:Int}(h:x<128):gM s x<=139:=by
 unfold gM;split
 ·omega
 ·split<;>omega
theorem Ot{s:Int}{out:List Nat}(h:∀x∈out,x<256):nS s out<256:=by
 unfold nS;split
 ·cases hl:out.getLast? with
  |none=>show 0<256;omega
  |some z=>exact h z (List.mem_of_getLast? hl)
 ·split<;>omega
theorem Gp(out:List Nat):out.getLast?.getD 0=fc out (out.length-1):=by
 unfold fc;rw[List.getLast?_eq_getElem?,List.getD_eq_getElem?_getD]
theorem Gq(w:au)(s:Int):ax prog 173 #[ae ak s] w fun e w'=>e=aq (.tuple #[ae ak (iR s),ae ak (ll s)])/\w=w':=by
 by_cases y0:s<0
 ·skip;have e1:iR s=0:=by unfold iR;rw[if_neg (by omega)]
  have e2:ll s=2:=by unfold ll;rw[if_neg (by omega)]
  rw[e1,e2];have d0:decide (s<0)=true:=kc y0;clear e1 e2 y0;go_enter func173,ntmps173
  go_wp2;go_ret2;exact⟨rfl,rfl⟩
 have d0:decide (s<0)=false:=jd y0;by_cases y1:19<=s
 ·skip;have e1:iR s=0:=by unfold iR;rw[if_neg (by omega)]
  have e2:ll s=2:=by unfold ll;rw[if_neg (by omega)]
  rw[e1,e2];have d1:decide (19<=s)=true:=kc y1;clear e1 e2 y0 y1;go_enter func173,ntmps173
  go_wp2;go_ret2;exact⟨rfl,rfl⟩
 have d1:decide (19<=s)=false:=jd y1;by_cases ad:s=16
 ·skip;have e1:iR s=2:=by unfold iR fI;rw[if_pos (by omega),if_pos ad];rfl
  have e2:ll s=0:=by unfold ll;rw[if_pos (by omega)]
  rw[e1,e2];have d16:(s==16)=true:=by simp[ad]
  clear e1 e2 y0 y1 ad;go_enter func173,ntmps173
  go_wp2;go_ret2;exact⟨rfl,rfl⟩
 have d16:(s==16)=false:=by simp[ad]
 by_cases ah:s=17
 ·skip;have e1:iR s=3:=by unfold iR fI;rw[if_pos (by omega),if_neg ad,if_pos ah];rfl
  have e2:ll s=0:=by unfold ll;rw[if_pos (by omega)]
  rw[e1,e2];have d17:(s==17)=true:=by simp[ah]
  clear e1 e2 y0 y1 ad ah;go_enter func173,ntmps173
  go_wp2;go_ret2;exact⟨rfl,rfl⟩
 have d17:(s==17)=false:=by simp[ah]
 by_cases al:s=18
 ·skip;have e1:iR s=7:=by unfold iR fI;rw[if_pos (by omega),if_neg ad,if_neg ah,if_pos al];rfl
  have e2:ll s=0:=by unfold ll;rw[if_pos (by omega)]
  rw[e1,e2];have d18:(s==18)=true:=by simp[al]
  clear e1 e2 y0 y1 ad ah al;go_enter func173,ntmps173
  go_wp2;go_ret2;exact⟨rfl,rfl⟩
 have d18:(s==18)=false:=by simp[al]
 have e1:iR s=0:=by unfold iR fI;rw[if_pos (by omega),if_neg ad,if_neg ah,if_neg al];rfl
 have e2:ll s=0:=by unfold ll;rw[if_pos (by omega)]
 rw[e1,e2];skip;clear e1 e2 y0 y1 ad ah al;go_enter func173,ntmps173
 go_wp2;go_ret2;exact⟨rfl,rfl⟩
def pg(s x:Int):Prop:=¬(s<0\/18<s\/x<0\/(2^fI s:Nat)<=x)
instance (s x:Int):Decidable (pg s x):=by unfold pg;infer_instance
theorem xT{s x:Int}{k p:Nat}(hs:¬(s<0\/18<s))(eb:fI s=k)(hp:2^k=p):decide (pg s x)=decide (0<=x/\x<(p:Int)):=by
 apply decide_eq_decide.2;unfold pg;rw[eb,hp];constructor<;>(intro q;omega)
theorem ph{B:Nat}{a w:au}(h:aS B a w)(n:Nat):aS B a (w.drewN n):=⟨h.os,h.tape,h.output,h.size,h.block⟩
theorem Ou(w:au)(s x:Int):ax prog 175 #[ai #[ae ak s,ae ak x]] w fun e w'=>e=aq (aj (decide (pg s x)))/\aS w.heap.size w w':=by
 obtain⟨M,hM⟩:=fb (decide (pg s x));rw[<-hM];have HM:=fa hM;clear hM;have ah:=fa (fun w=>Gq w s);have HB:=fa ((Below.refl w.heap.size w).alloc fe (ao #[ae ak s,ae ak x] 208));by_cases s0:s<0\/18<s
 ·have e1:ll s=2:=by unfold ll;rw[if_neg (by omega)]
  obtain rfl:M=false:=by rw[HM.out];exact jd (fun q=>by unfold pg at q;omega)
  rw[e1]at ah;obtain⟨bv,aX⟩:=fb (iR s);rw[<-aX]at ah;clear HM e1 aX s0;go_enter func175,ntmps175
  go_wp2_with fail
  refine(ah.out _).mono ?_;rintro e w2 ⟨rfl,rfl⟩;go_wp2;go_quiet (fail)
  go_wp2;go_ret;exact⟨rfl,ph HB.out _⟩
 have e1:ll s=0:=by unfold ll;rw[if_pos (by omega)]
 have e2:iR s=(fI s:Nat):=by unfold iR;rw[if_pos (by omega)]
 rw[e1,e2]at ah;clear e1 e2;by_cases av:s=16
 ·skip;have eb:fI s=2:=by unfold fI;rw[if_pos av]
  rw[eb]at ah;have hm:M=decide (0<=x/\x<(4:Int)):=by rw[HM.out];exact xT s0 eb rfl
  have ad:=fa hm;clear hm eb s0 HM av;by_cases x0:x<0
  ·have dx:decide (0<=x)=false:=jd (by omega);obtain rfl:M=false:=by rw[ad.out];exact jd (fun q=>absurd q.1 (by omega))
   clear ad x0;go_enter func175,ntmps175
   go_wp2_with fail
   refine(ah.out _).mono ?_;rintro e w2 ⟨rfl,rfl⟩;go_wp2;go_quiet (fail)
   go_wp2;go_ret;exact⟨rfl,ph HB.out _⟩
  have dx:decide (0<=x)=true:=kc (by omega);obtain⟨B,al⟩:=fb (decide (x<4));have aT:M=B:=by rw[ad.out,al];exact decide_eq_decide.2 ⟨fun q=>q.2,fun q=>⟨by omega,q⟩⟩
  subst aT;have aW:decide (x<4)=M:=al.symm;clear ad x0 al;go_enter func175,ntmps175
  go_wp2_with fail
  refine(ah.out _).mono ?_;rintro e w2 ⟨rfl,rfl⟩;go_wp2;go_quiet (fail)
  go_wp2;go_ret;exact⟨rfl,ph HB.out _⟩
 by_cases aU:s=17
 ·skip;have eb:fI s=3:=by unfold fI;rw[if_neg av,if_pos aU]
  rw[eb]at ah;have hm:M=decide (0<=x/\x<(8:Int)):=by rw[HM.out];exact xT s0 eb rfl
  have ad:=fa hm;clear hm eb s0 HM av aU;by_cases x0:x<0
  ·have dx:decide (0<=x)=false:=jd (by omega);obtain rfl:M=false:=by rw[ad.out];exact jd (fun q=>absurd q.1 (by omega))
   clear ad x0;go_enter func175,ntmps175
   go_wp2_with fail
   refine(ah.out _).mono ?_;rintro e w2 ⟨rfl,rfl⟩;go_wp2;go_quiet (fail)
   go_wp2;go_ret;exact⟨rfl,ph HB.out _⟩
  have dx:decide (0<=x)=true:=kc (by omega);obtain⟨B,al⟩:=fb (decide (x<8));have aT:M=B:=by rw[ad.out,al];exact decide_eq_decide.2 ⟨fun q=>q.2,fun q=>⟨by omega,q⟩⟩
  subst aT;have aW:decide (x<8)=M:=al.symm;clear ad x0 al;go_enter func175,ntmps175
  go_wp2_with fail
  refine(ah.out _).mono ?_;rintro e w2 ⟨rfl,rfl⟩;go_wp2;go_quiet (fail)
  go_wp2;go_ret;exact⟨rfl,ph HB.out _⟩
 by_cases aV:s=18
 ·skip;have eb:fI s=7:=by unfold fI;rw[if_neg av,if_neg aU,if_pos aV]
  rw[eb]at ah;have hm:M=decide (0<=x/\x<(128:Int)):=by rw[HM.out];exact xT s0 eb rfl
  have ad:=fa hm;clear hm eb s0 HM av aU aV;by_cases x0:x<0
  ·have dx:decide (0<=x)=false:=jd (by omega);obtain rfl:M=false:=by rw[ad.out];exact jd (fun q=>absurd q.1 (by omega))
   clear ad x0;go_enter func175,ntmps175
   go_wp2_with fail
   refine(ah.out _).mono ?_;rintro e w2 ⟨rfl,rfl⟩;go_wp2;go_quiet (fail)
   go_wp2;go_ret;exact⟨rfl,ph HB.out _⟩
  have dx:decide (0<=x)=true:=kc (by omega);obtain⟨B,al⟩:=fb (decide (x<128));have aT:M=B:=by rw[ad.out,al];exact decide_eq_decide.2 ⟨fun q=>q.2,fun q=>⟨by omega,q⟩⟩
  subst aT;have aW:decide (x<128)=M:=al.symm;clear ad x0 al;go_enter func175,ntmps175
  go_wp2_with fail
  refine(ah.out _).mono ?_;rintro e w2 ⟨rfl,rfl⟩;go_wp2;go_quiet (fail)
  go_wp2;go_ret;exact⟨rfl,ph HB.out _⟩
 have eb:fI s=0:=by unfold fI;rw[if_neg av,if_neg aU,if_neg aV]
 rw[eb]at ah;have hm:M=decide (0<=x/\x<(1:Int)):=by rw[HM.out];exact xT s0 eb rfl
 have ad:=fa hm;clear hm eb s0 HM av aU aV;by_cases x0:x<0
 ·have dx:decide (0<=x)=false:=jd (by omega);obtain rfl:M=false:=by rw[ad.out];exact jd (fun q=>absurd q.1 (by omega))
  clear ad x0;go_enter func175,ntmps175
  go_wp2_with fail
  refine(ah.out _).mono ?_;rintro e w2 ⟨rfl,rfl⟩;go_wp2;go_quiet (fail)
  go_wp2;go_ret;exact⟨rfl,ph HB.out _⟩
 have dx:decide (0<=x)=true:=kc (by omega);obtain⟨B,al⟩:=fb (decide (x<1));have aT:M=B:=by rw[ad.out,al];exact decide_eq_decide.2 ⟨fun q=>q.2,fun q=>⟨by omega,q⟩⟩
 subst aT;have aW:decide (x<1)=M:=al.symm;clear ad x0 al;go_enter func175,ntmps175
 go_wp2_with fail
 refine(ah.out _).mono ?_;rintro e w2 ⟨rfl,rfl⟩;go_wp2;go_quiet (fail)
 go_wp2;go_ret;exact⟨rfl,ph HB.out _⟩
def pW(s:Int)(v:Nat):Nat:=if s=16 then v else if s<16 then s.toNat else 0
theorem Ov(w:au)(s:Int)(x v:Nat)(hx:x<=1000)(hs:0<=s/\s<=18):ax prog 176 #[ai #[ae ak s,ae ak (x:Int)],ae .u8 (v:Int)] w fun e w'=>e=aq (.tuple #[ae .u8 (pW s v:Nat),ae ak ((gM s (x:Int):Nat):Int)])/\aS w.heap.size w w':=by
 have HB:=fa ((Below.refl w.heap.size w).alloc fe (ao #[ae ak s,ae ak (x:Int)] 208));by_cases ad:s=16
 ·have e1:gM s (x:Int)=x+3:=by unfold gM;rw[if_pos (.inl ad),Int.toNat_natCast]
  have e2:pW s v=v:=by unfold pW;rw[if_pos ad]
  rw[e1,e2];have d16:(s==16)=true:=by simp[ad]
  have ex:(3:Int)+(x:Int)=((x+3:Nat):Int):=by omega
  obtain⟨u,hu⟩:=fb (x+3);rw[<-hu]at ex⊢;clear e1 e2 hu hs ad;go_enter func176,ntmps176
  go_wp2;go_ret2;exact⟨rfl,HB.out⟩
 have d16:(s==16)=false:=by simp[ad]
 by_cases ah:s=17
 ·have e1:gM s (x:Int)=x+3:=by unfold gM;rw[if_pos (.inr ah),Int.toNat_natCast]
  have e2:pW s v=0:=by unfold pW;rw[if_neg ad,if_neg (by omega)]
  rw[e1,e2];have d17:(s==17)=true:=by simp[ah]
  have ex:(3:Int)+(x:Int)=((x+3:Nat):Int):=by omega
  obtain⟨u,hu⟩:=fb (x+3);rw[<-hu]at ex⊢;clear e1 e2 hu hs ad ah;go_enter func176,ntmps176
  go_wp2;go_ret2;exact⟨rfl,HB.out⟩
 have d17:(s==17)=false:=by simp[ah]
 by_cases al:s=18
 ·have e1:gM s (x:Int)=x+11:=by unfold gM;rw[if_neg (by omega),if_pos al,Int.toNat_natCast]
  have e2:pW s v=0:=by unfold pW;rw[if_neg ad,if_neg (by omega)]
  rw[e1,e2];have d18:(s==18)=true:=by simp[al]
  obtain⟨z,hz⟩:=fb (x+8);have ez:(x:Int)+8=(z:Int):=by omega
  have ex:(3:Int)+(z:Int)=((x+11:Nat):Int):=by omega
  obtain⟨u,hu⟩:=fb (x+11);rw[<-hu]at ex⊢;clear e1 e2 hu hs ad ah al hz;go_enter func176,ntmps176
  go_wp2;go_ret2;exact⟨rfl,HB.out⟩
 have d18:(s==18)=false:=by simp[al]
 have e1:gM s (x:Int)=1:=by unfold gM;rw[if_neg (by omega),if_neg al]
 obtain⟨V,rfl⟩:=Int.eq_ofNat_of_zero_le hs.1;have e2:pW (V:Int) v=V:=by unfold pW;rw[if_neg ad,if_pos (by omega),Int.toNat_natCast]
 rw[e1,e2];have hV:V<16:=by omega
 have av:(V:Int)%256=(V:Int):=by omega
 have aT:IntKind.u8.wrap (V:Int)=(V:Int):=by rw[IntKind.wrap_u8];omega
 clear e1 e2 ad ah al hs;go_enter func176,ntmps176
 go_wp2;go_ret2;exact⟨rfl,HB.out⟩
theorem Ow(w:au)(K B:Nat)(A:Option aw)(n c:Nat)(f:Nat->Nat)(a:Nat)(hk:w.cell? ⟨K,0,none⟩=some (af A n c))(hr:fB w B A n f)(ha:a<n)(hn:n<=1000000):
  ax prog 171 #[ae ak (a:Int),ag (some ⟨K,0,none⟩)] w fun e w'=>e=aq (ae ak ((mo f n a:Nat):Int))/\nk w w':=by
 obtain⟨L,hL⟩:=fb (mo f n a)
 rw[<-hL]
 have av:L=1+Vi (f a) (iY f n (a+1)):=by rw[hL];unfold mo;omega
 have HR:=fa hr;have HL:=fa av;have aV:=fa hk
 clear hr hL av hk
 go_enter func171,ntmps171
 go_wp2
 go_loopw [4] (fun kv wr=>∃k:Nat,1<=k/\a+k<=n/\kv=ae ak (k:Int)/\aR (L=k+Vi (f a) (iY f n (a+k)))/\aR (nk w wr)) (fun kv _=>n-(aQ kv).toNat)
 case atStart=>exact⟨1,Nat.le_refl _,by omega,rfl,HL,fa (nk.refl w)⟩
 case round=>
  obtain⟨k,aZ,a1,rfl,HK,HD⟩:=hrel;have e2:(a:Int)+(k:Int)=((a+k:Nat):Int):=by omega
  have ck:wr.cell? ⟨K,0,none⟩=some (af A n c):=by obtain⟨t,rfl⟩:=HD.out;exact aV.out
  obtain⟨Q,hQ⟩:=fb (a+k);rw[<-hQ]at e2;by_cases aW:Q<n
  ·obtain⟨b,o,rfl,_,hc⟩:=(HD.out.rd HR.out).2 (by omega);have c1:=hc a (by omega);have c2:=hc Q aW;have a2:(Q:Int)<(n:Int):=by omega
   have aX:decide ((Q:Int)<(n:Int))=true:=by simp;omega
   have aT:decide (Q<n)=true:=by simp;omega
   have a3:(a:Int)<(n:Int):=by omega
   have aY:(0:Int)<=(Q:Int):=by omega
   have a4:(0:Int)<=(a:Int):=by omega
   clear hc;by_cases he:f Q=f a
   ·have ah:((f Q:Int)==(f a:Int))=true:=by simp[he]
    have ad:=zq (f:=f) (n:=n) (a:=a+k) (x:=f a) (by omega) (by rw[<-hQ];exact he);have al:aR (L=(k+1)+Vi (f a) (iY f n (a+(k+1)))):=fa (by have:=HK.out;rw[ad]at this;rw[<-Nat.add_assoc];omega);have aU:a+(k+1)<=n:=by omega
    obtain⟨x,hx⟩:=fb (f a);obtain⟨y,hy⟩:=fb (f Q);rw[<-hx]at c1 ah;rw[<-hy]at c2 ah;clear ad hQ he hx hy;go_wp2;go_quiet (fail)
    go_wp2;go_roundw
    case rel=>exact⟨k+1,by omega,aU,by go_num,al,fa (HD.out.more _)⟩
    case measure=>simp[aQ];omega
   ·have ah:((f Q:Int)==(f a:Int))=false:=by simp;omega
    have ad:=DE (f:=f) (n:=n) (a:=a+k) (x:=f a) (.inr (by rw[<-hQ];exact he));have al:aR (L=k):=fa (by have:=HK.out;rw[ad]at this;omega);obtain⟨x,hx⟩:=fb (f a);obtain⟨y,hy⟩:=fb (f Q);rw[<-hx]at c1 ah;rw[<-hy]at c2 ah;clear ad hQ he hx hy;go_wp2;go_quiet (fail)
    go_wp2;go_ret;exact⟨(by rw[al.out];rfl),HD.out.more _⟩
  ·have aX:decide ((Q:Int)<(n:Int))=false:=by simp;omega
   have aT:decide (Q<n)=false:=by simp;omega
   have aY:(0:Int)<=(Q:Int):=by omega
   have ad:=DE (f:=f) (n:=n) (a:=a+k) (x:=f a) (.inl (by omega));have al:aR (L=k):=fa (by have:=HK.out;rw[ad]at this;omega);have a5:Q<=1000000:=by omega
   have a6:IntKind.i64.wrap (Q:Int)=(Q:Int):=by rw[IntKind.wrap_i64];omega
   clear ad hQ;go_wp2;go_quiet (fail)
   go_wp2;go_ret;exact⟨(by rw[al.out];rfl),HD.out.more _⟩
theorem Ox(w:au)(prev:Option Nat)(x L:Nat)(kn:Bool)(hk:kn=decide (prev=some x))(hx:x<256)(h1:1<=L)(h2:L<=1000000):
  ax prog 172 #[ae .u8 (x:Int),aj kn,ae ak (L:Int)] w fun e w'=>e=aq (.tuple #[ai #[ae ak (iX prev x L).1.1,ae ak (iX prev x L).1.2],ae ak ((iX prev x L).2:Nat)])/\aS w.heap.size w w':=by
 obtain⟨R,hR⟩:=fb (iX prev x L)
 rw[<-hR]
 unfold iX at hR
 obtain⟨W1,aV⟩:=fb (w.alloc (ao #[ae ak 0,ae ak 0] 208))
 have aX:aS w.heap.size w W1:=by rw[aV];exact fz.alloc fe _
 obtain⟨h,hh⟩:=fb (w.heap.size)
 have aW:W1.heap[h]?=some (ao #[ae ak 0,ae ak 0] 208 (0,0)):=by rw[aV,hh];exact aH w _
 have ad:=fa aW;have av:=fa aX;have HH:=fa hh;have aT:=fa aV;have HR:=fa hR;have aU:=fa hk
 clear aW aX aV hR hh hk
 by_cases l3:L<3
 ·have d3:decide ((L:Int)<3)=true:=by simp;omega
  have aZ:decide (L<3)=true:=by simp;omega
  have ah:R=(((x:Int),0),1):=by rw[HR.out,if_neg (by omega),if_neg (by omega),if_neg (by omega)]
  subst ah;clear l3 HR;go_enter func172,ntmps172
  go_wp2_with (first
   |(rw[<-aT.out,<-HH.out];refine aE rfl 208 #[(0,.tmp 19)] rfl (some 20) rfl #[ae ak (x:Int),ae ak 0] ?_ ?_;focus(simpa[Act.eval]using xf (x:Int)))
   |(refine aE rfl 208 #[(0,.tmp 19)] rfl (some 20) rfl #[ae ak (x:Int),ae ak 0] ?_ ?_;focus(simpa[Act.eval]using xf (x:Int)))
   |(refine aD rfl _ _ _ rfl rfl h #[ae ak (x:Int),ae ak 0] rfl rfl 208 #[ae ak 0,ae ak 0] ad.out jy rfl (sf _ _) ?_))
  refine aL ((sc rfl _ _ h _ rfl rfl (aJ _ _ _ _ _ _ ad.out)).trans rfl) rfl ⟨rfl,?_⟩;exact sd av.out (by rw[HH.out];exact Nat.le_refl _) _
 have d3:decide ((L:Int)<3)=false:=by simp;omega
 have aZ:decide (L<3)=false:=by simp;omega
 by_cases x0:x=0
 ·have dx:((x:Int) !=0)=false:=by simp[x0]
  by_cases a3:L<=10
  ·have d10:decide ((L:Int)<=10)=true:=by simp;omega
   have aY:decide (L<=10)=true:=by simp;omega
   obtain⟨u,hu⟩:=fb (L-3);have eu:(L:Int)-3=(u:Int):=by omega
   have ah:R=((17,(u:Int)),L):=by rw[HR.out,if_neg (by omega),if_pos ⟨x0,by omega⟩,<-hu]
   subst ah;clear x0 hu HR;go_enter func172,ntmps172
   go_wp2_with (first
    |(rw[<-aT.out,<-HH.out];refine aE rfl 208 #[(0,.const (ae ak 17)),(1,.tmp 32)] rfl (some 33) rfl #[ae ak 17,ae ak (u:Int)] ?_ ?_;focus(simpa[Act.eval]using pN 17 (u:Int)))
    |(refine aE rfl 208 #[(0,.const (ae ak 17)),(1,.tmp 32)] rfl (some 33) rfl #[ae ak 17,ae ak (u:Int)] ?_ ?_;focus(simpa[Act.eval]using pN 17 (u:Int)))
    |(refine aD rfl _ _ _ rfl rfl h #[ae ak 17,ae ak (u:Int)] rfl rfl 208 #[ae ak 0,ae ak 0] ad.out jy rfl (sf _ _) ?_))
   refine aL ((sc rfl _ _ h _ rfl rfl (aJ _ _ _ _ _ _ ad.out)).trans rfl) rfl ⟨rfl,?_⟩;exact sd av.out (by rw[HH.out];exact Nat.le_refl _) _
  have d10:decide ((L:Int)<=10)=false:=by simp;omega
  have aY:decide (L<=10)=false:=by simp;omega
  by_cases a2:138<L
  ·have dd:(138:Int)<(L:Int):=by omega
   have ah:R=((18,127),138):=by rw[HR.out,if_pos ⟨x0,by omega⟩,show min L 138=138 by omega];rfl
   subst ah;clear x0 HR;go_enter func172,ntmps172
   go_wp2_with (first
    |(rw[<-aT.out,<-HH.out];refine aE rfl 208 #[(0,.const (ae ak 18)),(1,.tmp 39)] rfl (some 40) rfl #[ae ak 18,ae ak 127] ?_ ?_;focus(simpa[Act.eval]using pN 18 127))
    |(refine aE rfl 208 #[(0,.const (ae ak 18)),(1,.tmp 39)] rfl (some 40) rfl #[ae ak 18,ae ak 127] ?_ ?_;focus(simpa[Act.eval]using pN 18 127))
    |(refine aD rfl _ _ _ rfl rfl h #[ae ak 18,ae ak 127] rfl rfl 208 #[ae ak 0,ae ak 0] ad.out jy rfl (sf _ _) ?_))
   refine aL ((sc rfl _ _ h _ rfl rfl (aJ _ _ _ _ _ _ ad.out)).trans rfl) rfl ⟨rfl,?_⟩;exact sd av.out (by rw[HH.out];exact Nat.le_refl _) _
  ·have dd:¬(138:Int)<(L:Int):=by omega
   obtain⟨u1,a1⟩:=fb (L-10);have a4:(L:Int)-10=(u1:Int):=by omega
   obtain⟨u,hu⟩:=fb (L-11);have eu:(u1:Int)-1=(u:Int):=by omega
   have ah:R=((18,(u:Int)),L):=by rw[HR.out,if_pos ⟨x0,by omega⟩,show min L 138=L by omega,<-hu]
   subst ah;clear x0 hu a1 HR;go_enter func172,ntmps172
   go_wp2_with (first
    |(rw[<-aT.out,<-HH.out];refine aE rfl 208 #[(0,.const (ae ak 18)),(1,.tmp 39)] rfl (some 40) rfl #[ae ak 18,ae ak (u:Int)] ?_ ?_;focus(simpa[Act.eval]using pN 18 (u:Int)))
    |(refine aE rfl 208 #[(0,.const (ae ak 18)),(1,.tmp 39)] rfl (some 40) rfl #[ae ak 18,ae ak (u:Int)] ?_ ?_;focus(simpa[Act.eval]using pN 18 (u:Int)))
    |(refine aD rfl _ _ _ rfl rfl h #[ae ak 18,ae ak (u:Int)] rfl rfl 208 #[ae ak 0,ae ak 0] ad.out jy rfl (sf _ _) ?_))
   refine aL ((sc rfl _ _ h _ rfl rfl (aJ _ _ _ _ _ _ ad.out)).trans rfl) rfl ⟨rfl,?_⟩;exact sd av.out (by rw[HH.out];exact Nat.le_refl _) _
 have dx:((x:Int) !=0)=true:=by simp;omega
 by_cases al:prev=some x
 ·obtain rfl:kn=true:=by rw[aU.out];exact kc al
  by_cases l6:6<L
  ·have dd:(6:Int)<(L:Int):=by omega
   have ah:R=((16,3),6):=by rw[HR.out,if_neg (by omega),if_neg (by omega),if_pos ⟨x0,al,by omega⟩,show min L 6=6 by omega];rfl
   subst ah;clear x0 HR al aU;go_enter func172,ntmps172
   go_wp2_with (first
    |(rw[<-aT.out,<-HH.out];refine aE rfl 208 #[(0,.const (ae ak 16)),(1,.tmp 26)] rfl (some 27) rfl #[ae ak 16,ae ak 3] ?_ ?_;focus(simpa[Act.eval]using pN 16 3))
    |(refine aE rfl 208 #[(0,.const (ae ak 16)),(1,.tmp 26)] rfl (some 27) rfl #[ae ak 16,ae ak 3] ?_ ?_;focus(simpa[Act.eval]using pN 16 3))
    |(refine aD rfl _ _ _ rfl rfl h #[ae ak 16,ae ak 3] rfl rfl 208 #[ae ak 0,ae ak 0] ad.out jy rfl (sf _ _) ?_))
   refine aL ((sc rfl _ _ h _ rfl rfl (aJ _ _ _ _ _ _ ad.out)).trans rfl) rfl ⟨rfl,?_⟩;exact sd av.out (by rw[HH.out];exact Nat.le_refl _) _
  ·have dd:¬(6:Int)<(L:Int):=by omega
   obtain⟨u,hu⟩:=fb (L-3);have eu:(L:Int)-3=(u:Int):=by omega
   have ah:R=((16,(u:Int)),L):=by rw[HR.out,if_neg (by omega),if_neg (by omega),if_pos ⟨x0,al,by omega⟩,show min L 6=L by omega,<-hu]
   subst ah;clear x0 hu HR al aU;go_enter func172,ntmps172
   go_wp2_with (first
    |(rw[<-aT.out,<-HH.out];refine aE rfl 208 #[(0,.const (ae ak 16)),(1,.tmp 26)] rfl (some 27) rfl #[ae ak 16,ae ak (u:Int)] ?_ ?_;focus(simpa[Act.eval]using pN 16 (u:Int)))
    |(refine aE rfl 208 #[(0,.const (ae ak 16)),(1,.tmp 26)] rfl (some 27) rfl #[ae ak 16,ae ak (u:Int)] ?_ ?_;focus(simpa[Act.eval]using pN 16 (u:Int)))
    |(refine aD rfl _ _ _ rfl rfl h #[ae ak 16,ae ak (u:Int)] rfl rfl 208 #[ae ak 0,ae ak 0] ad.out jy rfl (sf _ _) ?_))
   refine aL ((sc rfl _ _ h _ rfl rfl (aJ _ _ _ _ _ _ ad.out)).trans rfl) rfl ⟨rfl,?_⟩;exact sd av.out (by rw[HH.out];exact Nat.le_refl _) _
 obtain rfl:kn=false:=by rw[aU.out];exact jd al
 have ah:R=(((x:Int),0),1):=by rw[HR.out,if_neg (by omega),if_neg (by omega),if_neg (fun q=>al q.2.1)]
 subst ah
 clear x0 HR al aU
 go_enter func172,ntmps172
 go_wp2_with (first
  |(rw[<-aT.out,<-HH.out];refine aE rfl 208 #[(0,.tmp 19)] rfl (some 20) rfl #[ae ak (x:Int),ae ak 0] ?_ ?_;focus(simpa[Act.eval]using xf (x:Int)))
  |(refine aE rfl 208 #[(0,.tmp 19)] rfl (some 20) rfl #[ae ak (x:Int),ae ak 0] ?_ ?_;focus(simpa[Act.eval]using xf (x:Int)))
  |(refine aD rfl _ _ _ rfl rfl h #[ae ak (x:Int),ae ak 0] rfl rfl 208 #[ae ak 0,ae ak 0] ad.out jy rfl (sf _ _) ?_))
 refine aL ((sc rfl _ _ h _ rfl rfl (aJ _ _ _ _ _ _ ad.out)).trans rfl) rfl ⟨rfl,?_⟩
 exact sd av.out (by rw[HH.out];exact Nat.le_refl _) _
theorem Oy{ops:Array aB}{o:aB}{a:Act}{w:au}{K:Act->au->Prop}{Q:Exit->Act->au->Prop}{E:Prop}(ah:o.guard=none)(f:FuncId)(cap:Array ay)(x:Operand)(xs:Array Operand)(ts:Array aC)
  (ho:o.op=.call {callee:=.value x,args:=xs,argTypes:=ts}) (hv:a.eval x=.func (.func f) #[] cap) (eg:∀args w,(callFunc f args).run prog w=.ok (.enter f args) w) (args:Array ay) (hx:xs.map a.eval++cap=args) {R:Ending->au->Prop} (hc:ax prog f args w R)
  (h:∀e w',R e w'->∃v,e=aq v/\K (a.put o.dst v) w'):
  if Region.wanted o (yielded ops a.tmps)=true then Oper.wp prog o a w K Q else E:=by
 have hw:Region.wanted o (yielded ops a.tmps)=true:=by simp[Region.wanted,ah]
 rw[if_pos hw]
 unfold Oper.wp
 have ad:∀ρ:Operand->ay,ρ x=.func (.func f) #[] cap->xs.map ρ++cap=args->(execOp ρ o).run prog w=.ok (.enter f args) w:=by
  intro ρ h1 h2;simp[execOp,ho,resolve,invoke,h1,h2,go_sem,eg,Deferred.ofValue]
 rw[ad _ hv hx]
 refine hc.mono fun e w' hr=>?_
 obtain⟨v,rfl,hk⟩:=h e w' hr
 exact hk
structure mH (w:au) (X:Nat) (x y:ay):Prop where
 lt:X<w.heap.size
 c0:w.cell? ⟨X,0,none⟩=some x
 c1:w.cell? ⟨X,1,none⟩=some y
 f0:w.frozen? ⟨X,0,none⟩=false
 f1:w.frozen? ⟨X,1,none⟩=false
theorem mH.new(U:au)(x y:ay)(t:aC):mH (U.alloc (ao #[x,y] t)) U.heap.size x y:=by
 have hn:=aH U (ao #[x,y] t);refine⟨by simp,?_,?_,?_,?_⟩
 ·exact(aI (U.alloc (ao #[x,y] t)) _ 0 _ t (0,0) hn).trans rfl
 ·exact(aI (U.alloc (ao #[x,y] t)) _ 1 _ t (0,0) hn).trans rfl
 ·exact aP (U.alloc (ao #[x,y] t)) _ 0 _ _ hn
 ·exact aP (U.alloc (ao #[x,y] t)) _ 1 _ _ hn
theorem mH.below{w w':au}{X B:Nat}{x y:ay}(h:mH w X x y)(hb:aS B w w')(hB:X<B):mH w' X x y:=
 ⟨Nat.lt_of_lt_of_le h.lt hb.size,(hb.cell (p:=⟨X,0,none⟩) hB).trans h.c0,(hb.cell (p:=⟨X,1,none⟩) hB).trans h.c1,(hb.frozen (p:=⟨X,0,none⟩) hB).trans h.f0,(hb.frozen (p:=⟨X,1,none⟩) hB).trans h.f1⟩
theorem mH.set{w:au}{X:Nat}{x y:ay}(h:mH w X x y)(p q:ay):mH ((w.setCell ⟨X,0,none⟩ p).setCell ⟨X,1,none⟩ q) X p q:=by
 obtain⟨h1,h2⟩:=Lp (p:=p) (q:=q) h.c0 h.c1;refine⟨by have:=h.lt;simpa[World.setCell]using this,h1,h2,?_,?_⟩
 ·simpa using h.f0
 ·simpa using h.f1
end Go.Proofs.YtgokdgcmkcmjeaaGreat
