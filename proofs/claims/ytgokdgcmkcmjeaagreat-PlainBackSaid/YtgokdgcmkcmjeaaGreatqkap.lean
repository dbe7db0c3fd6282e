/-
  Words and walks.
-/
import Derived.Test.YtgokdgcmkcmjeaaGreatqkaa
import Derived.Test.YtgokdgcmkcmjeaaGreatqkab
import Derived.Test.YtgokdgcmkcmjeaaGreatqkac
import Derived.Test.YtgokdgcmkcmjeaaGreatqkae
import Derived.Test.YtgokdgcmkcmjeaaGreatqkaf
import Derived.Test.YtgokdgcmkcmjeaaGreatqkag
import Derived.Test.YtgokdgcmkcmjeaaGreatqkah
import Derived.Test.YtgokdgcmkcmjeaaGreatqkak
import Derived.Test.YtgokdgcmkcmjeaaGreatqkal
import Derived.Test.YtgokdgcmkcmjeaaGreatqkao
set_option maxRecDepth 100000
set_option maxHeartbeats 16000000
namespace Go.Proofs.YtgokdgcmkcmjeaaGreat
open Value renaming int → ae, slice → af, pointer → ag, agg → ai, bool → aj
open IntKind renaming i64 → ak
open Obj renaming cells → ao
open Ending renaming returned → aq
open Go renaming World → au, Addr → aw, Calls → ax, Value → ay, Program → aA, Oper → aB, TypeId → aC, wpList_store_rowTo → aD, wpList_buildTo → aE, heap_alloc_new → aH, bodyPost_ret → aL, yielded → aN
open Go.RowKit renaming Hid → aR, Below → aS
open _root_.Go.Proofs.Tryz
open Go.RowKit Go.ChangeShapes Go.WideShapes Go.ChangeAt Go.Joins
def lF(A:Option aw)(l c:Nat)(a e:Int):Array ay:=#[af A l c,ae ak a,ae ak e]
theorem Tb(w:au)(p:Nat)(A:Option aw)(l c:Nat)(a s:Int)(h:fg w p (lF A l c a s) 69)(hs:s≠0)(x:Int):
  ax prog 56 #[ag (some ⟨p,0,none⟩),ae ak x] w fun e w'=>e=aq (.tuple #[])/\w=w':=by
 have c2:w.cell? ⟨p,2,none⟩=some (ae ak s):=h.cell.trans rfl
 have d0:(s==0)=false:=beq_eq_false_iff_ne.2 hs
 clear h hs
 go_enter func56,ntmps56
 go_wp2
 go_end0
 exact⟨rfl,rfl⟩
theorem Tc(w:au)(p:Nat)(A:Option aw)(l c:Nat)(a s:Int)(h:fg w p (lF A l c a s) 69)(hs:s≠0)(b:Bool)(x:Int):
  ax prog 75 #[ag (some ⟨p,0,none⟩),aj b,ae ak x] w fun e w'=>e=aq (.tuple #[])/\w=w':=by
 have HK:=fa (Tb w p A l c a s h hs x)
 clear h hs
 cases b
 ·go_enter func75,ntmps75
  go_wp2_with fail
  refine HK.out.mono ?_;rintro e w2 ⟨rfl,rfl⟩;go_wp2;go_end0;exact⟨rfl,rfl⟩
 ·go_enter func75,ntmps75
  go_wp2;go_end0;exact⟨rfl,rfl⟩
theorem wA(w:au)(p:Nat)(A:Option aw)(l c:Nat)(a s:Int)(h:fg w p (lF A l c a s) 69)(hs:s≠0)(m:Int):
  ax prog 77 #[ag (some ⟨p,0,none⟩),ae ak m] w fun e w'=>e=aq (af none 0 0)/\aS w.heap.size w w':=by
 obtain⟨W1,ad⟩:=fb ((((w.alloc (ao #[ag (some ⟨p,0,none⟩)] 112)).alloc (ao #[ae ak m] 3)).alloc (ao #[af none 0 0] 60)).alloc (ao #[ae ak 0] 3))
 have ah:aS w.heap.size w W1:=by rw[ad];exact(((fz.alloc fe _).alloc (by simp) _).alloc (by simp;omega) _).alloc (by simp;omega) _
 obtain⟨z,hz⟩:=fb (w.heap.size)
 have c2:W1.cell? ⟨p,2,none⟩=some (ae ak s):=(h.below ah h.lt).cell.trans rfl
 have cp:W1.cell? ⟨z,0,none⟩=some (ag (some ⟨p,0,none⟩)):=by
  have h1:Boxed W1 z 112 (ag (some ⟨p,0,none⟩)):=by rw[ad,hz];exact(((Boxed.new w _ _).alloc _).alloc _).alloc _
  exact h1.cell
 have cl:W1.cell? ⟨z+2,0,none⟩=some (af none 0 0):=by
  have h1:Boxed W1 (z+2) 60 (af none 0 0):=by
   have:=(Boxed.new ((w.alloc (ao #[ag (some ⟨p,0,none⟩)] 112)).alloc (ao #[ae ak m] 3)) 60 (af none 0 0)).alloc (ao #[ae ak 0] 3);rw[World.size_alloc,World.size_alloc,<-hz]at this;rw[ad];exact this
  exact h1.cell
 have d0:(s==0)=false:=beq_eq_false_iff_ne.2 hs
 have HB:=fa ah;have al:=fa ad;have HZ:=fa hz
 clear h hs ah ad hz
 go_enter func77,ntmps77
 go_wp2_with fail
 simp only[Nat.add_assoc,Nat.reduceAdd]
 rw[<-al.out,<-HZ.out]
 go_loopw [7] (fun lv wr=>lv=aj false/\wr=W1) (fun _ _=>0)
 case atStart=>exact⟨rfl,rfl⟩
 case round=>
  obtain⟨rfl,rfl⟩:=hrel;go_wp2;go_ret;exact⟨rfl,HB.out⟩
def na(_g:Nat->Nat)(l:Nat)(a ff:Int)(R:List Nat×Nat×Int):Int:=if l8 l a≠0 then l8 l a else if mD ff≠0 then mD ff else R.2.2
def nb(_g:Nat->Nat)(l:Nat)(a ff:Int)(R:List Nat×Nat×Int):List Nat:=if l8 l a≠0 then[]else if mD ff≠0 then[]else R.1
def rN(w:au)(g:Nat->Nat)(l:Nat)(a ff:Int)(R:List Nat×Nat×Int)(e:Ending)(w':au):Prop:=∃(A':Option aw) (c':Nat) (A2:Option aw) (l2 c2:Nat) (pl:Int),
 e=aq (.tuple #[af A' (nb g l a ff R).length c',ai (lF A2 l2 c2 pl (na g l a ff R))])/\fq w' w'.heap.size A' (nb g l a ff R).length c' (fc (nb g l a ff R))/\iT w' w.heap.size A' (nb g l a ff R).length/\aS w.heap.size w w'/\(na g l a ff R=0->pl=(R.2.1:Int))
theorem Td(A:Option aw)(l c:Nat)(a e:Int):prog.built 69 [(0,af A l c),(1,ae ak a),(2,ae ak e)]=some (lF A l c a e):=by kernel_rfl
theorem rO(A:Option aw)(l c:Nat)(a e:Int):(lF A l c a e).all (·.oneCell')=true:=by simp[lF,Value.oneCell']
theorem uA{fn:Func}{p u:Tmp}(h:fn.results=#[.tmp u,.cell p 69])(tmps:Array ay)(w:au)(g:Nat)(cs:Array ay)(hs:cs.size=3)(hp:tmps.getD p undef=ag (some ⟨g,0,none⟩))(ht:w.heap[g]?=some (ao cs 69 (0,0))):
  (results fn tmps).run prog w=.ok (.tuple #[tmps.getD u undef,ai cs]) w:=by
 have ad:tmps[p]?.getD undef=ag (some ⟨g,0,none⟩):=by simpa using hp
 have hl:=run_loadVar_row (P:=prog) w g 69 69 cs (0,0) _ ht underlying69 rfl (kU hs)
 simp[results,h,ad,asAddr,hl]
theorem Te(w:au)(A:Option aw)(l c:Nat)(g:Nat->Nat)(hg:fB w w.heap.size A l g)(a:Int)(cp: -9223372036854775808<=a)(cq:a<=9223372036854775807)(hl:l<=1000000)(ff:Int)(cD: -9223372036854775808<=ff)(cE:ff<=9223372036854775807):
  ax prog 35 #[af A l c,ae ak a,ae ak ff] w fun e w'=>rN w g l a ff (iU g l ff.toNat none [] a.toNat) e w':=by
 obtain⟨R,hR⟩:=fb (iU g l ff.toNat none [] a.toNat)
 rw[<-hR]
 obtain⟨h,hh⟩:=fb (w.heap.size)
 obtain⟨Z,hZ⟩:=fb (xL none 0 0 (0,0))
 obtain⟨W1,bN⟩:=fb (w.alloc (ao Z 69))
 have b3:aS h w W1:=by rw[bN,hh];exact fz.alloc fe _
 have t1:fg W1 h Z 69:=by rw[bN,hh];exact fg.new w _ _
 have s1:W1.heap.size=h+1:=by rw[bN,hh];simp
 have cH:∀u:au,(zeroValue 69).run prog u=.ok (ai Z) u:=by rw[hZ];exact(zero_of_info AB).1
 have bl:aR (Z.size=3):=fa (by rw[hZ];rfl)
 have cI:=fa hZ
 obtain⟨q,hq⟩:=fb (l8 l a)
 have bO:=Sp W1 A l c a cp cq hl
 rw[<-hq]at bO
 obtain⟨Y,hY⟩:=fb (lF A l c a q)
 have bn:aR (Y.size=3):=fa (by rw[hY];rfl)
 have bG:aR (Y.all (·.oneCell')=true):=fa (by rw[hY];exact rO ..)
 have bH:aR (prog.built 69 [(0,af A l c),(1,ae ak a),(2,ae ak q)]=some Y):=fa (by rw[hY];exact Td A l c a q)
 obtain⟨W2,bP⟩:=fb (gi W1 Z Y 69)
 have bW:aS W1.heap.size W1 W2:=by rw[bP];exact km _ _ _ _
 have y2:fg W2 (h+1) Y 69:=by have:=kO W1 Z Y 69;rw[s1]at this;rw[bP];exact this
 have b4:aS h w W2:=b3.trans (bW.mono (by rw[s1];omega))
 have bI:=fa (t1.below bW t1.lt)
 have bT:W2.heap.size=h+2:=by rw[bP,wZ,s1]
 obtain⟨bb,bQ⟩:∃b:Bool,b=decide (0<=ff/\ff<=131072):=⟨_,rfl⟩
 have bJ:=fa bO;have HG:=fa hg;have HH:=fa hh;have bK:=fa bN;have bL:=fa s1;have HQ:=fa hq
 have bM:=fa bP;have bF:=fa bT;have bC:=fa b4;have b5:=fa y2;have b6:=fa hY;have HR:=fa hR
 have b7:aR ((0<=ff/\ff<=131072/\bb=true)\/(0<=ff/\¬ff<=131072/\bb=false)\/(¬0<=ff/\bb=false)):=fa (by
  by_cases a1:0<=ff
  ·by_cases a2:ff<=131072
   ·exact .inl ⟨a1,a2,by rw[bQ];exact decide_eq_true ⟨a1,a2⟩⟩
   ·exact .inr (.inl ⟨a1,a2,by rw[bQ];exact decide_eq_false fun h=>a2 h.2⟩)
  ·exact .inr (.inr ⟨a1,by rw[bQ];exact decide_eq_false fun h=>a1 h.1⟩))
 clear bO hg hh bN t1 b3 s1 hq bP bW y2 b4 bT bQ hZ hY hR
 by_cases q0:q=0
 ·have cr:l<=131072/\0<=a/\a<=8*(l:Int):=by
   have:=GQ (L:=l) (a:=a) (HQ.out.symm.trans q0);omega
  obtain⟨ct,cu,cJ⟩:=cr;obtain⟨n,rfl⟩:=Int.eq_ofNat_of_zero_le cu;have cv:aR (R=iU g l ff.toNat none [] n):=fa (by have:=HR.out;rwa[Int.toNat_natCast]at this);subst q0;have cw:aR (fx W2 (h+1) A l c (n,0)):=fa (by have:=b5.out;rw[b6.out]at this;exact this);have cx:aR (jN (At (h+1)) W2 A l g):=fa (by
   refine⟨(HG.out.below (HH.out▸bC.out) fe).more (by have:=bC.out.size;omega),fun b o h0 e hb=>?_⟩;obtain⟨b',o',e',bQ,_⟩:=HG.out.2 h0;rw[e]at e';cases e';have:b=h+1:=hb;have:=HH.out;omega)
  have bx:=fa fun b=>nE W2 (h+1) A l c (n,0) cw.out b 2
  rcases b7.out with⟨z1,z2,hb⟩|⟨z1,z2,hb⟩|⟨z1,hb⟩
  ·obtain⟨m,rfl⟩:=Int.eq_ofNat_of_zero_le z1;have cy:aR (iU g l m none [] n=R):=fa (by rw[cv.out,Int.toNat_natCast]);have aU:mD (m:Int)=0:=by unfold mD;rw[if_neg (by omega)]
   have b8:na g l (n:Int) (m:Int) R=R.2.2:=by unfold na;rw[<-HQ.out,if_neg (fun h=>h rfl),aU,if_neg (fun h=>h rfl)]
   have b9:nb g l (n:Int) (m:Int) R=R.1:=by unfold nb;rw[<-HQ.out,if_neg (fun h=>h rfl),aU,if_neg (fun h=>h rfl)]
   have bg:=fa b8;have aX:=fa b9
   have d1:decide ((0:Int)<=(m:Int))=true:=kP z1;have d2:decide ((m:Int)<=131072)=true:=kP z2;have cK:decide (m<=131072)=true:=kc (by omega);have hm:m<=131072:=by omega
   have cz:n<=8*l:=by omega
   clear z1 z2 aU b8 b9 hb;go_enter func35,ntmps35
   go_wp2_with (first
    |(rw[<-bK.out,<-HH.out])
    |fail)
   refine bJ.out.mono ?_;rintro e w9 ⟨rfl,rfl⟩;go_wp2_with (first
    |(refine aE rfl 69 #[(0,.tmp 11),(1,.tmp 12),(2,.tmp 15)] rfl (some 16) rfl Y ?_ ?_;focus(simpa[Act.eval]using bH.out))
    |(refine aD rfl _ _ _ rfl rfl W1.heap.size Y rfl rfl 69 Z (aH W1 _) (kU bn.out) (by rw[bl.out,bn.out]) bG.out ?_;change wpList _ _ _ _ _ (gi W1 Z Y 69);rw[<-bM.out,bL.out])
    |fail)
   refine(bx.out true).mono ?_;rintro e w3 ⟨rfl,r3,f3⟩;have ca:fx w3 (h+1) A l c (n,0):=r3;have cb:=bI.out.fr f3 (by show¬h=h+1;omega);have cf:h+2<=w3.heap.size:=by have:=f3.size;have:=bF.out;omega
   obtain⟨x,hx⟩:∃x:gu,x=⟨w3,h+1,A,l,c,w3.heap.size,m,[],w3.heap.size,⟨rfl,by omega⟩,Nat.le_refl _⟩:=⟨_,rfl⟩;have bX:=Ta x (by rw[hx]) (by rw[hx]) g n (by rw[hx];exact ca) (by rw[hx];exact cx.out.fr f3) (by rw[hx];exact hl) (by rw[hx];exact cz) (by rw[hx];exact hm) R (by rw[hx];exact cy.out);have bU:ax prog 77 #[ag (some ⟨h+1,0,none⟩),ae ak (m:Int)] w3 fun e w'=>∃(T:List fi) (qa:Nat) (qe:Int) (B:Option aw) (k:Nat),e=aq (af B T.length k)/\iK w' w'.heap.size B T.length k T/\fx w' (h+1) A l c (qa,qe)/\Fr (At (h+1)) w3 w'/\(nO m R T (qa,qe)\/rK m R T (qa,qe)):=by
    rw[hx]at bX;refine bX.mono ?_;rintro e w' ⟨T,⟨qa,qe⟩,B,k,e1,e2,e3,e4,e5⟩;exact⟨T,qa,qe,B,k,e1,e2,e3,e4,e5⟩
   have a3:=fa bU;have a4:=fa cb;have cg:=fa f3;have cA:=fa cf
   clear r3 ca f3 cb cf hx bX bU x bx;go_wp2_with fail
   refine a3.out.mono ?_;rintro e w4 ⟨T,qa,qe,B,k,rfl,ch,r4,f4,bD⟩;have cB:∃M,pB T M/\M<=m:=by rcases bD with h|h;exact h.ok;exact h.ok
   obtain⟨M,bY,cC⟩:=cB;have bV:T.foldl fV []=R.1:=by rcases bD with h|h;exact h.out;exact h.out
   have bR:qe=R.2.2:=by rcases bD with h|h;exact h.same;exact h.err.trans h.same.symm
   have cj:R.2.2=0->qa=R.2.1:=fun e=>by rcases bD with h|h;exact absurd (bR.trans e) h.err;exact h.place
   have aV:=uw w4 none 0 0 jE B T.length k T (fq.nil _ _ _ (fun j=>by unfold jE;omega)) ch (fun t ht=>by
    obtain⟨m1,m2⟩:=bY.may t ht;rcases tX m1 with h|h
    ·exact⟨m2,by omega,by omega⟩
    ·exact⟨m2,by omega,by omega⟩)
   rw[bY.Sr (by omega),bV]at aV;have ck:=a4.out.fr f4 (by show¬h=h+1;omega);have a5:=fa aV;have a6:=fa ck;have bZ:=fa r4;have cl:=fa (cg.out.trans f4);have cm:=fa bR;have cn:=fa cj
   have bS:aR (h+2<=w4.heap.size):=fa (Nat.le_trans cA.out f4.size);clear ch r4 f4 bD bY cC bV bR cj aV ck a3 a4 cg;go_wp2_with fail
   refine a5.out.mono ?_;rintro e w5 ⟨A5,n5,c5,rfl,aY,aW,ad,bj⟩;have a7:=a6.out.below ad a6.out.lt;have aZ:fg w5 (h+1) (lF A l c (qa:Int) qe) 69:=fg.below bZ.out ad bZ.out.lt;obtain⟨S,hS⟩:=fb (lF A l c (qa:Int) qe);rw[<-hS]at aZ;have ah:aR (S.size=3):=fa (by rw[hS];rfl);have bq:aR (S.all (·.oneCell')=true):=fa (by rw[hS];exact rO ..);have a8:aR (fg w5.drew (h+1) S 69):=fa aZ;have br:aR (fg (w5.drew.setRow h S) (h+1) S 69):=fa (fg.gV a8.out (by omega) _);have a9:aR (fg w5.drew h Z 69):=fa a7;have bf:aR (rN w g l (n:Int) (m:Int) R (aq (.tuple #[af A5 n5 c5,ai S])) (w5.drew.setRow h S)):=fa (by
    refine⟨A5,c5,A,l,c,(qa:Int),?_,?_,?_,?_,?_⟩
    ·rw[aX.out,bg.out,hS,aY,cm.out]
    ·rw[aX.out,<-aY];have hd:jN (At h) w5.drew A5 n5 (fc R.1):=⟨aW.1,fun b o h0 e (hb:b=h)=>by
      obtain⟨g0,o0,cur,e1,e2,_⟩:=bj h0;rw[e]at e1;cases e1;have:=bS.out;omega⟩
     exact⟨(hd.fr (Fr.row _ h S)).1,aW.2⟩
    ·rw[aX.out,<-aY];intro h0;obtain⟨g0,o0,cur,e1,e2,e3⟩:=bj h0;refine⟨g0,o0,cur,e1,by have:=bS.out;have:=HH.out;omega,?_⟩;exact(setRow_other _ _ _ _ (by have:=bS.out;omega)).trans e3
    ·have b1:aS h w w5:=bC.out.trans (((cl.out.below (B:=h) (fun j (e:j=h+1)=>by omega) (by have:=bF.out;omega))).trans (ad.mono (by have:=bS.out;omega)));rw[<-HH.out];exact ru (Below.drew b1) fe _
    ·rw[bg.out];intro e;rw[cn.out e])
   clear aY aW ad bj a7 aZ hS a5 bZ cl cm cn;go_wp2_with fail
   refine ur 3 (uv [fun v=>v=af A5 n5 c5,fun v=>v=ai S,fun v=>v=af A5 n5 c5,fun v=>v=undef]) ((w5.drew).setRow h S) (by kernel_rfl) (by kernel_rfl) ?_ ?_
   case refine_1=>
    refine ik.cons (fun aa wv hw ha hS Kk Qq hK=>lV (k:=0) (s:=3) (by decide) (fm rfl) (af A5 n5 c5) (by have e:=(show aa.eval (.tmp 9)=af A5 n5 c5 from((ha 9 (by kernel_rfl)).trans rfl));unfold execOp;simp only[e];rfl) hK rfl) ?_;refine ik.cons (fun aa wv hw ha hS Kk Qq hK=>lV (k:=1) (s:=3) (by decide) (fm rfl) (ai S) (by have e:=(show aa.eval (.tmp 8)=ag (some ⟨h+1,0,none⟩)from((ha 8 (by kernel_rfl)).trans rfl));have hx:fg wv (h+1) S 69:=by {rcases hw with hw|⟨hw,_,_⟩<;>first|(rw[hw];exact a8.out)|(rw[hw];exact br.out)};have hl:=run_loadVar_row (P:=prog) wv (h+1) 69 69 S (0,0) _ hx underlying69 rfl (kU ah.out);unfold execOp;simp only[e,Instr.loadAt,Instr.sureAddr,Sem.run_bind,Sem.run_pure,Result.andThen_ok,hl]) hK rfl) ?_;refine ik.cons (fun aa wv hw ha hS Kk Qq hK=>lV (k:=2) (s:=3) (by decide) (fm rfl) (af A5 n5 c5) (by have e:=(show aa.eval (.tmp 30)=af A5 n5 c5 from hS 0 30 (by kernel_rfl) rfl);unfold execOp;simp only[e];rfl) hK rfl) ?_;refine ik.cons (fun aa wv hw ha hS Kk Qq hK=>uu (s:=3) (fm rfl) rfl (by have e1:=(show aa.eval (.tmp 7)=ag (some ⟨h,0,none⟩)from((ha 7 (by kernel_rfl)).trans rfl));have e2:=(show aa.eval (.tmp 31)=ai S from hS 1 31 (by kernel_rfl) rfl);have bt:wv=w5.drew:=by {rcases hw with hw|⟨_,hw,_⟩<;>first|exact hw|exact absurd rfl hw};subst bt;have bu:=run_storeVar_row (P:=prog) (w5.drew) h 69 69 Z S a9.out (kU ah.out) (by rw[bl.out,ah.out]) bq.out;unfold execOp;simp only[e1,e2,Instr.storeAt,Instr.sureAddr,Sem.run_bind,Sem.run_pure,Result.andThen_ok,bu]) hK rfl) ?_;exact ik.nil
   intro vals hv;have e3:vals 6=af A5 n5 c5:=hv 2 6 rfl;clear hv;simp only[List.map_cons,List.map_nil,U0,Act.put,List.setIfInBounds_toArray,List.set_cons_zero,List.set_cons_succ,e3];clear e3;go_wp2;refine aL (v:=.tuple #[af A5 n5 c5,ai S]) ((uA rfl _ _ h S ah.out rfl (a9.out.row S)).trans rfl) rfl bf.out
  ·have aU:mD ff=2:=by unfold mD;rw[if_pos (by omega)]
   have bg:aR (na g l (n:Int) ff R=2):=fa (by unfold na;rw[<-HQ.out,if_neg (fun h=>h rfl),aU,if_pos (by decide)]);have aX:aR (nb g l (n:Int) ff R=[]):=fa (by unfold nb;rw[<-HQ.out,if_neg (fun h=>h rfl),aU,if_pos (by decide)]);have d1:decide ((0:Int)<=ff)=true:=kP z1;have d2:decide (ff<=131072)=false:=lq z2;clear aU;go_enter func35,ntmps35
   go_wp2_with (first
    |(rw[<-bK.out,<-HH.out])
    |fail)
   refine bJ.out.mono ?_;rintro e w9 ⟨rfl,rfl⟩;go_wp2_with (first
    |(refine aE rfl 69 #[(0,.tmp 11),(1,.tmp 12),(2,.tmp 15)] rfl (some 16) rfl Y ?_ ?_;focus(simpa[Act.eval]using bH.out))
    |(refine aD rfl _ _ _ rfl rfl W1.heap.size Y rfl rfl 69 Z (aH W1 _) (kU bn.out) (by rw[bl.out,bn.out]) bG.out ?_;change wpList _ _ _ _ _ (gi W1 Z Y 69);rw[<-bM.out,bL.out])
    |fail)
   refine(bx.out false).mono ?_;rintro e w3 ⟨rfl,r3,f3⟩;have al:aR (fg w3 (h+1) (lF A l c (n:Int) 2) 69):=fa r3;have a4:=fa (bI.out.fr f3 (by show¬h=h+1;omega));have bz:=fa (bC.out.trans (f3.below (B:=h) (fun j (e:j=h+1)=>by omega) (by have:=bF.out;omega)));have hE:(2:Int)≠0:=by decide
   have bE:=fa hE;clear r3 f3 bx;have a3:=fa (wA w3 (h+1) A l c (n:Int) 2 al.out hE ff);clear hE;go_wp2_with fail
   refine a3.out.mono ?_;rintro e w4 ⟨rfl,av⟩;have aV:=uw w4 none 0 0 jE none 0 0 [] (fq.nil _ _ _ (fun j=>by unfold jE;omega)) (iK.nil _ _) (fun t ht=>by simp at ht);rw[show po jE 0 []=(0,[])from rfl]at aV;have a5:=fa aV;have a6:=fa (a4.out.below av a4.out.lt);have aT:=fa (al.out.below av al.out.lt)
   have bA:=fa (bz.out.trans (av.mono (by have:=al.out.lt;omega)));clear aV av a3;go_wp2_with fail
   refine a5.out.mono ?_;rintro e w5 ⟨A5,n5,c5,rfl,aY,aW,ad,bj⟩;have bB:n5=0:=aY;subst bB;obtain⟨S,hS⟩:=fb (lF A l c (n:Int) 2);have aZ:fg w5 (h+1) S 69:=by rw[hS];exact aT.out.below ad aT.out.lt
   have ah:aR (S.size=3):=fa (by rw[hS];rfl);have bq:aR (S.all (·.oneCell')=true):=fa (by rw[hS];exact rO ..);have a8:aR (fg w5.drew (h+1) S 69):=fa aZ;have br:aR (fg (w5.drew.setRow h S) (h+1) S 69):=fa (fg.gV a8.out (by omega) _);have a7:fg w5 h Z 69:=a6.out.below ad a6.out.lt;have a9:aR (fg w5.drew h Z 69):=fa a7;have bf:aR (rN w g l (n:Int) ff R (aq (.tuple #[af A5 0 c5,ai S])) (w5.drew.setRow h S)):=fa (by
    refine⟨A5,c5,A,l,c,(n:Int),?_,?_,?_,?_,?_⟩
    ·rw[aX.out,bg.out,hS];rfl
    ·rw[aX.out];exact⟨⟨aW.1.1,fun h0=>absurd h0 (Nat.lt_irrefl 0)⟩,aW.2⟩
    ·rw[aX.out];exact iT.nil _ _ _
    ·have b1:aS h w w5:=bA.out.trans (ad.mono (by have:=aT.out.lt;omega));rw[<-HH.out];exact ru (Below.drew b1) fe _
    ·rw[bg.out];intro e;exact absurd e bE.out)
   clear aY aW ad bj aZ hS a5 aT a7;go_wp2_with fail
   refine ur 3 (uv [fun v=>v=af A5 0 c5,fun v=>v=ai S,fun v=>v=af A5 0 c5,fun v=>v=undef]) ((w5.drew).setRow h S) (by kernel_rfl) (by kernel_rfl) ?_ ?_
   case refine_1=>
    refine ik.cons (fun aa wv hw ha hS Kk Qq hK=>lV (k:=0) (s:=3) (by decide) (fm rfl) (af A5 0 c5) (by have e:=(show aa.eval (.tmp 9)=af A5 0 c5 from((ha 9 (by kernel_rfl)).trans rfl));unfold execOp;simp only[e];rfl) hK rfl) ?_;refine ik.cons (fun aa wv hw ha hS Kk Qq hK=>lV (k:=1) (s:=3) (by decide) (fm rfl) (ai S) (by have e:=(show aa.eval (.tmp 8)=ag (some ⟨h+1,0,none⟩)from((ha 8 (by kernel_rfl)).trans rfl));have hx:fg wv (h+1) S 69:=by {rcases hw with hw|⟨hw,_,_⟩<;>first|(rw[hw];exact a8.out)|(rw[hw];exact br.out)};have hl:=run_loadVar_row (P:=prog) wv (h+1) 69 69 S (0,0) _ hx underlying69 rfl (kU ah.out);unfold execOp;simp only[e,Instr.loadAt,Instr.sureAddr,Sem.run_bind,Sem.run_pure,Result.andThen_ok,hl]) hK rfl) ?_;refine ik.cons (fun aa wv hw ha hS Kk Qq hK=>lV (k:=2) (s:=3) (by decide) (fm rfl) (af A5 0 c5) (by have e:=(show aa.eval (.tmp 30)=af A5 0 c5 from hS 0 30 (by kernel_rfl) rfl);unfold execOp;simp only[e];rfl) hK rfl) ?_;refine ik.cons (fun aa wv hw ha hS Kk Qq hK=>uu (s:=3) (fm rfl) rfl (by have e1:=(show aa.eval (.tmp 7)=ag (some ⟨h,0,none⟩)from((ha 7 (by kernel_rfl)).trans rfl));have e2:=(show aa.eval (.tmp 31)=ai S from hS 1 31 (by kernel_rfl) rfl);have bt:wv=w5.drew:=by {rcases hw with hw|⟨_,hw,_⟩<;>first|exact hw|exact absurd rfl hw};subst bt;have bu:=run_storeVar_row (P:=prog) (w5.drew) h 69 69 Z S a9.out (kU ah.out) (by rw[bl.out,ah.out]) bq.out;unfold execOp;simp only[e1,e2,Instr.storeAt,Instr.sureAddr,Sem.run_bind,Sem.run_pure,Result.andThen_ok,bu]) hK rfl) ?_;exact ik.nil
   intro vals hv;have e3:vals 6=af A5 0 c5:=hv 2 6 rfl;clear hv;simp only[List.map_cons,List.map_nil,U0,Act.put,List.setIfInBounds_toArray,List.set_cons_zero,List.set_cons_succ,e3];clear e3;go_wp2;refine aL (v:=.tuple #[af A5 0 c5,ai S]) ((uA rfl _ _ h S ah.out rfl (a9.out.row S)).trans rfl) rfl bf.out
  ·have aU:mD ff=2:=by unfold mD;rw[if_pos (by omega)]
   have bg:aR (na g l (n:Int) ff R=2):=fa (by unfold na;rw[<-HQ.out,if_neg (fun h=>h rfl),aU,if_pos (by decide)]);have aX:aR (nb g l (n:Int) ff R=[]):=fa (by unfold nb;rw[<-HQ.out,if_neg (fun h=>h rfl),aU,if_pos (by decide)]);have d1:decide ((0:Int)<=ff)=false:=lq z1;clear aU;go_enter func35,ntmps35
   go_wp2_with (first
    |(rw[<-bK.out,<-HH.out])
    |fail)
   refine bJ.out.mono ?_;rintro e w9 ⟨rfl,rfl⟩;go_wp2_with (first
    |(refine aE rfl 69 #[(0,.tmp 11),(1,.tmp 12),(2,.tmp 15)] rfl (some 16) rfl Y ?_ ?_;focus(simpa[Act.eval]using bH.out))
    |(refine aD rfl _ _ _ rfl rfl W1.heap.size Y rfl rfl 69 Z (aH W1 _) (kU bn.out) (by rw[bl.out,bn.out]) bG.out ?_;change wpList _ _ _ _ _ (gi W1 Z Y 69);rw[<-bM.out,bL.out])
    |fail)
   refine(bx.out false).mono ?_;rintro e w3 ⟨rfl,r3,f3⟩;have al:aR (fg w3 (h+1) (lF A l c (n:Int) 2) 69):=fa r3;have a4:=fa (bI.out.fr f3 (by show¬h=h+1;omega));have bz:=fa (bC.out.trans (f3.below (B:=h) (fun j (e:j=h+1)=>by omega) (by have:=bF.out;omega)));have hE:(2:Int)≠0:=by decide
   have bE:=fa hE;clear r3 f3 bx;have a3:=fa (wA w3 (h+1) A l c (n:Int) 2 al.out hE ff);clear hE;go_wp2_with fail
   refine a3.out.mono ?_;rintro e w4 ⟨rfl,av⟩;have aV:=uw w4 none 0 0 jE none 0 0 [] (fq.nil _ _ _ (fun j=>by unfold jE;omega)) (iK.nil _ _) (fun t ht=>by simp at ht);rw[show po jE 0 []=(0,[])from rfl]at aV;have a5:=fa aV;have a6:=fa (a4.out.below av a4.out.lt);have aT:=fa (al.out.below av al.out.lt)
   have bA:=fa (bz.out.trans (av.mono (by have:=al.out.lt;omega)));clear aV av a3;go_wp2_with fail
   refine a5.out.mono ?_;rintro e w5 ⟨A5,n5,c5,rfl,aY,aW,ad,bj⟩;have bB:n5=0:=aY;subst bB;obtain⟨S,hS⟩:=fb (lF A l c (n:Int) 2);have aZ:fg w5 (h+1) S 69:=by rw[hS];exact aT.out.below ad aT.out.lt
   have ah:aR (S.size=3):=fa (by rw[hS];rfl);have bq:aR (S.all (·.oneCell')=true):=fa (by rw[hS];exact rO ..);have a8:aR (fg w5.drew (h+1) S 69):=fa aZ;have br:aR (fg (w5.drew.setRow h S) (h+1) S 69):=fa (fg.gV a8.out (by omega) _);have a7:fg w5 h Z 69:=a6.out.below ad a6.out.lt;have a9:aR (fg w5.drew h Z 69):=fa a7;have bf:aR (rN w g l (n:Int) ff R (aq (.tuple #[af A5 0 c5,ai S])) (w5.drew.setRow h S)):=fa (by
    refine⟨A5,c5,A,l,c,(n:Int),?_,?_,?_,?_,?_⟩
    ·rw[aX.out,bg.out,hS];rfl
    ·rw[aX.out];exact⟨⟨aW.1.1,fun h0=>absurd h0 (Nat.lt_irrefl 0)⟩,aW.2⟩
    ·rw[aX.out];exact iT.nil _ _ _
    ·have b1:aS h w w5:=bA.out.trans (ad.mono (by have:=aT.out.lt;omega));rw[<-HH.out];exact ru (Below.drew b1) fe _
    ·rw[bg.out];intro e;exact absurd e bE.out)
   clear aY aW ad bj aZ hS a5 aT a7;go_wp2_with fail
   refine ur 3 (uv [fun v=>v=af A5 0 c5,fun v=>v=ai S,fun v=>v=af A5 0 c5,fun v=>v=undef]) ((w5.drew).setRow h S) (by kernel_rfl) (by kernel_rfl) ?_ ?_
   case refine_1=>
    refine ik.cons (fun aa wv hw ha hS Kk Qq hK=>lV (k:=0) (s:=3) (by decide) (fm rfl) (af A5 0 c5) (by have e:=(show aa.eval (.tmp 9)=af A5 0 c5 from((ha 9 (by kernel_rfl)).trans rfl));unfold execOp;simp only[e];rfl) hK rfl) ?_;refine ik.cons (fun aa wv hw ha hS Kk Qq hK=>lV (k:=1) (s:=3) (by decide) (fm rfl) (ai S) (by have e:=(show aa.eval (.tmp 8)=ag (some ⟨h+1,0,none⟩)from((ha 8 (by kernel_rfl)).trans rfl));have hx:fg wv (h+1) S 69:=by {rcases hw with hw|⟨hw,_,_⟩<;>first|(rw[hw];exact a8.out)|(rw[hw];exact br.out)};have hl:=run_loadVar_row (P:=prog) wv (h+1) 69 69 S (0,0) _ hx underlying69 rfl (kU ah.out);unfold execOp;simp only[e,Instr.loadAt,Instr.sureAddr,Sem.run_bind,Sem.run_pure,Result.andThen_ok,hl]) hK rfl) ?_;refine ik.cons (fun aa wv hw ha hS Kk Qq hK=>lV (k:=2) (s:=3) (by decide) (fm rfl) (af A5 0 c5) (by have e:=(show aa.eval (.tmp 30)=af A5 0 c5 from hS 0 30 (by kernel_rfl) rfl);unfold execOp;simp only[e];rfl) hK rfl) ?_;refine ik.cons (fun aa wv hw ha hS Kk Qq hK=>uu (s:=3) (fm rfl) rfl (by have e1:=(show aa.eval (.tmp 7)=ag (some ⟨h,0,none⟩)from((ha 7 (by kernel_rfl)).trans rfl));have e2:=(show aa.eval (.tmp 31)=ai S from hS 1 31 (by kernel_rfl) rfl);have bt:wv=w5.drew:=by {rcases hw with hw|⟨_,hw,_⟩<;>first|exact hw|exact absurd rfl hw};subst bt;have bu:=run_storeVar_row (P:=prog) (w5.drew) h 69 69 Z S a9.out (kU ah.out) (by rw[bl.out,ah.out]) bq.out;unfold execOp;simp only[e1,e2,Instr.storeAt,Instr.sureAddr,Sem.run_bind,Sem.run_pure,Result.andThen_ok,bu]) hK rfl) ?_;exact ik.nil
   intro vals hv;have e3:vals 6=af A5 0 c5:=hv 2 6 rfl;clear hv;simp only[List.map_cons,List.map_nil,U0,Act.put,List.setIfInBounds_toArray,List.set_cons_zero,List.set_cons_succ,e3];clear e3;go_wp2;refine aL (v:=.tuple #[af A5 0 c5,ai S]) ((uA rfl _ _ h S ah.out rfl (a9.out.row S)).trans rfl) rfl bf.out
 ·have bg:aR (na g l a ff R=q):=fa (by unfold na;rw[<-HQ.out,if_pos q0]);have aX:aR (nb g l a ff R=[]):=fa (by unfold nb;rw[<-HQ.out,if_pos q0]);have b0:fg W2 (h+1) (lF A l c a q) 69:=by rw[<-b6.out];exact b5.out
  have bx:=fa fun b=>Tc W2 (h+1) A l c a q b0 q0 b 2
  have b2:=fa b0;have bE:=fa q0;have hE:=q0;clear b0 q0;rcases b7.out with⟨z1,z2,hb⟩|⟨z1,z2,hb⟩|⟨z1,hb⟩
  ·have d1:decide ((0:Int)<=ff)=true:=kP z1;have d2:decide (ff<=131072)=true:=kP z2;go_enter func35,ntmps35
   go_wp2_with (first
    |(rw[<-bK.out,<-HH.out])
    |fail)
   refine bJ.out.mono ?_;rintro e w9 ⟨rfl,rfl⟩;go_wp2_with (first
    |(refine aE rfl 69 #[(0,.tmp 11),(1,.tmp 12),(2,.tmp 15)] rfl (some 16) rfl Y ?_ ?_;focus(simpa[Act.eval]using bH.out))
    |(refine aD rfl _ _ _ rfl rfl W1.heap.size Y rfl rfl 69 Z (aH W1 _) (kU bn.out) (by rw[bl.out,bn.out]) bG.out ?_;change wpList _ _ _ _ _ (gi W1 Z Y 69);rw[<-bM.out,bL.out])
    |fail)
   refine(bx.out _).mono ?_;rintro e w3 ⟨rfl,rfl⟩;have al:=b2;have a4:=bI;have bz:=bC;have a3:=fa (wA W2 (h+1) A l c a q al.out hE ff);clear hE;go_wp2_with fail
   refine a3.out.mono ?_;rintro e w4 ⟨rfl,av⟩;have aV:=uw w4 none 0 0 jE none 0 0 [] (fq.nil _ _ _ (fun j=>by unfold jE;omega)) (iK.nil _ _) (fun t ht=>by simp at ht);rw[show po jE 0 []=(0,[])from rfl]at aV;have a5:=fa aV;have a6:=fa (a4.out.below av a4.out.lt);have aT:=fa (al.out.below av al.out.lt)
   have bA:=fa (bz.out.trans (av.mono (by have:=al.out.lt;omega)));clear aV av a3;go_wp2_with fail
   refine a5.out.mono ?_;rintro e w5 ⟨A5,n5,c5,rfl,aY,aW,ad,bj⟩;have bB:n5=0:=aY;subst bB;obtain⟨S,hS⟩:=fb (lF A l c a q);have aZ:fg w5 (h+1) S 69:=by rw[hS];exact aT.out.below ad aT.out.lt
   have ah:aR (S.size=3):=fa (by rw[hS];rfl);have bq:aR (S.all (·.oneCell')=true):=fa (by rw[hS];exact rO ..);have a8:aR (fg w5.drew (h+1) S 69):=fa aZ;have br:aR (fg (w5.drew.setRow h S) (h+1) S 69):=fa (fg.gV a8.out (by omega) _);have a7:fg w5 h Z 69:=a6.out.below ad a6.out.lt;have a9:aR (fg w5.drew h Z 69):=fa a7;have bf:aR (rN w g l a ff R (aq (.tuple #[af A5 0 c5,ai S])) (w5.drew.setRow h S)):=fa (by
    refine⟨A5,c5,A,l,c,a,?_,?_,?_,?_,?_⟩
    ·rw[aX.out,bg.out,hS];rfl
    ·rw[aX.out];exact⟨⟨aW.1.1,fun h0=>absurd h0 (Nat.lt_irrefl 0)⟩,aW.2⟩
    ·rw[aX.out];exact iT.nil _ _ _
    ·have b1:aS h w w5:=bA.out.trans (ad.mono (by have:=aT.out.lt;omega));rw[<-HH.out];exact ru (Below.drew b1) fe _
    ·rw[bg.out];intro e;exact absurd e bE.out)
   clear aY aW ad bj aZ hS a5 aT a7;go_wp2_with fail
   refine ur 3 (uv [fun v=>v=af A5 0 c5,fun v=>v=ai S,fun v=>v=af A5 0 c5,fun v=>v=undef]) ((w5.drew).setRow h S) (by kernel_rfl) (by kernel_rfl) ?_ ?_
   case refine_1=>
    refine ik.cons (fun aa wv hw ha hS Kk Qq hK=>lV (k:=0) (s:=3) (by decide) (fm rfl) (af A5 0 c5) (by have e:=(show aa.eval (.tmp 9)=af A5 0 c5 from((ha 9 (by kernel_rfl)).trans rfl));unfold execOp;simp only[e];rfl) hK rfl) ?_;refine ik.cons (fun aa wv hw ha hS Kk Qq hK=>lV (k:=1) (s:=3) (by decide) (fm rfl) (ai S) (by have e:=(show aa.eval (.tmp 8)=ag (some ⟨h+1,0,none⟩)from((ha 8 (by kernel_rfl)).trans rfl));have hx:fg wv (h+1) S 69:=by {rcases hw with hw|⟨hw,_,_⟩<;>first|(rw[hw];exact a8.out)|(rw[hw];exact br.out)};have hl:=run_loadVar_row (P:=prog) wv (h+1) 69 69 S (0,0) _ hx underlying69 rfl (kU ah.out);unfold execOp;simp only[e,Instr.loadAt,Instr.sureAddr,Sem.run_bind,Sem.run_pure,Result.andThen_ok,hl]) hK rfl) ?_;refine ik.cons (fun aa wv hw ha hS Kk Qq hK=>lV (k:=2) (s:=3) (by decide) (fm rfl) (af A5 0 c5) (by have e:=(show aa.eval (.tmp 30)=af A5 0 c5 from hS 0 30 (by kernel_rfl) rfl);unfold execOp;simp only[e];rfl) hK rfl) ?_;refine ik.cons (fun aa wv hw ha hS Kk Qq hK=>uu (s:=3) (fm rfl) rfl (by have e1:=(show aa.eval (.tmp 7)=ag (some ⟨h,0,none⟩)from((ha 7 (by kernel_rfl)).trans rfl));have e2:=(show aa.eval (.tmp 31)=ai S from hS 1 31 (by kernel_rfl) rfl);have bt:wv=w5.drew:=by {rcases hw with hw|⟨_,hw,_⟩<;>first|exact hw|exact absurd rfl hw};subst bt;have bu:=run_storeVar_row (P:=prog) (w5.drew) h 69 69 Z S a9.out (kU ah.out) (by rw[bl.out,ah.out]) bq.out;unfold execOp;simp only[e1,e2,Instr.storeAt,Instr.sureAddr,Sem.run_bind,Sem.run_pure,Result.andThen_ok,bu]) hK rfl) ?_;exact ik.nil
   intro vals hv;have e3:vals 6=af A5 0 c5:=hv 2 6 rfl;clear hv;simp only[List.map_cons,List.map_nil,U0,Act.put,List.setIfInBounds_toArray,List.set_cons_zero,List.set_cons_succ,e3];clear e3;go_wp2;refine aL (v:=.tuple #[af A5 0 c5,ai S]) ((uA rfl _ _ h S ah.out rfl (a9.out.row S)).trans rfl) rfl bf.out
  ·have d1:decide ((0:Int)<=ff)=true:=kP z1;have d2:decide (ff<=131072)=false:=lq z2;go_enter func35,ntmps35
   go_wp2_with (first
    |(rw[<-bK.out,<-HH.out])
    |fail)
   refine bJ.out.mono ?_;rintro e w9 ⟨rfl,rfl⟩;go_wp2_with (first
    |(refine aE rfl 69 #[(0,.tmp 11),(1,.tmp 12),(2,.tmp 15)] rfl (some 16) rfl Y ?_ ?_;focus(simpa[Act.eval]using bH.out))
    |(refine aD rfl _ _ _ rfl rfl W1.heap.size Y rfl rfl 69 Z (aH W1 _) (kU bn.out) (by rw[bl.out,bn.out]) bG.out ?_;change wpList _ _ _ _ _ (gi W1 Z Y 69);rw[<-bM.out,bL.out])
    |fail)
   refine(bx.out _).mono ?_;rintro e w3 ⟨rfl,rfl⟩;have al:=b2;have a4:=bI;have bz:=bC;have a3:=fa (wA W2 (h+1) A l c a q al.out hE ff);clear hE;go_wp2_with fail
   refine a3.out.mono ?_;rintro e w4 ⟨rfl,av⟩;have aV:=uw w4 none 0 0 jE none 0 0 [] (fq.nil _ _ _ (fun j=>by unfold jE;omega)) (iK.nil _ _) (fun t ht=>by simp at ht);rw[show po jE 0 []=(0,[])from rfl]at aV;have a5:=fa aV;have a6:=fa (a4.out.below av a4.out.lt);have aT:=fa (al.out.below av al.out.lt)
   have bA:=fa (bz.out.trans (av.mono (by have:=al.out.lt;omega)));clear aV av a3;go_wp2_with fail
   refine a5.out.mono ?_;rintro e w5 ⟨A5,n5,c5,rfl,aY,aW,ad,bj⟩;have bB:n5=0:=aY;subst bB;obtain⟨S,hS⟩:=fb (lF A l c a q);have aZ:fg w5 (h+1) S 69:=by rw[hS];exact aT.out.below ad aT.out.lt
   have ah:aR (S.size=3):=fa (by rw[hS];rfl);have bq:aR (S.all (·.oneCell')=true):=fa (by rw[hS];exact rO ..);have a8:aR (fg w5.drew (h+1) S 69):=fa aZ;have br:aR (fg (w5.drew.setRow h S) (h+1) S 69):=fa (fg.gV a8.out (by omega) _);have a7:fg w5 h Z 69:=a6.out.below ad a6.out.lt;have a9:aR (fg w5.drew h Z 69):=fa a7;have bf:aR (rN w g l a ff R (aq (.tuple #[af A5 0 c5,ai S])) (w5.drew.setRow h S)):=fa (by
    refine⟨A5,c5,A,l,c,a,?_,?_,?_,?_,?_⟩
    ·rw[aX.out,bg.out,hS];rfl
    ·rw[aX.out];exact⟨⟨aW.1.1,fun h0=>absurd h0 (Nat.lt_irrefl 0)⟩,aW.2⟩
    ·rw[aX.out];exact iT.nil _ _ _
    ·have b1:aS h w w5:=bA.out.trans (ad.mono (by have:=aT.out.lt;omega));rw[<-HH.out];exact ru (Below.drew b1) fe _
    ·rw[bg.out];intro e;exact absurd e bE.out)
   clear aY aW ad bj aZ hS a5 aT a7;go_wp2_with fail
   refine ur 3 (uv [fun v=>v=af A5 0 c5,fun v=>v=ai S,fun v=>v=af A5 0 c5,fun v=>v=undef]) ((w5.drew).setRow h S) (by kernel_rfl) (by kernel_rfl) ?_ ?_
   case refine_1=>
    refine ik.cons (fun aa wv hw ha hS Kk Qq hK=>lV (k:=0) (s:=3) (by decide) (fm rfl) (af A5 0 c5) (by have e:=(show aa.eval (.tmp 9)=af A5 0 c5 from((ha 9 (by kernel_rfl)).trans rfl));unfold execOp;simp only[e];rfl) hK rfl) ?_;refine ik.cons (fun aa wv hw ha hS Kk Qq hK=>lV (k:=1) (s:=3) (by decide) (fm rfl) (ai S) (by have e:=(show aa.eval (.tmp 8)=ag (some ⟨h+1,0,none⟩)from((ha 8 (by kernel_rfl)).trans rfl));have hx:fg wv (h+1) S 69:=by {rcases hw with hw|⟨hw,_,_⟩<;>first|(rw[hw];exact a8.out)|(rw[hw];exact br.out)};have hl:=run_loadVar_row (P:=prog) wv (h+1) 69 69 S (0,0) _ hx underlying69 rfl (kU ah.out);unfold execOp;simp only[e,Instr.loadAt,Instr.sureAddr,Sem.run_bind,Sem.run_pure,Result.andThen_ok,hl]) hK rfl) ?_;refine ik.cons (fun aa wv hw ha hS Kk Qq hK=>lV (k:=2) (s:=3) (by decide) (fm rfl) (af A5 0 c5) (by have e:=(show aa.eval (.tmp 30)=af A5 0 c5 from hS 0 30 (by kernel_rfl) rfl);unfold execOp;simp only[e];rfl) hK rfl) ?_;refine ik.cons (fun aa wv hw ha hS Kk Qq hK=>uu (s:=3) (fm rfl) rfl (by have e1:=(show aa.eval (.tmp 7)=ag (some ⟨h,0,none⟩)from((ha 7 (by kernel_rfl)).trans rfl));have e2:=(show aa.eval (.tmp 31)=ai S from hS 1 31 (by kernel_rfl) rfl);have bt:wv=w5.drew:=by {rcases hw with hw|⟨_,hw,_⟩<;>first|exact hw|exact absurd rfl hw};subst bt;have bu:=run_storeVar_row (P:=prog) (w5.drew) h 69 69 Z S a9.out (kU ah.out) (by rw[bl.out,ah.out]) bq.out;unfold execOp;simp only[e1,e2,Instr.storeAt,Instr.sureAddr,Sem.run_bind,Sem.run_pure,Result.andThen_ok,bu]) hK rfl) ?_;exact ik.nil
   intro vals hv;have e3:vals 6=af A5 0 c5:=hv 2 6 rfl;clear hv;simp only[List.map_cons,List.map_nil,U0,Act.put,List.setIfInBounds_toArray,List.set_cons_zero,List.set_cons_succ,e3];clear e3;go_wp2;refine aL (v:=.tuple #[af A5 0 c5,ai S]) ((uA rfl _ _ h S ah.out rfl (a9.out.row S)).trans rfl) rfl bf.out
  ·have d1:decide ((0:Int)<=ff)=false:=lq z1;go_enter func35,ntmps35
   go_wp2_with (first
    |(rw[<-bK.out,<-HH.out])
    |fail)
   refine bJ.out.mono ?_;rintro e w9 ⟨rfl,rfl⟩;go_wp2_with (first
    |(refine aE rfl 69 #[(0,.tmp 11),(1,.tmp 12),(2,.tmp 15)] rfl (some 16) rfl Y ?_ ?_;focus(simpa[Act.eval]using bH.out))
    |(refine aD rfl _ _ _ rfl rfl W1.heap.size Y rfl rfl 69 Z (aH W1 _) (kU bn.out) (by rw[bl.out,bn.out]) bG.out ?_;change wpList _ _ _ _ _ (gi W1 Z Y 69);rw[<-bM.out,bL.out])
    |fail)
   refine(bx.out _).mono ?_;rintro e w3 ⟨rfl,rfl⟩;have al:=b2;have a4:=bI;have bz:=bC;have a3:=fa (wA W2 (h+1) A l c a q al.out hE ff);clear hE;go_wp2_with fail
   refine a3.out.mono ?_;rintro e w4 ⟨rfl,av⟩;have aV:=uw w4 none 0 0 jE none 0 0 [] (fq.nil _ _ _ (fun j=>by unfold jE;omega)) (iK.nil _ _) (fun t ht=>by simp at ht);rw[show po jE 0 []=(0,[])from rfl]at aV;have a5:=fa aV;have a6:=fa (a4.out.below av a4.out.lt);have aT:=fa (al.out.below av al.out.lt)
   have bA:=fa (bz.out.trans (av.mono (by have:=al.out.lt;omega)));clear aV av a3;go_wp2_with fail
   refine a5.out.mono ?_;rintro e w5 ⟨A5,n5,c5,rfl,aY,aW,ad,bj⟩;have bB:n5=0:=aY;subst bB;obtain⟨S,hS⟩:=fb (lF A l c a q);have aZ:fg w5 (h+1) S 69:=by rw[hS];exact aT.out.below ad aT.out.lt
   have ah:aR (S.size=3):=fa (by rw[hS];rfl);have bq:aR (S.all (·.oneCell')=true):=fa (by rw[hS];exact rO ..);have a8:aR (fg w5.drew (h+1) S 69):=fa aZ;have br:aR (fg (w5.drew.setRow h S) (h+1) S 69):=fa (fg.gV a8.out (by omega) _);have a7:fg w5 h Z 69:=a6.out.below ad a6.out.lt;have a9:aR (fg w5.drew h Z 69):=fa a7;have bf:aR (rN w g l a ff R (aq (.tuple #[af A5 0 c5,ai S])) (w5.drew.setRow h S)):=fa (by
    refine⟨A5,c5,A,l,c,a,?_,?_,?_,?_,?_⟩
    ·rw[aX.out,bg.out,hS];rfl
    ·rw[aX.out];exact⟨⟨aW.1.1,fun h0=>absurd h0 (Nat.lt_irrefl 0)⟩,aW.2⟩
    ·rw[aX.out];exact iT.nil _ _ _
    ·have b1:aS h w w5:=bA.out.trans (ad.mono (by have:=aT.out.lt;omega));rw[<-HH.out];exact ru (Below.drew b1) fe _
    ·rw[bg.out];intro e;exact absurd e bE.out)
   clear aY aW ad bj aZ hS a5 aT a7;go_wp2_with fail
   refine ur 3 (uv [fun v=>v=af A5 0 c5,fun v=>v=ai S,fun v=>v=af A5 0 c5,fun v=>v=undef]) ((w5.drew).setRow h S) (by kernel_rfl) (by kernel_rfl) ?_ ?_
   case refine_1=>
    refine ik.cons (fun aa wv hw ha hS Kk Qq hK=>lV (k:=0) (s:=3) (by decide) (fm rfl) (af A5 0 c5) (by have e:=(show aa.eval (.tmp 9)=af A5 0 c5 from((ha 9 (by kernel_rfl)).trans rfl));unfold execOp;simp only[e];rfl) hK rfl) ?_;refine ik.cons (fun aa wv hw ha hS Kk Qq hK=>lV (k:=1) (s:=3) (by decide) (fm rfl) (ai S) (by have e:=(show aa.eval (.tmp 8)=ag (some ⟨h+1,0,none⟩)from((ha 8 (by kernel_rfl)).trans rfl));have hx:fg wv (h+1) S 69:=by {rcases hw with hw|⟨hw,_,_⟩<;>first|(rw[hw];exact a8.out)|(rw[hw];exact br.out)};have hl:=run_loadVar_row (P:=prog) wv (h+1) 69 69 S (0,0) _ hx underlying69 rfl (kU ah.out);unfold execOp;simp only[e,Instr.loadAt,Instr.sureAddr,Sem.run_bind,Sem.run_pure,Result.andThen_ok,hl]) hK rfl) ?_;refine ik.cons (fun aa wv hw ha hS Kk Qq hK=>lV (k:=2) (s:=3) (by decide) (fm rfl) (af A5 0 c5) (by have e:=(show aa.eval (.tmp 30)=af A5 0 c5 from hS 0 30 (by kernel_rfl) rfl);unfold execOp;simp only[e];rfl) hK rfl) ?_;refine ik.cons (fun aa wv hw ha hS Kk Qq hK=>uu (s:=3) (fm rfl) rfl (by have e1:=(show aa.eval (.tmp 7)=ag (some ⟨h,0,none⟩)from((ha 7 (by kernel_rfl)).trans rfl));have e2:=(show aa.eval (.tmp 31)=ai S from hS 1 31 (by kernel_rfl) rfl);have bt:wv=w5.drew:=by {rcases hw with hw|⟨_,hw,_⟩<;>first|exact hw|exact absurd rfl hw};subst bt;have bu:=run_storeVar_row (P:=prog) (w5.drew) h 69 69 Z S a9.out (kU ah.out) (by rw[bl.out,ah.out]) bq.out;unfold execOp;simp only[e1,e2,Instr.storeAt,Instr.sureAddr,Sem.run_bind,Sem.run_pure,Result.andThen_ok,bu]) hK rfl) ?_;exact ik.nil
   intro vals hv;have e3:vals 6=af A5 0 c5:=hv 2 6 rfl;clear hv;simp only[List.map_cons,List.map_nil,U0,Act.put,List.setIfInBounds_toArray,List.set_cons_zero,List.set_cons_succ,e3];clear e3;go_wp2;refine aL (v:=.tuple #[af A5 0 c5,ai S]) ((uA rfl _ _ h S ah.out rfl (a9.out.row S)).trans rfl) rfl bf.out
theorem Tf{g:Nat->Nat}{L:Nat}{a ff:Int}(hL:l8 L a=0->a.toNat<=8*L){R:List Nat×Nat×Int}(hR:R=iU g L ff.toNat none [] a.toNat):
  (na g L a ff R≠0->ny g L a ff=([],0,na g L a ff R))/\(na g L a ff R=0->ny g L a ff=(nb g L a ff R,R.2.1,0)):=by
 unfold na nb ny
 by_cases h1:l8 L a≠0
 ·rw[if_pos h1,if_pos h1,if_pos h1];exact⟨fun _=>rfl,fun h=>absurd h h1⟩
 ·rw[if_neg h1,if_neg h1,if_neg h1];by_cases h2:mD ff≠0
  ·rw[if_pos h2,if_pos h2,if_pos h2];exact⟨fun _=>rfl,fun h=>absurd h h2⟩
  ·rw[if_neg h2,if_neg h2,if_neg h2];rw[sm (hL (by omega)) (Fb _ _ _),<-hR];unfold Ae;by_cases h3:R.2.2≠0
   ·rw[if_pos h3];exact⟨fun _=>rfl,fun h=>absurd h h3⟩
   ·rw[if_neg h3];exact⟨fun h=>absurd h h3,fun _=>rfl⟩
def Jv(w:au)(r:List Nat×Nat×Int)(e:Ending)(w':au):Prop:=∃(A':Option aw) (c':Nat),e=aq (.tuple #[af A' r.1.length c',ae ak (r.2.1:Int),ae ak r.2.2])/\fq w' w'.heap.size A' r.1.length c' (fc r.1)/\iT w' w.heap.size A' r.1.length/\aS w.heap.size w w'
theorem Tg(j:Nat):fc [] j<256:=by unfold fc;simp
theorem Jw(w:au)(A:Option aw)(l c:Nat)(g:Nat->Nat)(hg:fB w w.heap.size A l g)(a:Int)(a2: -9223372036854775808<=a)(a3:a<=9223372036854775807)(hl:l<=1000000)(ff:Int)(a4: -9223372036854775808<=ff)(a5:ff<=9223372036854775807):
  ax prog 15 #[af A l c,ae ak a,ae ak ff] w fun e w'=>Jv w (ny g l a ff) e w':=by
 have hT:=Te w A l c g hg a a2 a3 hl ff a4 a5
 obtain⟨R,hR⟩:=fb (iU g l ff.toNat none [] a.toNat)
 obtain⟨i1,i2⟩:=Tf (g:=g) (L:=l) (a:=a) (ff:=ff) (fun h=>(GQ h).2.2) hR
 rw[<-hR]at hT
 unfold rN at hT
 obtain⟨E,hE⟩:=fb (na g l a ff R)
 obtain⟨O,hO⟩:=fb (nb g l a ff R)
 rw[<-hE,<-hO]at hT
 rw[<-hE]at i1 i2
 rw[<-hO]at i2
 obtain⟨I,hI⟩:=fb (ny g l a ff)
 rw[<-hI]at i1 i2⊢
 have HT:=fa hT;have I1:=fa i1;have I2:=fa i2
 obtain⟨Z,hZ⟩:=fb (xL none 0 0 (0,0))
 have a9:∀u:au,(zeroValue 69).run prog u=.ok (ai Z) u:=by rw[hZ];exact(zero_of_info AB).1
 have aU:aR (Z.size=3):=fa (by rw[hZ];rfl)
 clear hT i1 i2 hE hO hR hg hI hZ
 go_enter func15,ntmps15
 go_wp2_with fail
 refine HT.out.mono ?_
 rintro e w2 ⟨A',c',A2,l2,c2,pl,rfl,aV,aW,aT,ah⟩
 obtain⟨S,hS⟩:=fb (lF A2 l2 c2 pl E)
 rw[<-hS]
 have al:aR (S.size=3):=fa (by rw[hS];rfl)
 have aX:aR (S.all (·.oneCell')=true):=fa (by rw[hS];exact rO ..)
 obtain⟨t,ht⟩:=fb (w2.heap.size)
 obtain⟨W3,av⟩:=fb (gi w2 Z S 69)
 have ad:aS w2.heap.size w2 W3:=by rw[av];exact km _ _ _ _
 have x3:fg W3 t S 69:=by rw[av,ht];exact kO w2 Z S _
 have ce:W3.cell? ⟨t,2,none⟩=some (ae ak E):=by rw[x3.cell,hS];rfl
 have ca:W3.cell? ⟨t,1,none⟩=some (ae ak pl):=by rw[x3.cell,hS];rfl
 have a6:=fa (aV.below ad fe|>.more ad.size)
 have a7:aR (iT W3 w.heap.size A' O.length):=fa (fun h0=>by
  obtain⟨g0,o0,cur,e1,e2,e3⟩:=aW h0;exact⟨g0,o0,cur,e1,e2,(ad.block g0 (Array.getElem?_eq_some_iff.1 e3).1).trans e3⟩)
 have aY:=fa (aT.trans (ad.mono aT.size));have aZ:=fa av;have a1:=fa ht;have a8:=fa ah
 clear aV aW aT ah hS ht av ad x3 HT
 by_cases he:E=0
 ·have d0:(E==0)=true:=by rw[he];rfl
  have d1:(E !=0)=false:=by simp[bne,d0]
  have HI:=fa (I2.out he);have ah:=a8.out he;subst ah;clear he;go_wp2_with (first
   |(refine aD rfl _ _ _ rfl rfl w2.heap.size S rfl rfl 69 Z (aH w2 _) (kU al.out) (by rw[aU.out,al.out]) aX.out ?_;change wpList _ _ _ _ _ (gi w2 Z S 69);rw[<-aZ.out,<-a1.out])
   |fail)
  go_quiet (fail)
  go_wp2;go_ret3
  have hb:=rh aY.out nq;rw[HI.out];exact⟨A',c',rfl,a6.out.below (rh (Below.refl _ W3) nq) fe,a7.out,hb⟩
 ·have d0:(E==0)=false:=beq_eq_false_iff_ne.2 he;have d1:(E !=0)=true:=by simp[bne,d0]
  have HI:=fa (I1.out he);clear he;go_wp2_with (first
   |(refine aD rfl _ _ _ rfl rfl w2.heap.size S rfl rfl 69 Z (aH w2 _) (kU al.out) (by rw[aU.out,al.out]) aX.out ?_;change wpList _ _ _ _ _ (gi w2 Z S 69);rw[<-aZ.out,<-a1.out])
   |fail)
  go_quiet (fail)
  go_wp2;go_ret3
  have hb:=rh aY.out nq;rw[HI.out];exact⟨none,0,rfl,fq.nil _ _ _ Tg,iT.nil _ _ _,hb⟩
theorem Ti:ny (fc [75,4,0]) 3 0 9=([97],18,0):=by kernel_rfl
theorem Tj:ny (fc [1,3,0,252,255,97,98,99]) 8 0 3=([97,98,99],64,0):=by kernel_rfl
def kF(L:List Nat):ByteArray:=kH L.length (fc L)
theorem CD(L:List Nat):kF L=⟨(L.map UInt8.ofNat).toArray⟩:=by
 unfold kF kH strOfNums;congr 1;congr 1;apply List.ext_getElem?;intro j;simp[fc];rcases Nat.lt_or_ge j L.length with h|h
 ·simp[h]
 ·simp[h]
theorem CF(L:List Nat):(kF L).size=L.length:=by rw[CD];simp[ByteArray.size]
theorem Tk(L:List Nat)(h:∀x∈L,x<256)(j:Nat)(hj:j<(kF L).data.size):((kF L).data[j].toNat:Nat)=fc L j:=by
 have ad:j<L.length:=by have h2:(kF L).data.size=L.length:=CF L;omega
 have e:(kF L).data[j]?=some (UInt8.ofNat (fc L j)):=by
  rw[CD];simp[fc,ad]
 rw[Array.getElem?_eq_getElem hj]at e;injection e with e
 rw[e];have:=jz h j;simp;omega
theorem Tl(w:au)(T:List Nat)(hT:∀x∈T,x<256)(hn:T.length<=1000000):∃c w',(convert 9 22 (.string (kF T))).run prog w=.ok (af (some ⟨w.heap.size,0,none⟩) T.length c) w'/\fq w' w'.heap.size (some ⟨w.heap.size,0,none⟩) T.length c (fc T)/\aS w.heap.size w w':=by
 have hr:=run_bytes_of_string (P:=prog) w 9 22 5 (kF T) underlying9 underlying22 underlying5;rw[CF]at hr;have al:=grownCap_ge w T.length 0 5;have hle:=grownCap_le_maxLen w T.length 0 5 (by unfold maxLen;omega);obtain⟨c,hc⟩:=fb (grownCap w T.length 0 5);rw[<-hc]at hr al hle;refine⟨c,_,hr,⟨⟨jz hT,fun _=>⟨w.heap.size,0,rfl,by simp,fun j hj=>?_⟩⟩,(fun h=>by cases h),by omega,by omega⟩,((Below.refl w.heap.size w).drew.alloc fe _)⟩;have ad:(w.drew.alloc (ao (bytesRow (kF T) c) 5 ((bytesRow (kF T) c).size,(bytesRow (kF T) c).size+1))).heap[w.heap.size]?=some (ao (bytesRow (kF T) c) 5 ((bytesRow (kF T) c).size,(bytesRow (kF T) c).size+1)):=aH w.drew _;rw[cell_of_row _ _ _ _ _ _ ad,Nat.zero_add];have ah:j<(kF T).data.size:=by have h2:(kF T).data.size=T.length:=CF T;omega
 rw[bytesRow_at _ _ _ ah,Tk T hT j ah]
theorem yG(L:List Nat)(d:Array UInt8)(h:(L.map UInt8.ofNat).toArray=d):(⟨d⟩:ByteArray)=kF L:=by rw[CD,h]
theorem Jy(w:au)(T M:List Nat)(ff n:Nat)(hT:∀x∈T,x<256)(hn:T.length<=1000)(aT:ff<=3000)(hR:ny (fc T) T.length 0 (ff:Int)=(M,n,0)):
  ax prog 37 #[.string (kF T),ae ak (ff:Int),.string (kF M),ae ak (n:Int)] w fun e w'=>e=aq (aj true)/\aS w.heap.size w w':=by
 obtain⟨c,w1,ad,ah,aU⟩:=Tl w T hT (by omega)
 have hI:=fun(u:au) (hu:fB u u.heap.size (some ⟨w.heap.size,0,none⟩) T.length (fc T))=>Jw u (some ⟨w.heap.size,0,none⟩) T.length c (fc T) hu 0 (by decide) (by decide) (by omega) (ff:Int) (by omega) (by omega)
 rw[hR]at hI
 obtain⟨N,hN⟩:=fb (T.length)
 rw[<-hN]at ad ah hI
 obtain⟨ZT,aV⟩:=fb (kF T)
 obtain⟨ZM,al⟩:=fb (kF M)
 rw[<-aV]at ad⊢
 rw[<-al]
 obtain⟨m,hm⟩:=fb (M.length)
 unfold Jv at hI
 dsimp only at hI
 rw[<-hm]at hI
 have aW:=fa ah;have av:=fa aU;have HI:=fa hI;have aY:=fa al;have HM:=fa hm
 clear ah aU hI hT hn hR aT aV hN al hm
 go_enter func37,ntmps37
 go_wp2_with fail
 refine(HI.out w1 aW.out.1).mono ?_
 clear ad
 rintro e w2 ⟨A',c',rfl,hy,-,aX⟩
 have hs:=uF hy.1 c'
 have hz:kH m (fc M)=ZM:=by rw[aY.out,HM.out];rfl
 rw[hz]at hs
 have aZ:=fa (av.out.trans (aX.mono av.out.size))
 have z1:(ZM.toList==ZM.toList)=true:=by simp
 have zk:((n:Int)==(n:Int))=true:=by simp
 clear hy aX hz HI aW av
 go_wp2
 go_ret
 exact⟨rfl,aZ.out⟩
theorem Tm(w:au):ax prog 37 #[.string ⟨#[75,4,0]⟩,ae ak 9,.string ⟨#[97]⟩,ae ak 18] w fun e w'=>e=aq (aj true)/\aS w.heap.size w w':=by
 rw[yG [75,4,0] #[75,4,0] rfl,yG [97] #[97] rfl];exact Jy w [75,4,0] [97] 9 18 (by decide) (by decide) (by decide) Ti
theorem Tn(w:au):ax prog 37 #[.string ⟨#[1,3,0,252,255,97,98,99]⟩,ae ak 3,.string ⟨#[97,98,99]⟩,ae ak 64] w fun e w'=>e=aq (aj true)/\aS w.heap.size w w':=by
 rw[yG [1,3,0,252,255,97,98,99] #[1,3,0,252,255,97,98,99] rfl,yG [97,98,99] #[97,98,99] rfl];exact Jy w [1,3,0,252,255,97,98,99] [97,98,99] 3 64 (by decide) (by decide) (by decide) Tj
theorem Tp(w:au):ax prog 19 #[] w fun e w'=>e=aq (aj true)/\aS w.heap.size w w':=by
 have H0:=fa Tm;have H1:=fa Tn
 go_enter func19,ntmps19
 go_wp2_with fail
 refine(H0.out w).mono ?_;rintro e w1 ⟨rfl,hb⟩;have ad:=fa hb;clear hb;go_wp2_with fail
 refine(H1.out w1).mono ?_;rintro e w2 ⟨rfl,hb⟩;have ah:=fa (ad.out.trans (hb.mono ad.out.size));clear hb;go_wp2;go_ret;exact⟨rfl,ah.out⟩
theorem CG{w:au}{A:Option aw}{l c:Nat}{g:Nat->Nat}{a ff:Int}(hg:fB w w.heap.size A l g)(ad: -9223372036854775808<=a)(ah:a<=9223372036854775807)(hl:l<=1000000)(al: -9223372036854775808<=ff)(av:ff<=9223372036854775807){X:List Nat}{n p:Nat}{E:Int}(hr:ny g l a ff=(X,p,E))(hn:n=X.length):
  ax prog 15 #[af A l c,ae ak a,ae ak ff] w fun e w'=>∃A' c',e=aq (.tuple #[af A' n c',ae ak (p:Int),ae ak E])/\fq w' w'.heap.size A' n c' (fc X)/\aS w.heap.size w w':=by
 refine(Jw w A l c g hg a ad ah hl ff al av).mono ?_
 rintro e w' h
 rw[hr]at h
 subst hn
 obtain⟨A',c',h1,h2,_,h3⟩:=h
 exact⟨A',c',h1,h2,h3⟩
theorem oh{p:Prop}[Decidable p](h:p):decide p=true:=by simp[h]
theorem qd{p:Prop}[Decidable p](h:¬p):decide p=false:=by simp[h]
theorem Jz:∀(P:List (Nat×Nat)) {f:Nat->Nat} {k:Nat},Ve f k->(∀x∈P,x.1<2^x.2)->Stn (fE f k P) k P
 |[],_,_,_,_=>trivial
 |x::P,f,k,hc,hf=>by
  have ad:=hc.put x.1 x.2;refine⟨?_,Jz P ad fun y hy=>hf y (List.mem_cons_of_mem _ hy)⟩;show UR (fE (Vo f k x.1 x.2) (k+x.2) P) k x.2=x.1
  rw[zN x.2 (fun j hj=>Ex ad (k+j) (by omega) P),L3 hc x.1 x.2 (hf x List.mem_cons_self)]
theorem JA{g h:Nat->Nat}:∀(P:List (Nat×Nat)) (k:Nat),(∀j,k<=j->j<k+UQ P->iO g j=iO h j)->Stn g k P->Stn h k P
 |[],_,_,_=>trivial
 |x::P,k,e,hS=>by
  simp only[UQ]at e;refine⟨?_,JA P (k+x.2) (fun j h1 h2=>e j (by omega) (by omega)) hS.2⟩;rw[<-hS.1];exact(zN x.2 fun j hj=>e (k+j) (by omega) (by omega)).symm
theorem Tq{v:Nat}(h:v<=7):((v,3):Nat×Nat).1<2^((v,3):Nat×Nat).2:=by show v<2^3;omega
theorem Tr{NA NB NR:Nat}(a2:NA<=286)(b2:NB<=30)(c2:NR<=19):∀x∈[(NA-257,5),(NB-1,5),(NR-4,4)],x.1<2^x.2:=by
 intro x hx;simp only[List.mem_cons,List.not_mem_nil,or_false]at hx;rcases hx with rfl|rfl|rfl
 ·show NA-257<2^5;omega
 ·show NB-1<2^5;omega
 ·show NR-4<2^4;omega
theorem Ts{a kind n:Nat}{r:Nat->Nat}{l:List fi}{last:Bool}(hk:kind<=2)(hn:n<=65535)(hr:∀j,r j<256)(hl:l.length<=65535)(ad:∀t∈l,fH t=true/\t.x<256):∀x∈gp a kind n r l last,x.1<2^x.2:=by
 have tk:∀{F G:Nat->Nat} {n m:Nat},(∀j,F j<=15)->(∀j,G j<=15)->∀x∈ix F n G m l,x.1<2^x.2:=by
  intro F G n m hF hG x hx;unfold ix at hx;rcases List.mem_append.1 hx with hx|hx
  ·obtain⟨t,ht,hx⟩:=List.mem_flatMap.1 hx;unfold gT at hx;by_cases h0:t.n=0
   ·rw[if_pos h0,List.mem_singleton]at hx;subst hx;exact(vF hF _ _).1
   ·rw[if_neg h0]at hx;obtain⟨e1,e2⟩:=Gv (ad t ht).1 (ad t ht).2 h0;simp only[List.mem_cons,List.not_mem_nil,or_false]at hx;rcases hx with rfl|rfl|rfl|rfl
    ·exact(vF hF _ _).1
    ·exact e1.1
    ·exact(vF hG _ _).1
    ·exact e2.1
  ·rw[List.mem_singleton]at hx;subst hx;exact(vF hF _ _).1
 intro x hx;unfold gp at hx;rcases List.mem_append.1 hx with hx|hx
 ·simp only[List.mem_cons,List.not_mem_nil,or_false]at hx;rcases hx with rfl|rfl
  ·show(if last then 1 else 0)<2^1
   split<;>omega
  ·show kind<2^2;omega
 ·by_cases k1:kind=1
  ·rw[if_pos k1]at hx;exact tk uW uX x hx
  ·rw[if_neg k1]at hx;by_cases k2:kind=2
   ·rw[if_pos k2]at hx;obtain⟨h1,h2,_,_,a1,a2,b1,b2,_⟩:=lO l (by omega);rcases List.mem_append.1 hx with hx|hx
    ·unfold jC at hx;have hR:∀j,kW l j<=7:=(tp (c:=j0 (ju l)) (n:=19) (fh:=7) (by omega) (by omega) (by omega) (by decide) (fun i=>by have:=rb (ju l) i;have:=(oz l (by omega)).2;omega)).1;have c2:nR l<=19:=ra (mr l) 4 19 (by decide);rcases List.mem_append.1 hx with hx|hx
     ·rcases List.mem_append.1 hx with hx|hx
      ·exact Tr a2 b2 c2 x hx
      ·obtain⟨i,_,rfl⟩:=List.mem_map.1 hx;have:mr l i<=7:=hR (gU i);exact Tq this
     ·obtain⟨u,hu,hx⟩:=List.mem_flatMap.1 hx;unfold gS at hx;simp only[List.mem_cons,List.not_mem_nil,or_false]at hx;rcases hx with rfl|rfl
      ·exact(vF (fun j=>Nat.le_trans (hR j) (by omega)) _ _).1
      ·exact(Gw (by omega) hu).1
    ·exact tk h1 h2 x hx
   ·rw[if_neg k2]at hx;unfold pK at hx;rcases List.mem_append.1 hx with hx|hx
    ·rcases List.mem_append.1 hx with hx|hx
     ·rw[(List.mem_replicate.1 hx).2];show 0<2^1;omega
     ·simp only[List.mem_cons,List.not_mem_nil,or_false]at hx;rcases hx with rfl|rfl
      ·show n<2^16;omega
      ·show 65535-n<2^16;omega
    ·obtain⟨i,_,rfl⟩:=List.mem_map.1 hx;exact hr i
theorem Tt(raw:List Nat):((List.range raw.length).map fun i=>(fc raw i,8))=raw.map fun x=>(x,8):=by
 have e:=congrArg (List.map fun x=>((x,8):Nat×Nat)) (Av raw);unfold iF at e;rw[List.map_map]at e;exact e
theorem Tv(last:Bool):sI ⟨1,last,0,iH,288,iZ,32⟩ iH 288 iZ 32:=
 ⟨(fun h=>by cases h),rfl,rfl,rfl,by kernel_rfl,by kernel_rfl,fun _ _=>rfl,fun _ _=>rfl⟩
theorem JB(j:Nat):0<iH j:=by unfold iH;split;omega;split<;>omega
theorem Tw{t:fi}(hm:fH t=true)(hx:t.x<256):vN iH 288 iZ 32 t:=by
 obtain⟨s1,_,s3⟩:=mR hm hx;exact⟨hm,hx,⟨by omega,JB _⟩,fun h=>⟨by have:=(s3 h).2.2.2;omega,by unfold iZ;omega⟩⟩
theorem Tx{l:List fi}(hl:l.length<=1000000){t:fi}(ht:t∈l)(hm:fH t=true)(hx:t.x<256):vN (ja l) (nA l) (jb l) (nB l) t:=by
 obtain⟨s1,_,s3⟩:=mR hm hx;obtain⟨_,_,_,_,_,_,_,_,h1,h2⟩:=lO l hl;exact⟨hm,hx,h1 _ s1 (zy ht),fun h=>h2 _ (s3 h).2.2.2 (zz ht h)⟩
theorem JC{g:Nat->Nat}{L ff K kind:Nat}{raw:List Nat}{l:List fi}(last:Bool){out:List Nat}(hk:kind<=2)(hn:raw.length<=65535)(hl:l.length<=65535)(ad:∀t∈l,fH t=true/\t.x<256)
  (hS:Stn g K (gp (K%8) kind raw.length (fc raw) l last)) (hL:K+UQ (gp (K%8) kind raw.length (fc raw) l last)<=8*L) (hP:Vx out l) (hf:l.foldl fV out=out++raw) (ah:out.length+raw.length<=ff):
  iU g L ff none out K=if last=true then(out++raw,K+UQ (gp (K%8) kind raw.length (fc raw) l last),0)else iU g L ff none (out++raw) (K+UQ (gp (K%8) kind raw.length (fc raw) l last)):=by
 have hlen:(l.foldl fV out).length<=ff:=by rw[hf,List.length_append];exact ah
 have e3:∀k,UQ [(pr last,1),(k,2)]=3:=fun _=>rfl
 have hb:gp (K%8) kind raw.length (fc raw) l last=[(pr last,1),(kind,2)]++(if kind=1 then ix iH 288 iZ 32 l else if kind=2 then jC l++ix (ja l) (nA l) (jb l) (nB l) l else pK (K%8) raw.length (fc raw)):=rfl
 rw[hb]at hS hL⊢
 rw[gm,e3]at hL⊢
 by_cases k1:kind=1
 ·subst k1;rw[if_pos rfl]at hS hL⊢;have S2:=((lE _ _ _).1 hS).2;rw[e3]at S2;have hx:=G3 (g:=g) (L:=L) (ff:=ff) (Tv last) ⟨by omega,JB 256⟩ l out (K+3) (fun t ht=>Tw (ad t ht).1 (ad t ht).2) S2 (by omega) hP hlen;rw[Bp (by omega) (PG last hS (by omega)),hx,hf,Nat.add_assoc]
 ·rw[if_neg k1]at hS hL⊢;by_cases k2:kind=2
  ·subst k2;rw[if_pos rfl]at hS hL⊢;rw[gm]at hL⊢;have S2:=((lE _ _ _).1 ((lE _ _ _).1 hS).2).2;rw[e3]at S2;have al:=(lO l (show l.length<=1000000 by omega)).2.2.2.2.2.2.2.2.1 256 (by decide) (zA l);have l1:K<=8*L:=by omega
   have l2:K+3+UQ (jC l)<=8*L:=by omega
   have l3:K+3+UQ (jC l)+UQ (ix (ja l) (nA l) (jb l) (nB l) l)<=8*L:=by omega
   have l4:l.length<=1000000:=by omega
   have hx:=G3 (g:=g) (L:=L) (ff:=ff) (PZ last l l4) al l out (K+3+UQ (jC l)) (fun t ht=>Tx l4 ht (ad t ht).1 (ad t ht).2) S2 l3 hP hlen;rw[Bp l1 (P1 last l4 hS l2),hx,hf,Nat.add_assoc,Nat.add_assoc];rfl
  ·rw[if_neg k2]at hS hL⊢;obtain rfl:kind=0:=by omega
   have aT:pK (K%8) raw.length (fc raw)=List.replicate (jV (K%8)) (0,1)++[(raw.length,16),(65535-raw.length,16)]++raw.map fun x=>(x,8):=by
    unfold pK;rw[Tt]
   have aU:∀r:List Nat,UQ (r.map fun x=>(x,8))=8*r.length:=by
    intro r;induction r with
    |nil=>rfl
    |cons x r ih=>rw[List.map_cons];simp only[UQ,List.length_cons];rw[ih];omega
   have av:UQ [(raw.length,16),(65535-raw.length,16)]=32:=rfl;rw[aT]at hS hL⊢;rw[gm,gm,tD,aU,av]at hL⊢;have S2:=((lE _ _ _).1 ((lE _ _ _).1 hS).2).2;rw[e3,gm,tD,av]at S2;rw[Bp (by omega) (PH last hn hS (by omega)),G4 last raw out _ (by rw[show K+3+jV (K%8)+32=K+3+(jV (K%8)+32) by omega];exact S2) (by omega) ah];rw[show K+3+jV (K%8)+32+8*raw.length=K+(3+(jV (K%8)+32+8*raw.length)) by omega]
structure nP where
 kind:Nat
 raw:List Nat
 l:List fi
def nP.oO(s:nP)(K:Nat)(last:Bool):List (Nat×Nat):=gp (K%8) s.kind s.raw.length (fc s.raw) s.l last
def Vm:Nat->List nP->List (Nat×Nat)
 |_,[]=>[]
 |K,s::r=>s.oO K false++Vm (K+UQ (s.oO K false)) r
def pC(r:List nP):List Nat:=r.flatMap nP.raw
structure CH (out:List Nat) (s:nP):Prop where
 kind:s.kind<=2
 len:s.raw.length<=65535
 CI:s.l.length<=65535
 ok:∀t∈s.l,fH t=true/\t.x<256
 bytes:iA s.raw
 wm:Vx out s.l
 made:s.l.foldl fV out=out++s.raw
def uB:List Nat->List nP->Prop
 |_,[]=>True
 |out,s::r=>CH out s/\uB (out++s.raw) r
theorem JD{g:Nat->Nat}{L ff:Nat}:∀(r:List nP) (out:List Nat) (K:Nat),uB out r->Stn g K (Vm K r)->K+UQ (Vm K r)<=8*L->out.length+(pC r).length<=ff->
  iU g L ff none out K=iU g L ff none (out++pC r) (K+UQ (Vm K r))
 |[],out,K,_,_,_,_=>by
  show _=iU g L ff none (out++[]) (K+0)
  rw[List.append_nil];rfl
 |s::r,out,K,hO,hS,hL,hl=>by
  simp only[Vm]at hS hL⊢;rw[gm]at hL⊢;obtain⟨S1,S2⟩:=(lE _ _ _).1 hS;have er:pC (s::r)=s.raw++pC r:=rfl;rw[er,List.length_append]at hl;obtain⟨o1,o2⟩:=hO;have h1:=JC (g:=g) (L:=L) (ff:=ff) (K:=K) false o1.kind o1.len o1.CI o1.ok S1 (by show K+UQ (s.oO K false)<=_;omega) o1.wm o1.made (by omega);rw[if_neg (by decide)]at h1;rw[h1];have h2:=JD (g:=g) (L:=L) (ff:=ff) r (out++s.raw) (K+UQ (s.oO K false)) o2 S2 (by omega) (by rw[List.length_append];omega);show iU g L ff none (out++s.raw) (K+UQ (s.oO K false))=_
  rw[h2,er,List.append_assoc,Nat.add_assoc]
theorem Ty(a:List Nat)(f:Nat->Nat)(k b:Nat):kj (cat (fc a) a.length f) (8*a.length+k) b=cat (fc a) a.length (kj f k b):=by
 funext j;by_cases h:j<a.length
 ·rw[vO h];unfold kj fK;rw[if_neg (by omega)];exact vO h
 ·obtain⟨i,rfl⟩:∃i,j=i+a.length:=⟨j-a.length,by omega⟩;rw[ya];unfold kj fK;rw[show(8*a.length+k)/8=k/8+a.length by omega,show(8*a.length+k)%8=k%8 by omega,ya];by_cases h2:i=k/8
  ·rw[if_pos (by omega),if_pos h2]
  ·rw[if_neg (by omega),if_neg h2];exact ya
theorem JE(a:List Nat)(f:Nat->Nat)(k v:Nat):∀n,Vo (cat (fc a) a.length f) (8*a.length+k) v n=cat (fc a) a.length (Vo f k v n)
 |0=>rfl
 |n+1=>by
  simp only[Vo];rw[JE a f k v n,Nat.add_assoc,Ty]
theorem JF(a:List Nat):∀(P:List (Nat×Nat)) (f:Nat->Nat) (k:Nat),fE (cat (fc a) a.length f) (8*a.length+k) P=cat (fc a) a.length (fE f k P)
 |[],_,_=>rfl
 |x::P,f,k=>by
  simp only[fE];rw[JE,Nat.add_assoc,JF a P]
theorem JG(a b:List Nat):fc (a++b)=cat (fc a) a.length (fc b):=by funext i;exact oG a b i
theorem Tz(pre all:List Nat){d:Nat}(n:Nat)(hd:d<=all.length):jZ (pre++all) d n=jZ all d n:=by
 unfold jZ;apply List.map_congr_left;intro i _;rw[List.length_append,List.getD_eq_getElem?_getD,List.getD_eq_getElem?_getD,List.getElem?_append_right (by omega),show pre.length+all.length-d+i%d-pre.length=all.length-d+i%d by omega]
theorem TA(pre all:List Nat){t:fi}(hd:t.d<=(all.length:Int)):fV (pre++all) t=pre++fV all t:=by
 unfold fV;split
 ·rw[List.append_assoc]
 ·rw[Tz pre all _ (by omega),List.append_assoc]
theorem JH(pre:List Nat):∀(l:List fi) (all:List Nat),Vx all l->Vx (pre++all) l/\l.foldl fV (pre++all)=pre++l.foldl fV all
 |[],_,_=>⟨trivial,rfl⟩
 |t::l,all,h=>by
  obtain⟨h1,h2⟩:=JH pre l (fV all t) h.2;simp only[List.foldl_cons,Vx];rw[TA pre all h.1];refine⟨⟨?_,h1⟩,h2⟩;have:=h.1;rw[List.length_append];omega
theorem JI{A:Nat}:∀(l:List fi) (all res:List Nat),Vw A l all=(0,res)->Vx all l/\(l.foldl fV all).drop A=res
 |[],all,res,h=>⟨trivial,congrArg Prod.snd h⟩
 |t::l,all,res,h=>by
  simp only[Vw]at h;split at h
  ·have:=congrArg Prod.fst h;simp at this
  ·split at h
   ·have:=congrArg Prod.fst h;simp at this
   ·rename_i h2;split at h
    ·have:=congrArg Prod.fst h;simp at this
    ·obtain⟨h3,h4⟩:=JI l (fV all t) res h;exact⟨⟨by omega,h3⟩,h4⟩
theorem TB{p:fF}{raw pre:List Nat}(hm:iI p.s p.h p.m=true)(hl:(p.hist++raw).length<=131072):Vx (pre++p.hist) (gA p raw)/\(gA p raw).foldl fV (pre++p.hist)=pre++p.hist++raw:=by
 obtain⟨s1,s2,_⟩:=kz hm;have hb:=zv (f:=fc (p.hist++raw)) (L:=(p.hist++raw).length) (size:=p.s.toNat) (chain:=p.h.toNat) p.z (by omega) hl (A:=0) ((p.hist++raw).length-p.hist.length) p.hist.length (Nat.zero_le _) (by simp) (by simp);have e1:iF (fc (p.hist++raw)) p.hist.length=p.hist:=by
  have:iF (fc (p.hist++raw)) p.hist.length=iF (fc p.hist) p.hist.length:=by
   unfold iF;apply List.map_congr_left;intro i hi;rw[oG];exact vO (List.mem_range.1 hi)
  rw[this,Av]
 rw[e1,Av,List.drop_zero]at hb;obtain⟨h1,h2⟩:=JI _ _ _ hb;rw[List.drop_zero]at h2;obtain⟨h3,h4⟩:=JH pre _ _ h1;have e2:gA p raw=Vr (fc (p.hist++raw)) (p.hist++raw).length p.s.toNat p.h.toNat p.z ((p.hist++raw).length-p.hist.length) p.hist.length:=rfl;rw[e2];refine⟨h3,?_⟩;rw[h4,h2,List.append_assoc]
theorem TC(S:Nat)(l:List Nat):∃pre,l=pre++lT S l:=⟨l.take (l.length-S),by unfold lT;rw[List.take_append_drop]⟩
theorem TD{fp:List Nat}{k:Nat}(h:Ve (fc fp) k)(kind:Nat)(raw:List Nat)(l:List fi)(last:Bool):fc (jw fp k kind raw l last).1=fE (fc fp) k (gp (k%8) kind raw.length (fc raw) l last):=by
 have hc:=h.ti (gp (k%8) kind raw.length (fc raw) l last);show fc (iF _ _)=_
 rw[Ar,zM hc rfl]
def uC(p:fF)(kind:Nat)(raw:List Nat):nP:=⟨kind,raw,gA p raw⟩
theorem JJ{p:fF}(g:kA p){raw:List Nat}(pre:List Nat){kind:Nat}(hk:kind<=2)(br:iA raw)(hr:raw.length<=65535):CH (pre++p.hist) (uC p kind raw):=by
 obtain⟨t1,t2⟩:=Ax g.jS g.bh br;have hh:=g.hist;obtain⟨s1,s2,_⟩:=kz g.jS;obtain⟨h1,h2⟩:=TB (p:=p) (raw:=raw) (pre:=pre) g.jS (by rw[List.length_append];omega);exact⟨hk,hr,by show(gA p raw).length<=_;omega,t2,br,h1,h2⟩
theorem JK{p:fF}(g:kA p)(raw O:List Nat)(kind:Nat)(last:Bool):
  fc (O++(jw p.fp p.k.toNat kind raw (gA p raw) last).1)=fE (fc (O++p.fp)) (8*O.length+p.k.toNat) ((uC p kind raw).oO (8*O.length+p.k.toNat) last)/\
  8*O.length+(jw p.fp p.k.toNat kind raw (gA p raw) last).2=8*O.length+p.k.toNat+UQ ((uC p kind raw).oO (8*O.length+p.k.toNat) last):=by
 have e8:(8*O.length+p.k.toNat)%8=p.k.toNat%8:=by omega
 have en:(uC p kind raw).oO (8*O.length+p.k.toNat) last=gp (p.k.toNat%8) kind raw.length (fc raw) (gA p raw) last:=by unfold nP.oO;rw[e8];rfl
 rw[en,JG,JG,JF,TD g.clean]
 refine⟨rfl,?_⟩
 show 8*O.length+(p.k.toNat+UQ _)=_
 rw[Nat.add_assoc]
theorem JL:∀(n:Nat) (p:fF) (w pre O:List Nat),w.length<=n->kA p->iA w->∃r:List nP,
  uB (pre++p.hist) r/\(∃aT,pre++p.hist++pC r=aT++(Va n p w).1.hist)/\pC r++(Va n p w).1.wait=w/\
  fc (O++(Va n p w).2++(Va n p w).1.fp)=fE (fc (O++p.fp)) (8*O.length+p.k.toNat) (Vm (8*O.length+p.k.toNat) r)/\
  8*(O++(Va n p w).2).length+(Va n p w).1.k.toNat=8*O.length+p.k.toNat+UQ (Vm (8*O.length+p.k.toNat) r)
 |0,p,w,pre,O,_,_,_=>⟨[],trivial,⟨pre,by show pre++p.hist++[]=_;rw[List.append_nil];rfl⟩,rfl,by show fc (O++[]++p.fp)=fc (O++p.fp);rw[List.append_nil],by show 8*(O++[]).length+p.k.toNat=_+0;rw[List.append_nil];rfl⟩
 |n+1,p,w,pre,O,hw,g,bw=>by
  have hm:=kz g.jS;simp only[Va];by_cases h:p.m.toNat<=w.length
  ·rw[if_pos h];have bt:iA (w.take p.m.toNat):=fun x hx=>bw x (List.mem_of_mem_take hx)
   have bd:iA (w.drop p.m.toNat):=fun x hx=>bw x (List.mem_of_mem_drop hx)
   have hl:(w.take p.m.toNat).length=p.m.toNat:=by rw[List.length_take];omega
   obtain⟨raw,ah⟩:=fb (w.take p.m.toNat);obtain⟨rest,ad⟩:=fb (w.drop p.m.toNat);have aW:w=raw++rest:=by rw[ah,ad,List.take_append_drop]
   have aX:rest.length+p.m.toNat=w.length:=by rw[ad,List.length_drop];omega
   rw[<-ah]at bt hl⊢;rw[<-ad]at bd⊢;obtain⟨q,hq⟩:=fb (jw p.fp p.k.toNat (jm p raw) raw (gA p raw) false);obtain⟨u1,u2⟩:=JK g raw O (jm p raw) false;obtain⟨c1,c2,c3⟩:=Ay (vB g.clean (jm p raw) raw (gA p raw) false) (su ..);rw[<-hq]at u1 u2 c1 c2 c3;have eo:(iJ p raw).2=q.1.take (q.2/8):=by rw[hq];rfl
   have ep:(iJ p raw).1.fp=q.1.drop (q.2/8):=by rw[hq];rfl
   have ek:(iJ p raw).1.k=((q.2%8:Nat):Int):=by rw[hq];rfl
   have eh:(iJ p raw).1.hist=lT p.s.toNat (p.hist++raw):=rfl;obtain⟨al,av⟩:=TC p.s.toNat (p.hist++raw);have aU:pre++p.hist++raw=(pre++al)++(iJ p raw).1.hist:=by rw[eh,List.append_assoc,List.append_assoc,<-av]
   have eK:8*(O++(iJ p raw).2).length+(iJ p raw).1.k.toNat=8*O.length+q.2:=by
    rw[ek,eo,Int.toNat_natCast,List.length_append,c3];omega
   have eO:O++(iJ p raw).2++(iJ p raw).1.fp=O++q.1:=by rw[eo,ep,List.append_assoc,List.take_append_drop]
   obtain⟨r,i1,⟨aV,i2⟩,i3,i4,i5⟩:=JL n (iJ p raw).1 rest (pre++al) (O++(iJ p raw).2) (by omega) (Fo g bt) bd;rw[eK]at i4 i5;rw[eO,u1]at i4;rw[u2]at i4 i5;refine⟨uC p (jm p raw) raw::r,⟨JJ g pre (xH p raw) bt (by omega),?_⟩,⟨aV,?_⟩,?_,?_,?_⟩
   ·show uB (pre++p.hist++raw) r
    rw[aU];exact i1
   ·show pre++p.hist++(raw++pC r)=_
    rw[<-List.append_assoc,aU];exact i2
   ·show(raw++pC r)++_=w
    rw[List.append_assoc,i3,<-aW]
   ·simp only[Vm];rw[ku,<-List.append_assoc O];exact i4
   ·simp only[Vm];rw[gm,<-List.append_assoc O,i5,Nat.add_assoc]
  ·rw[if_neg h];exact⟨[],trivial,⟨pre,by show pre++p.hist++[]=_;rw[List.append_nil]⟩,rfl,by show fc (O++[]++p.fp)=fc (O++p.fp);rw[List.append_nil],by show 8*(O++[]).length+p.k.toNat=_+0;rw[List.append_nil];rfl⟩
theorem JM{out:List Nat}{s:nP}(h:CH out s)(K:Nat)(last:Bool):∀x∈s.oO K last,x.1<2^x.2:=Ts h.kind h.len (jz h.bytes) h.CI h.ok
theorem JN:∀(r:List nP) (out:List Nat) (K:Nat),uB out r->∀x∈Vm K r,x.1<2^x.2
 |[],_,_,_,x,hx=>by cases hx
 |s::r,out,K,h,x,hx=>by
  simp only[Vm]at hx;rcases List.mem_append.1 hx with hx|hx
  ·exact JM h.1 K false x hx
  ·exact JN r _ _ h.2 x hx
theorem TE:Ve (fc []) 0:=⟨fun j=>jz (L:=[]) (fun x hx=>by cases hx) j,fun j _=>tQ (l:=[]) (Nat.zero_le _),(by show fc [] 0<1;exact Nat.lt_of_le_of_lt (Nat.le_of_eq (tQ (l:=[]) fe)) (by omega))⟩
theorem JO{s h m:Int}{z:Bool}{b:List Nat}(more:List Nat){ff:Nat}(hm:iI s h m=true)(hb:iA b)(a5:b.length<=ff):
  ∃N,iU (fc (lg s h m z b++more)) ((lg s h m z b).length+more.length) ff none [] 0=(b,N,0)/\0<N/\(lg s h m z b).length=(N+7)/8:=by
 have g0:=Az (s:=s) (h:=h) (m:=m) z hm
 obtain⟨W,hW⟩:=fb (Va b.length (gO s h m z) b)
 have aX:nC (gO s h m z) b=W:=by rw[hW];rfl
 obtain⟨r,i1,⟨al,i2⟩,i3,i4,i5⟩:=JL b.length (gO s h m z) b [] [] fe g0 hb
 obtain⟨g1,em,_⟩:=xI b.length (gO s h m z) b fe g0 hb
 rw[<-hW]at i2 i3 i4 i5 g1 em
 have aT:uB [] r:=i1
 have aY:pC r=al++W.1.hist:=i2
 have aZ:fc (W.2++W.1.fp)=fE (fc []) 0 (Vm 0 r):=i4
 have a1:8*W.2.length+W.1.k.toNat=UQ (Vm 0 r):=by
  have:8*W.2.length+W.1.k.toNat=0+0+UQ (Vm 0 r):=i5;omega
 have a6:=kz g1.jS
 have a7:=g1.wait
 obtain⟨kd,aU⟩:=fb (jm W.1 W.1.wait)
 have a2:kd<=2:=by rw[aU];exact xH _ _
 obtain⟨u1,u2⟩:=JK g1 W.1.wait W.2 kd true
 have ad:=JJ g1 al a2 g1.bw (show W.1.wait.length<=65535 by omega)
 rw[<-aY]at ad
 obtain⟨q,hq⟩:=fb (jw W.1.fp W.1.k.toNat kd W.1.wait (gA W.1 W.1.wait) true)
 have a3:q.1.length=(q.2+7)/8:=by rw[hq];exact su ..
 rw[<-hq]at u1 u2
 have hX:lg s h m z b=W.2++q.1:=by
  unfold lg;rw[aX,(Fv g1).2.2.1,hq,aU];rfl
 rw[a1]at u1 u2
 obtain⟨Pl,ah⟩:=fb ((uC W.1 kd W.1.wait).oO (UQ (Vm 0 r)) true)
 rw[<-ah]at u1 u2
 have e:=ku (fc []) 0 (Vm 0 r) Pl
 rw[Nat.zero_add]at e
 have u3:fc (W.2++q.1)=fE (fc []) 0 (Vm 0 r++Pl):=by rw[u1,aZ,e]
 have aV:∀x∈Vm 0 r++Pl,x.1<2^x.2:=fun x hx=>by
  rcases List.mem_append.1 hx with hx|hx
  ·exact JN r _ _ aT x hx
  ·rw[ah]at hx;exact JM ad _ _ x hx
 have S0:=Jz (Vm 0 r++Pl) TE aV
 rw[<-u3]at S0
 have aW:UQ (Vm 0 r++Pl)=UQ (Vm 0 r)+UQ Pl:=gm _ _
 have a4:(W.2++q.1).length=(UQ (Vm 0 r)+UQ Pl+7)/8:=by rw[List.length_append,a3];omega
 have S1:=JA (h:=fc (W.2++q.1++more)) (Vm 0 r++Pl) 0 (fun j _ hj=>by
  rw[aW]at hj;unfold iO;rw[oG (W.2++q.1),vO (by omega)]) S0
 obtain⟨S2,S3⟩:=(lE _ _ _).1 S1
 have a8:3<=UQ Pl:=by
  rw[ah];unfold nP.oO gp;rw[gm];have e3:∀x y:Nat,UQ [(x,1),(y,2)]=3:=fun _ _=>rfl
  rw[e3];omega
 have hlen:(pC r).length+W.1.wait.length=b.length:=by rw[<-i3,List.length_append]
 refine⟨UQ (Vm 0 r)+UQ Pl,?_,by omega,by rw[hX];exact a4⟩
 rw[hX,JD r [] 0 aT S2 (by omega) (by simp only[List.length_nil];omega),List.nil_append,Nat.zero_add]
 rw[Nat.zero_add]at S3
 have av:=JC (g:=fc (W.2++q.1++more)) (L:=(W.2++q.1).length+more.length) (ff:=ff) (K:=UQ (Vm 0 r)) (kind:=kd) (raw:=W.1.wait) (l:=gA W.1 W.1.wait) true (out:=pC r) ad.kind ad.len ad.CI ad.ok (by rw[ah]at S3;exact S3) (by
  have:UQ (gp (UQ (Vm 0 r)%8) kd W.1.wait.length (fc W.1.wait) (gA W.1 W.1.wait) true)=UQ Pl:=by rw[ah];rfl
  rw[this];omega) ad.wm ad.made (by omega)
 rw[if_pos rfl]at av
 rw[av,i3,ah]
 rfl
theorem yH{g:Nat->Nat}{L ff yI:Nat}:∀f st out a,out.length<=ff->(told g L yI f st out a).2.2=0->ff<(told g L yI f st out a).1.length->(told g L ff f st out a).2.2=140
 |0,_,_,_,_,e,_=>by simp[told]at e
 |f+1,none,out,a,ho,e,hl=>by
  rw[E9]at e hl⊢;by_cases h1:(fS g L a).2.2≠0
  ·rw[if_pos h1]at e;exact absurd e h1
  ·rw[if_neg h1]at e hl⊢;exact yH f _ _ _ ho e hl
 |f+1,some k,out,a,ho,e,hl=>by
  rw[Fa]at e hl⊢;by_cases h1:(fO k g L a).2.2.2≠0
  ·rw[if_pos h1]at e;exact absurd e h1
  ·rw[if_neg h1]at e hl⊢;by_cases h2:(fO k g L a).2.1=true
   ·rw[if_pos h2]at e hl⊢;by_cases h3:k.last=true
    ·rw[if_pos h3]at hl;have ad:ff<out.length:=hl;omega
    ·rw[if_neg h3]at e hl⊢;exact yH f _ _ _ ho e hl
   ·rw[if_neg h2]at e hl⊢;by_cases h3:(out.length:Int)<(fO k g L a).1.d
    ·rw[if_pos h3]at e;have e':(60:Int)=0:=e;omega
    ·rw[if_neg h3]at e hl⊢;by_cases h4:yI<out.length+il (fO k g L a).1
     ·rw[if_pos h4]at e;have e':(140:Int)=0:=e;omega
     ·rw[if_neg h4]at e hl;by_cases h5:ff<out.length+il (fO k g L a).1
      ·rw[if_pos h5]
      ·rw[if_neg h5];exact yH f _ _ _ (by rw[rV];omega) e hl
theorem TF{s h m:Int}{z:Bool}{b more:List Nat}{ff:Int}(hm:iI s h m=true)(hb:iA b)(hl:(lg s h m z b).length+more.length<=131072)(h0:0<=ff)(h1:ff<=131072)(ah:b.length<=131072):
  ((b.length:Int)<=ff->∃N:Nat,ny (fc (lg s h m z b++more)) ((lg s h m z b).length+more.length) 0 ff=(b,N,0)/\0<N/\(lg s h m z b).length=(N+7)/8)/\
  (ff<(b.length:Int)->ny (fc (lg s h m z b++more)) ((lg s h m z b).length+more.length) 0 ff=([],0,140)):=by
 have ha:l8 ((lg s h m z b).length+more.length) 0=0:=by unfold l8;rw[if_neg (by omega),if_neg (by omega)]
 have ad:mD ff=0:=by unfold mD;rw[if_neg (by omega)]
 unfold ny
 rw[if_neg (by omega),if_neg (by omega),show(0:Int).toNat=0 from rfl,sm (Nat.zero_le _) (Fb _ _ _)]
 refine⟨fun h2=>?_,fun h2=>?_⟩
 ·obtain⟨N,h3,h4,h5⟩:=JO (s:=s) (h:=h) (m:=m) (z:=z) (b:=b) more (ff:=ff.toNat) hm hb (by omega);refine⟨N,?_,h4,h5⟩;rw[h3];rfl
 ·obtain⟨N,h3,h4,h5⟩:=JO (s:=s) (h:=h) (m:=m) (z:=z) (b:=b) more (ff:=b.length) hm hb fe;unfold iU at h3⊢;have h6:=yH (ff:=ff.toNat) (yI:=b.length) (g:=fc (lg s h m z b++more)) (L:=(lg s h m z b).length+more.length) _ none [] 0 (Nat.zero_le _) (by rw[h3]) (by rw[h3];show ff.toNat<b.length;omega);unfold Ae;rw[if_pos (by rw[h6];omega),h6]
theorem wB(p:fF)(Ah:Option aw)(hc:Nat)(Aw:Option aw)(wc:Nat)(Ap:Option aw)(pc:Nat):(l9 p Ah hc Aw wc Ap pc).all (·.oneCell')=true:=by simp[l9,Value.oneCell']
theorem TG(s h m:Int)(z:Bool):prog.built 88 [(0,ai #[ae ak s,ae ak h,ae ak m,aj z])]=some (l9 (gO s h m z) none 0 none 0 none 0):=by kernel_rfl
theorem JP{fn:Func}{p u:Tmp}(h:fn.results=#[.cell p 88,.tmp u])(tmps:Array ay)(w:au)(g:Nat)(cs:Array ay)(hs:cs.size=9)(hp:tmps.getD p undef=ag (some ⟨g,0,none⟩))(ht:fg w g cs 88):
  (results fn tmps).run prog w=.ok (.tuple #[ai cs,tmps.getD u undef]) w:=by
 have ad:tmps[p]?.getD undef=ag (some ⟨g,0,none⟩):=by simpa using hp
 have hl:=run_loadVar_row (P:=prog) w g 88 88 cs (0,0) _ ht underlying88 rfl (by rw[hs];exact rv)
 simp[results,h,ad,asAddr,hl]
def uD(s h m:Int):Int:=if iI s h m=false then 8 else 0
def pD(s h m:Int)(z:Bool):fF:=if iI s h m=false then gO 0 0 0 false else gO s h m z
theorem TH(A:Option aw)(n c:Nat)(k:Int):prog.built 62 [(0,af A n c),(1,ae ak k)]=some #[af A n c,ae ak k]:=by kernel_rfl
def yJ(base:Nat)(A:Option aw)(n:Nat):Prop:=∀g o,0<n->A=some ⟨g,o,none⟩->base<=g
def CJ(cs:Array ay):Prop:=∀(i:Nat) (x:Int),cs[i]?≠some (ae .u8 x)
theorem TI{V:au}{B g n b o:Nat}{A:Option aw}{f:Nat->Nat}{cs:Array ay}{t:aC}(h:fB V B A n f)(hg:fg V g cs t)(hn:CJ cs)(h0:0<n)(e:A=some ⟨b,o,none⟩):b≠g:=fun hb=>by
 obtain⟨b',o',e',_,hc⟩:=h.2 h0;rw[e]at e';injection e' with e'
 injection e' with e1 e2 _
 have h1:=hc 0 h0;rw[<-e1,hb,hg.cell]at h1;exact hn _ _ h1
theorem JQ{k kind:Nat}{raw:List Nat}{l:List fi}{last:Bool}(hk:kind<=2)(ah:k<=7)(hr:raw.length<=65535)(hb:iA raw)(hl:l.length<=65535)(ad:∀t∈l,fH t=true/\t.x<256):k+UQ (gp (k%8) kind raw.length (fc raw) l last)<=4320007:=by
 have:=xh (a:=k%8) (last:=last) hk hr (jz hb) hl ad;omega
theorem JR(j:Nat):fc [] j<256:=jz (L:=[]) (fun x hx=>by cases hx) j
def oo(s h m:Int)(n:Nat):Int:=if iI s h m=false then 8 else if 131072<n then 4 else 0
def JS:Prop:=∀(w:au) (s h m:Int) (z:Bool),ax prog 38 #[ai #[ae ak s,ae ak h,ae ak m,aj z]] w fun e w'=>∃Ah hc Aw wc Ap pc,e=aq (.tuple #[ai (l9 (pD s h m z) Ah hc Aw wc Ap pc),ae ak (uD s h m)])/\pS w' w'.heap.size (pD s h m z) Ah hc Aw wc Ap pc/\aS w.heap.size w w'
def JT:Prop:=∀(w:au) (s h m:Int) (z:Bool) (Ab:Option aw) (bc:Nat) (b:List Nat),fq w w.heap.size Ab b.length bc (fc b)->b.length<=1000000->
 ax prog 20 #[ai #[ae ak s,ae ak h,ae ak m,aj z],af Ab b.length bc] w fun e w'=>∃Ao on oc,e=aq (.tuple #[af Ao on oc,ae ak (oo s h m b.length)])/\on=(if oo s h m b.length=0 then lg s h m z b else[]).length/\fq w' w'.heap.size Ao on oc (fc (if oo s h m b.length=0 then lg s h m z b else[]))/\aS w.heap.size w w'
def lG(p:fF)(kind n:Nat)(l:List fi)(last:Bool):fF×List Nat:=
 ({(sr p (jw p.fp p.k.toNat kind (p.wait.take n) l last) (p.wait.take n)).1 with wait:=p.wait.drop n},(sr p (jw p.fp p.k.toNat kind (p.wait.take n) l last) (p.wait.take n)).2)
theorem sV{l:List Nat}(h:iA l)(n:Nat):iA (l.take n):=fun x hx=>h x (List.mem_of_mem_take hx)
theorem TJ{l:List Nat}(h:iA l)(n:Nat):iA (l.drop n):=fun x hx=>h x (List.mem_of_mem_drop hx)
structure kG (p:fF):Prop where
 jS:iI p.s p.h p.m=true
 hist:(p.hist.length:Int)<=p.s
 k0:0<=p.k
 k7:p.k<=7
 len:p.fp.length=(p.k.toNat+7)/8
 clean:Ve (fc p.fp) p.k.toNat
 jg:p.jg=false
 bh:iA p.hist
 bw:iA p.wait
theorem kA.w{p:fF}(g:kA p):kG p:=⟨g.jS,g.hist,g.k0,g.k7,g.len,g.clean,g.jg,g.bh,g.bw⟩
theorem kG.empty{p:fF}(g:kG p):kA {p with wait:=[]}:=⟨g.jS,g.hist,(by have:=kz g.jS;show((0:Nat):Int)<p.m;omega),g.k0,g.k7,g.len,g.clean,g.jg,g.bh,fun x hx=>by cases hx⟩
theorem kG.set{p:fF}(g:kG p){b:List Nat}(hb:iA b):kG {p with wait:=b}:=⟨g.jS,g.hist,g.k0,g.k7,g.len,g.clean,g.jg,g.bh,hb⟩
theorem JU{p:fF}(g:kG p)(kind n:Nat)(l:List fi)(last:Bool):kG (lG p kind n l last).1:=by
 have h:=Fm g.empty (vB g.clean kind (p.wait.take n) l last) (su ..) (sV g.bw n) (w:=[]) (fun x hx=>by cases hx) (by have:=kz g.jS;show((0:Nat):Int)<p.m;omega);exact h.w.set (TJ g.bw n)
theorem JV(p:fF)(raw:List Nat)(n:Nat)(hw:p.wait.take n=raw):lG p (jm p raw) n (gA p raw) false=({(iJ p raw).1 with wait:=p.wait.drop n},(iJ p raw).2):=by
 unfold lG;rw[hw];rfl
theorem TK{p:fF}{N:Nat}(hm:iI p.s p.h p.m=true)(hN:p.wait.length<=N)(h:p.m.toNat<=p.wait.length):
  Va N p p.wait=((Va N (lG p (jm p (p.wait.take p.m.toNat)) p.m.toNat (gA p (p.wait.take p.m.toNat)) false).1 (p.wait.drop p.m.toNat)).1,(lG p (jm p (p.wait.take p.m.toNat)) p.m.toNat (gA p (p.wait.take p.m.toNat)) false).2++(Va N (lG p (jm p (p.wait.take p.m.toNat)) p.m.toNat (gA p (p.wait.take p.m.toNat)) false).1 (p.wait.drop p.m.toNat)).2):=by
 have hs:=kz hm
 rw[JV p _ _ rfl]
 obtain⟨M,rfl⟩:∃M,N=M+1:=⟨N-1,by omega⟩
 have e:Va (M+1) ({(iJ p (p.wait.take p.m.toNat)).1 with wait:=p.wait.drop p.m.toNat}) (p.wait.drop p.m.toNat)=Va M (iJ p (p.wait.take p.m.toNat)).1 (p.wait.drop p.m.toNat):=by
  rw[xJ];exact Fw _ _ _ _ hm (by rw[List.length_drop];omega) (by rw[List.length_drop];omega)
 show _=((Va (M+1) _ _).1,_++(Va (M+1) _ _).2)
 rw[e]
 simp only[Va]
 rw[if_pos h]
theorem TM{p:fF}{N:Nat}(h:¬p.m.toNat<=p.wait.length):Va N p p.wait=(p,[]):=by
 cases N with
 |zero=>rfl
 |succ N=>simp only[Va];rw[if_neg h]
theorem TN{p:fF}(g:kG p){raw:List Nat}{n:Nat}(hw:p.wait.take n=raw):(lG p (jm p raw) n (gA p raw) false).2.length<=6+raw.length:=by
 rw[JV p raw n hw];have h:=Ft (p:={p with wait:=[]}) g.empty raw;have h7:=g.k7;have h2:(iJ p raw).2.length+((iJ p raw).1.k.toNat+7)/8<=(p.k.toNat+7)/8+5+raw.length:=h;show(iJ p raw).2.length<=_
 omega
theorem TO{p:fF}(q:fF×List Nat)(hq:q=lG p (jm p p.wait) p.wait.length (gA p p.wait) true):jY p=({q.1 with fp:=[],k:=0,jg:=true},q.2++q.1.fp):=by
 rw[hq];unfold lG;rw[List.take_length,List.drop_length];obtain⟨E,hE⟩:=fb (jw p.fp p.k.toNat (jm p p.wait) p.wait (gA p p.wait) true);have he:mG p=(E.1,8*E.1.length):=by unfold mG;rw[<-hE]
 unfold jY;rw[he,<-hE];unfold sr;show({p with hist:=_,fp:=E.1.drop (8*E.1.length/8),k:=((8*E.1.length%8:Nat):Int),wait:=[],jg:=true},E.1.take (8*E.1.length/8))=({p with hist:=_,wait:=[],fp:=[],k:=0,jg:=true},E.1.take (E.2/8)++E.1.drop (E.2/8))
 rw[show 8*E.1.length/8=E.1.length by omega,List.drop_length,List.take_length,List.take_append_drop,show 8*E.1.length%8=0 by omega];rfl
def jn(p:fF)(Ah:Option aw)(hc:Nat)(Aw:Option aw)(wc:Nat)(Ap:Option aw)(pc:Nat)(Ao:Option aw)(on oc:Nat):Array ay:=
 #[ae ak p.s,ae ak p.h,ae ak p.m,aj p.z,af Ah p.hist.length hc,af Aw p.wait.length wc,af Ap p.fp.length pc,ae ak p.k,aj p.jg,af Ao on oc]
theorem CK(p:fF)(Ah:Option aw)(hc:Nat)(Aw:Option aw)(wc:Nat)(Ap:Option aw)(pc:Nat)(Ao:Option aw)(on oc:Nat):CJ (jn p Ah hc Aw wc Ap pc Ao on oc):=fun i x=>by
 unfold jn;rcases i with _|_|_|_|_|_|_|_|_|_|i<;>simp
def jJ(A:Option aw)(n:Nat)(v:ay):Prop:=∀b o,0<n->A=some ⟨b,o,none⟩->v.ownBlock≠some b
structure gB (w:au) (B g:Nat) (p:fF) (out:List Nat) (Ah:Option aw) (hc:Nat) (Aw:Option aw) (wc:Nat) (Ap:Option aw) (pc:Nat) (Ao:Option aw) (oc:Nat):Prop where
 box:fg w g (jn p Ah hc Aw wc Ap pc Ao out.length oc) 94
 le:B<=g
 row:fq w w.heap.size Ah (p.hist.length+p.wait.length) hc (fc (p.hist++p.wait))
 wait:fq w w.heap.size Aw p.wait.length wc (fc p.wait)
 fp:fq w w.heap.size Ap p.fp.length pc (fc p.fp)
 own:w.ownsRow B 5 1 (af Ao out.length oc) out.length (ft out.length (fc out))
 bo:iA out
 nr:jJ Ah (p.hist.length+p.wait.length) (af Ao out.length oc)
 nw:jJ Aw p.wait.length (af Ao out.length oc)
 np:jJ Ap p.fp.length (af Ao out.length oc)
section
variable {w w':au} {B g:Nat} {p p':fF} {out:List Nat} {Ah:Option aw} {hc:Nat} {Aw:Option aw} {wc:Nat} {Ap:Option aw} {pc:Nat} {Ao:Option aw} {oc:Nat}
theorem gB.lt(U:gB w B g p out Ah hc Aw wc Ap pc Ao oc):g<w.heap.size:=U.box.lt
theorem gB.below(U:gB w B g p out Ah hc Aw wc Ap pc Ao oc)(hb:aS w.heap.size w w'):gB w' B g p out Ah hc Aw wc Ap pc Ao oc:=
 ⟨U.box.below hb U.lt,U.le,(U.row.below hb fe).more hb.size,(U.wait.below hb fe).more hb.size,(U.fp.below hb fe).more hb.size,mW U.own hb,U.bo,U.nr,U.nw,U.np⟩
theorem gB.ne(U:gB w B g p out Ah hc Aw wc Ap pc Ao oc):(Value.slice Ao out.length oc).ownBlock≠some g:=me U.own U.box (by kernel_rfl)
theorem fq.off{B0 n c:Nat}{A:Option aw}{f:Nat->Nat}{cs:Array ay}{t:aC}(h:fq w B0 A n c f)(hg:fg w g cs t)(hn:CJ cs)(ho:∀j,j≠g->w'.heap[j]?=w.heap[j]?):fq w' B0 A n c f:=by
 refine⟨⟨h.1.1,fun h0=>?_⟩,h.2⟩;obtain⟨b,o,e,hb,ad⟩:=h.1.2 h0;have ah:=TI h.1 hg hn h0 e;refine⟨b,o,e,hb,fun j hj=>?_⟩;have h1:=ad j hj;have h2:=ho b ah;simp only[World.cell?,h2]at h1⊢;exact h1
theorem gB.put(U:gB w B g p out Ah hc Aw wc Ap pc Ao oc){ad:Option aw}{av:Nat}{ah:Option aw}{aT:Nat}{al:Option aw}{aU:Nat}(hs:w'.heap.size=w.heap.size)(ho:∀j,j≠g->w'.heap[j]?=w.heap[j]?)(hx:fg w' g (jn p' ad av ah aT al aU Ao out.length oc) 94)
  (r1:fq w w.heap.size ad (p'.hist.length+p'.wait.length) av (fc (p'.hist++p'.wait))) (r2:fq w w.heap.size ah p'.wait.length aT (fc p'.wait)) (r3:fq w w.heap.size al p'.fp.length aU (fc p'.fp))
  (n1:jJ ad (p'.hist.length+p'.wait.length) (af Ao out.length oc)) (n2:jJ ah p'.wait.length (af Ao out.length oc)) (n3:jJ al p'.fp.length (af Ao out.length oc)):gB w' B g p' out ad av ah aT al aU Ao oc:=by
 have k:∀{A:Option aw} {n c:Nat} {f:Nat->Nat},fq w w.heap.size A n c f->fq w' w'.heap.size A n c f:=fun r=>by rw[hs];exact r.off U.box (CK _ _ _ _ _ _ _ _ _ _) ho
 exact⟨hx,U.le,k r1,k r2,k r3,iB U.own fun j hj=>ho j fun e=>U.ne (by rw[hj,e]),U.bo,n1,n2,n3⟩
theorem gB.TP(U:gB w B g p out Ah hc Aw wc Ap pc Ao oc){ad:Option aw}{av:Nat}{ah:Option aw}{aT:Nat}{al:Option aw}{aU:Nat}(i:Nat)(v:ay)(he:(jn p Ah hc Aw wc Ap pc Ao out.length oc).setIfInBounds i v=jn p' ad av ah aT al aU Ao out.length oc)
  (r1:fq w w.heap.size ad (p'.hist.length+p'.wait.length) av (fc (p'.hist++p'.wait))) (r2:fq w w.heap.size ah p'.wait.length aT (fc p'.wait)) (r3:fq w w.heap.size al p'.fp.length aU (fc p'.fp))
  (n1:jJ ad (p'.hist.length+p'.wait.length) (af Ao out.length oc)) (n2:jJ ah p'.wait.length (af Ao out.length oc)) (n3:jJ al p'.fp.length (af Ao out.length oc)):gB (w.setCell ⟨g,i,none⟩ v) B g p' out ad av ah aT al aU Ao oc:=
 U.put (by simp[World.setCell]) (fun j hj=>Below.heap_setCell w _ v j hj) (he▸U.box.set i v) r1 r2 r3 n1 n2 n3
theorem gB.yK(U:gB w B g p out Ah hc Aw wc Ap pc Ao oc){ad:Option aw}{av:Nat}{ah:Option aw}{aT:Nat}{al:Option aw}{aU:Nat}(i j:Nat)(v u:ay)(he:((jn p Ah hc Aw wc Ap pc Ao out.length oc).setIfInBounds i v).setIfInBounds j u=jn p' ad av ah aT al aU Ao out.length oc)
  (r1:fq w w.heap.size ad (p'.hist.length+p'.wait.length) av (fc (p'.hist++p'.wait))) (r2:fq w w.heap.size ah p'.wait.length aT (fc p'.wait)) (r3:fq w w.heap.size al p'.fp.length aU (fc p'.fp))
  (n1:jJ ad (p'.hist.length+p'.wait.length) (af Ao out.length oc)) (n2:jJ ah p'.wait.length (af Ao out.length oc)) (n3:jJ al p'.fp.length (af Ao out.length oc)):gB ((w.setCell ⟨g,i,none⟩ v).setCell ⟨g,j,none⟩ u) B g p' out ad av ah aT al aU Ao oc:=
 U.put (by simp[World.setCell]) (fun k hk=>(Below.heap_setCell _ _ u k hk).trans (Below.heap_setCell w _ v k hk)) (he▸(U.box.set i v).set j u) r1 r2 r3 n1 n2 n3
theorem gB.grown(U:gB w B g p out Ah hc Aw wc Ap pc Ao oc){qf:Option aw}{qg:Nat}{more:List Nat}(hm:iA more)(ho:w'.ownsRow B 5 1 (af qf (out++more).length qg) (out++more).length (ft (out++more).length (fc (out++more))))(hs:w.heap.size<=w'.heap.size)
  (hk:∀k,k<w.heap.size->(Value.slice Ao out.length oc).ownBlock≠some k->w'.heap[k]?=w.heap[k]?) (hw:∀j,(Value.slice qf (out++more).length qg).ownBlock=some j->(Value.slice Ao out.length oc).ownBlock=some j\/w.heap.size<=j):
  gB (w'.setCell ⟨g,9,none⟩ (af qf (out++more).length qg)) B g p (out++more) Ah hc Aw wc Ap pc qf qg:=by
 have hg:fg w' g (jn p Ah hc Aw wc Ap pc Ao out.length oc) 94:=(hk g U.lt U.ne).trans U.box
 have ah:(Value.slice qf (out++more).length qg).ownBlock≠some g:=me ho hg (by kernel_rfl)
 have k:∀{A:Option aw} {n c:Nat} {f:Nat->Nat},fq w w.heap.size A n c f->jJ A n (af Ao out.length oc)->fq (w'.setCell ⟨g,9,none⟩ (af qf (out++more).length qg)) (w'.setCell ⟨g,9,none⟩ (af qf (out++more).length qg)).heap.size A n c f:=fun{A n c f} r nr=>by
  have r':fq w' w'.heap.size A n c f:=⟨⟨r.1.1,fun h0=>by
   obtain⟨b,o,e,hb,ad⟩:=r.1.2 h0;refine⟨b,o,e,by omega,fun j hj=>?_⟩;have h1:=ad j hj;have h2:=hk b hb (nr b o h0 e);simp only[World.cell?,h2]at h1⊢;exact h1⟩,r.2⟩
  have e:(w'.setCell ⟨g,9,none⟩ (af qf (out++more).length qg)).heap.size=w'.heap.size:=by simp[World.setCell]
  rw[e];exact r'.off hg (CK _ _ _ _ _ _ _ _ _ _) (fun j hj=>Below.heap_setCell w' _ _ j hj)
 have q:∀{A:Option aw} {n c:Nat} {f:Nat->Nat},fq w w.heap.size A n c f->jJ A n (af Ao out.length oc)->jJ A n (af qf (out++more).length qg):=fun{A n c f} r nr b o h0 e hx=>by
  obtain⟨b',o',e',hb,_⟩:=r.1.2 h0;rw[e]at e';injection e' with e'
  injection e' with e1 _ _
  rcases hw b hx with h|h
  ·exact nr b o h0 e h
  ·omega
 exact⟨hg.set 9 _,U.le,k U.row U.nr,k U.wait U.nw,k U.fp U.np,iB ho fun j hj=>Below.heap_setCell w' _ _ j fun e=>ah (by rw[hj,e]),fun x hx=>(List.mem_append.1 hx).elim (U.bo x) (hm x),q U.row U.nr,q U.wait U.nw,q U.fp U.np⟩
end
theorem fq.from{w:au}{B n c q:Nat}{A A2:Option aw}{L:List Nat}(h:fq w B A n c (fc L))(hq:q<=n)(hA:(if c=q then A else A.map (·.add q))=A2):fq w B A2 (n-q) (c-q) (fc (L.drop q)):=by
 have ef:fc (L.drop q)=fun j=>fc L (j+q):=funext fun j=>vA L q j
 rw[ef];rcases A with _|a
 ·have h0:=h.2.1 rfl;have hn:n=0:=by have:=h.2.2.1;omega
  have:A2=none:=by rw[<-hA];split<;>rfl
  subst this;exact⟨⟨fun j=>h.1.1 _,fun h=>absurd h (by omega)⟩,fun _=>by omega,by omega,by have:=h.2.2.2;omega⟩
 ·exact h.drop hq hA
theorem jJ.from{n c q:Nat}{A A2:Option aw}{v:ay}(h:jJ A n v)(hq:q<=n)(hA:(if c=q then A else A.map (·.add q))=A2)(hr:0<n->∃b o,A=some ⟨b,o,none⟩):jJ A2 (n-q) v:=fun b o h0 e hx=>by
 obtain⟨b',o',e'⟩:=hr (by omega);have hb:b=b':=by
  rw[<-hA]at e;split at e
  ·rw[e']at e;injection e with e;injection e with e1 _ _;exact e1.symm
  ·rw[e']at e;have:(some ((⟨b',o',none⟩:aw).add q))=some (⟨b,o,none⟩:aw):=e;injection this with this
   have:=congrArg Addr.block this;unfold Addr.add at this;split at this<;>simpa using this.symm
 subst hb;exact h b o' (by omega) e' hx
theorem fq.at{w:au}{B n c:Nat}{A:Option aw}{f:Nat->Nat}(h:fq w B A n c f)(h0:0<n):∃b o,A=some ⟨b,o,none⟩:=by
 obtain⟨b,o,e,_,_⟩:=h.1.2 h0;exact⟨b,o,e⟩
theorem TQ(p:fF)(Ah:Option aw)(hc:Nat)(Aw:Option aw)(wc:Nat)(Ap:Option aw)(pc:Nat):prog.built 94 [(0,ai (l9 p Ah hc Aw wc Ap pc))]=some (jn p Ah hc Aw wc Ap pc none 0 0):=by kernel_rfl
def trN(a b c:Nat):Nat->Nat
 |0=>a
 |1=>b
 |_=>c
def CL(f g h:Nat->Nat):Nat->Nat->Nat
 |0=>f
 |1=>g
 |_=>h
theorem JW(a b c:Nat):Vg (trN a b c) 3=a+b+c:=by simp[Vg,trN]
theorem TR(x y z:List Nat):Vy (trN x.length y.length z.length) (CL (fc x) (fc y) (fc z)) 3=fc (x++(y++z)):=by
 funext j;rw[oG];show cat (cat (cat (fun _=>0) 0 (fc x)) (0+x.length) (fc y)) (0+x.length+y.length) (fc z) j=cat (fc x) x.length (fc (y++z)) j
 unfold cat;rw[show fc (y++z) (j-x.length)=cat (fc y) y.length (fc z) (j-x.length)from oG y z _];unfold cat;by_cases h1:j<x.length
 ·rw[if_pos (by omega),if_pos (by omega),if_neg (by omega),if_pos h1];rfl
 ·by_cases h2:j-x.length<y.length
  ·rw[if_pos (by omega),if_neg (by omega),if_neg h1];show fc y (j-(0+x.length))=(if j-x.length<y.length then fc y (j-x.length)else _)
   rw[if_pos h2,Nat.zero_add]
  ·rw[if_neg (by omega),if_neg h1];show fc z (j-(0+x.length+y.length))=(if j-x.length<y.length then _ else fc z (j-x.length-y.length))
   rw[if_neg h2,show j-(0+x.length+y.length)=j-x.length-y.length by omega]
theorem TS(w:au)(p:fF)(Ah:Option aw)(hc:Nat)(Aw:Option aw)(wc:Nat)(Ap:Option aw)(pc:Nat)(hp:pS w w.heap.size p Ah hc Aw wc Ap pc)(Ab:Option aw)(bc:Nat)(b:List Nat)(hb:fq w w.heap.size Ab b.length bc (fc b))(h1:p.hist.length<=1000000)(h2:p.wait.length<=1000000)(h3:b.length<=1000000):
  ax prog 39 #[ai (l9 p Ah hc Aw wc Ap pc),af Ab b.length bc] w fun e w'=>∃g bx bz bA bB,e=aq (ag (some ⟨g,0,none⟩))/\gB w' w.heap.size g {p with wait:=p.wait++b} [] bx bz bA bB Ap pc none 0/\aS w.heap.size w w':=by
 obtain⟨h,hh⟩:=fb (w.heap.size)
 obtain⟨X,hX⟩:=fb (l9 p Ah hc Aw wc Ap pc)
 obtain⟨Y,hY⟩:=fb (jn p Ah hc Aw wc Ap pc none 0 0)
 have a4:=TQ p Ah hc Aw wc Ap pc
 rw[<-hX,<-hY]at a4
 obtain⟨hn,al⟩:=fb (p.hist.length)
 obtain⟨wn,aT⟩:=fb (p.wait.length)
 obtain⟨bn,aV⟩:=fb (b.length)
 have a1:X=#[ae ak p.s,ae ak p.h,ae ak p.m,aj p.z,af Ah hn hc,af Aw wn wc,af Ap p.fp.length pc,ae ak p.k,aj p.jg]:=by rw[hX,al,aT];rfl
 have a5:Y=#[ae ak p.s,ae ak p.h,ae ak p.m,aj p.z,af Ah hn hc,af Aw wn wc,af Ap p.fp.length pc,ae ak p.k,aj p.jg,af none 0 0]:=by rw[hY,al,aT];rfl
 rw[<-hX]
 obtain⟨W1,aW⟩:=fb (w.alloc (ao X 88))
 obtain⟨W2,aU⟩:=fb (W1.alloc (ao Y 94))
 have s1:W1.heap.size=h+1:=by rw[aW,World.size_alloc,hh]
 have b1:aS h w W1:=by rw[aW,hh];exact fz.alloc fe _
 have b2:aS h w W2:=by rw[aU];exact b1.alloc (by rw[s1];omega) _
 have x1:fg W1 h X 88:=by rw[aW,hh];exact fg.new w _ _
 have x2:fg W2 h X 88:=by rw[aU];exact x1.old _
 have y2:fg W2 (h+1) Y 94:=by rw[aU,<-s1];exact fg.new W1 _ _
 have s2:W2.heap.size=h+2:=by rw[aU,World.size_alloc,s1]
 obtain⟨W3,av⟩:=fb (W2.alloc (ao #[af Ah hn hc,af Aw wn wc,af Ab bn bc] 22))
 have s3:W3.heap.size=h+3:=by rw[av,World.size_alloc,s2]
 have b3:aS h w W3:=by rw[av];exact b2.alloc (by rw[s2];omega) _
 have x3:fg W3 h X 88:=by rw[av];exact x2.old _
 have y3:fg W3 (h+1) Y 94:=by rw[av];exact y2.old _
 have z3:fg W3 (h+2) #[af Ah hn hc,af Aw wn wc,af Ab bn bc] 22:=by rw[av,<-s2];exact fg.new W2 _ _
 have rd:∀{V:au},aS h w V->∀{A:Option aw} {n c:Nat} {f:Nat->Nat},fq w w.heap.size A n c f->fq V V.heap.size A n c f:=fun{V} hV {A n c f} r=>(r.below hV (by omega)).more (by have:=hV.size;omega)
 have aX:VF W3 W3.heap.size (some ⟨h+2,0,none⟩) 3 (trN p.hist.length p.wait.length b.length) (CL (fc p.hist) (fc p.wait) (fc b)):=fun _=>by
  refine⟨h+2,0,rfl,by omega,fun i hi=>?_⟩;rcases i with _|_|_|i
  ·have r:=rd b3 hp.hist;exact⟨Ah,hc,by rw[z3.cell,al];rfl,r.1,r.2.1⟩
  ·have r:=rd b3 hp.wait;exact⟨Aw,wc,by rw[z3.cell,aT];rfl,r.1,r.2.1⟩
  ·have r:=rd b3 hb;exact⟨Ab,bc,by rw[z3.cell,aV];rfl,r.1,r.2.1⟩
  ·omega
 have a8:∀i j,CL (fc p.hist) (fc p.wait) (fc b) i j<256:=fun i j=>by
  rcases i with _|_|i
  ·exact hp.hist.1.1 j
  ·exact hp.wait.1.1 j
  ·exact hb.1.1 j
 have a2:=Lm W3 (some ⟨h+2,0,none⟩) 3 3 (trN p.hist.length p.wait.length b.length) _ a8 aX (by omega) (by rw[JW];omega)
 rw[JW,TR]at a2
 rw[<-al,<-aT,<-aV]at a2
 have a3:aR (∀(V:au) (A A2:Option aw) (c:Nat),aS W3.heap.size W3 V->fq V V.heap.size A (hn+wn+bn) c (fc (p.hist++(p.wait++b)))->(if c=hn then A else A.map (·.add hn))=A2->gB ((V.setCell ⟨h+1,4,none⟩ (af A hn c)).setCell ⟨h+1,5,none⟩ (af A2 (hn+wn+bn-hn) (c-hn))) h (h+1) {p with wait:=p.wait++b} [] A c A2 (c-hn) Ap pc none 0):=fa fun V A A2 c hV r hA2=>by
  have bC:aS h w V:=b3.trans (hV.mono (by omega));have yV:=y3.below hV y3.lt;have hl:(p.wait++b).length=hn+wn+bn-hn:=by rw[List.length_append,<-aT,<-aV];omega
  have e0:(({p with wait:=p.wait++b}:fF).hist++({p with wait:=p.wait++b}:fF).wait)=p.hist++(p.wait++b):=rfl;have nn:∀(A:Option aw) (n:Nat),jJ A n (af none ([]:List Nat).length 0):=fun A n b o _ _ hx=>by simp[Value.ownBlock]at hx
  have sz:((V.setCell ⟨h+1,4,none⟩ (af A hn c)).setCell ⟨h+1,5,none⟩ (af A2 (hn+wn+bn-hn) (c-hn))).heap.size=V.heap.size:=by simp[World.setCell]
  have k:∀{A':Option aw} {n' c':Nat} {f:Nat->Nat},fq V V.heap.size A' n' c' f->fq ((V.setCell ⟨h+1,4,none⟩ (af A hn c)).setCell ⟨h+1,5,none⟩ (af A2 (hn+wn+bn-hn) (c-hn))) ((V.setCell ⟨h+1,4,none⟩ (af A hn c)).setCell ⟨h+1,5,none⟩ (af A2 (hn+wn+bn-hn) (c-hn))).heap.size A' n' c' f:=fun{A' n' c' f} r=>by
   rw[sz];exact r.off (hY▸yV) (CK _ _ _ _ _ _ _ _ _ _) fun j hj=>(Below.heap_setCell _ _ _ j hj).trans (Below.heap_setCell V _ _ j hj)
  refine⟨?_,by omega,?_,?_,?_,World.ownsRow_nil _ _ _ _,(fun x hx=>by cases hx),nn _ _,nn _ _,nn _ _⟩
  ·have a:=(yV.set 4 (af A hn c)).set 5 (af A2 (hn+wn+bn-hn) (c-hn));rw[a5]at a;unfold jn;show fg _ _ #[_,_,_,_,af A p.hist.length c,af A2 (p.wait++b).length (c-hn),_,_,_,_] _
   rw[hl,<-al];exact a
  ·rw[e0];show fq _ _ A (p.hist.length+(p.wait++b).length) c _
   rw[hl,<-al,show hn+(hn+wn+bn-hn)=hn+wn+bn by omega];exact k r
  ·show fq _ _ A2 (p.wait++b).length (c-hn) (fc (p.wait++b))
   rw[hl];have:=r.from (q:=hn) (by omega) hA2
   rw[show(p.hist++(p.wait++b)).drop hn=p.wait++b by rw[al];exact List.drop_left ..]at this;exact k this
  ·show fq _ _ Ap p.fp.length pc (fc p.fp)
   exact k (rd bC hp.fp)
 have a9:=fa aW;have bD:=fa aU;have bE:=fa av;have bF:=fa a2;have bG:=fa x1;have bH:aR (X.size=9):=fa (by rw[hX];rfl);have bI:=fa a4;have HH:=fa hh;have bJ:=fa a1;have bf:=fa a5
 have bg:=fa x3;have bj:=fa y3;have bl:=fa b3;have bq:=fa s3;have bK:=fa s1;have bL:=fa s2
 have c4:W2.cell? ⟨h,4,none⟩=some (af Ah hn hc):=by rw[x2.cell,a1];rfl
 have c5:W2.cell? ⟨h,5,none⟩=some (af Aw wn wc):=by rw[x2.cell,a1];rfl
 rw[<-aV]
 clear hp hb h1 h2 h3 aW aU av hX hY al aT aV a2 a8 aX rd x1 x2 y2 x3 y3 z3 s1 s2 s3 b1 b2 b3 a4 hh a1 a5
 go_enter func39,ntmps39
 go_wp2_with (first
  |(rw[<-a9.out,<-HH.out])
  |(rw[<-a9.out])
  |(refine wpList_load_row rfl _ _ rfl h rfl _ X (0,0) _ bG.out underlying88 rfl (by rw[bH.out];exact rv) ?_)
  |(refine aE rfl 94 #[(0,.tmp 7)] rfl (some 8) rfl Y ?_ ?_;focus(simpa[Act.eval,Act.put]using bI.out))
  |(rw[<-bD.out])
  |(rw[<-bE.out])
  |fail)
 rw[bL.out]
 refine bF.out.mono ?_
 rintro e w4 ⟨A,c,rfl,rA,aY,-⟩
 rw[bK.out]
 have x4:=bg.out.below aY bg.out.lt
 have y4:=bj.out.below aY bj.out.lt
 have q4:w4.cell? ⟨h,4,none⟩=some (af Ah hn hc):=by rw[x4.cell,bJ.out];rfl
 have d4:w4.cell? ⟨h+1,4,none⟩=some (af Ah hn hc):=by rw[y4.cell,bf.out];rfl
 have d5:w4.cell? ⟨h+1,5,none⟩=some (af Aw wn wc):=by rw[y4.cell,bf.out];rfl
 have f4:w4.frozen? ⟨h+1,4,none⟩=false:=y4.free
 have f5:w4.frozen? ⟨h+1,5,none⟩=false:=y4.free
 have bM:=rA.2.2.1
 have bP:(hn:Int)<=(c:Int):=by omega
 have bN:(hn:Int)<=((hn+wn+bn:Nat):Int):=by omega
 obtain⟨T,hT⟩:=fb (hn+wn+bn)
 obtain⟨A2,hA2⟩:∃A2,(if c=hn then A else A.map (·.add hn))=A2:=⟨_,rfl⟩
 have br:=fa (a3.out w4 A A2 c aY rA hA2)
 rw[<-hT]at bN bM⊢
 have HT:=fa hT;have bt:=fa hA2;have bu:=fa aY;have bO:=fa rA
 clear x4 y4 hT hA2 aY rA a3
 rcases A with _|ad
 ·obtain rfl:c=0:=bO.out.2.1 rfl;obtain rfl:T=0:=by omega
  obtain rfl:hn=0:=by omega
  obtain rfl:A2=none:=by rw[<-bt.out];rfl
  obtain⟨W5,ah⟩:=fb ((w4.setCell ⟨h+1,4,none⟩ (af none 0 0)).setCell ⟨h+1,5,none⟩ (af none 0 (0)));have hf:=br.out;rw[<-HT.out,<-ah]at hf;have aZ:aS h w W5:=by rw[ah];exact nD (nD (bl.out.trans (bu.out.mono (by have:=bq.out;omega))) (by omega) _ _) (by omega) _ _
  have HF:=fa (hf.below fz.drew);have a6:=fa aZ.drew;have a7:=fa ah
  clear hf aZ ah;go_wp2_with fail
  go_region;all_goals(
   rw[<-a7.out];go_wp2;go_ret;exact⟨h+1,none,0,none,0,rfl,by rw[<-HH.out];exact HF.out,by rw[<-HH.out];exact a6.out⟩)
 ·have hA3:(if c=hn then(some ad:Option aw)else some (ad.add hn))=A2:=bt.out;obtain⟨W5,ah⟩:=fb ((w4.setCell ⟨h+1,4,none⟩ (af (some ad) hn c)).setCell ⟨h+1,5,none⟩ (af A2 (T-hn) (c-hn)));have hf:=br.out;rw[<-HT.out,<-ah]at hf;have aZ:aS h w W5:=by rw[ah];exact nD (nD (bl.out.trans (bu.out.mono (by have:=bq.out;omega))) (by omega) _ _) (by omega) _ _
  have HF:=fa (hf.below fz.drew);have a6:=fa aZ.drew;have a7:=fa ah
  clear hf aZ ah;go_wp2_with fail
  go_region;all_goals(
   rw[<-a7.out];go_wp2;go_ret;exact⟨h+1,(some ad),c,A2,c-hn,rfl,by rw[<-HH.out];exact HF.out,by rw[<-HH.out];exact a6.out⟩)
theorem lH{P:aA}{l:List aB}{o:aB}{a:Act}{w:au}{T:ay->au->Prop}{K:Act->au->Prop}{Q:Exit->Act->au->Prop}{E:Prop}(hw:Region.wanted o (aN l.toArray a.tmps)=true)(x:Operand)(ho:o.op=.nilCheck x)(ad:aw)(hx:a.eval x=ag (some ad))
  (hT:Up T (ag (some ad)) w) (hK:∀v w',aS w.heap.size w w'->Up T v w'->K (a.put o.dst v) w'):if Region.wanted o (aN l.toArray a.tmps)=true then Oper.wp P o a w K Q else E:=
 oL hw _ (by simp only[execOp,ho,hx];rfl) hT hK
theorem wC{l:List aB}{o:aB}{a:Act}{w:au}{T:ay->au->Prop}{K:Act->au->Prop}{Q:Exit->Act->au->Prop}{E:Prop}(hw:Region.wanted o (aN l.toArray a.tmps)=true)(x:Operand)(t:aC)(ho:o.op=.call {callee:=.builtin .len,args:=#[x],argTypes:=#[t]})(A:Option aw)(n c:Nat)(hx:a.eval x=af A n c)
  {e:aC} (ht:prog.underlying t=some (.slice e)) (hT:Up T (ae ak (n:Int)) w) (hK:∀v w',aS w.heap.size w w'->Up T v w'->K (a.put o.dst v) w'):if Region.wanted o (aN l.toArray a.tmps)=true then Oper.wp prog o a w K Q else E:=
 oL hw _ (by
  have h:(Builtin.len_ #[t] o.type #[af A n c]).run prog w=.ok (goInt n) w:=by
   have he:prog.elem t=e:=by unfold Program.elem;rw[ht]
   exact run_len_slice w t o.type A n c (by rw[he];exact ht)
  simp[execOp,ho,resolve,invoke,builtin,hx,h,Result.andThen,goInt]) hT hK
theorem TT{l:List aB}{o:aB}{a:Act}{w:au}{T:ay->au->Prop}{K:Act->au->Prop}{Q:Exit->Act->au->Prop}{E:Prop}(hw:Region.wanted o (aN l.toArray a.tmps)=true)(x y:Operand)(t t':aC)(ho:o.op=.call {callee:=.builtin .max,args:=#[x,y],argTypes:=#[t,t']})(m n r:Int)(hx:a.eval x=ae ak m)(hy:a.eval y=ae ak n)
  (hr:(if n>m then n else m)=r) (hT:Up T (ae ak r) w) (hK:∀v w',aS w.heap.size w w'->Up T v w'->K (a.put o.dst v) w'):if Region.wanted o (aN l.toArray a.tmps)=true then Oper.wp prog o a w K Q else E:=by
 subst hr
 have h:(Builtin.max_ #[t,t'] o.type #[ae ak m,ae ak n]).run prog w=.ok (ae ak (if n>m then n else m)) w:=by
  exact run_max_int2 ..
 exact oL hw _ (by simp[execOp,ho,resolve,invoke,builtin,hx,hy,h,Result.andThen]) hT hK
theorem CM{w:au}{g:Nat}{cs:Array ay}{t:aC}(h:fg w g cs t)(k:Nat)(l:List ay)(hl:∀i,i<l.length->cs[k+i]?=l[i]?):w.rangeAt g k l:=fun i v hv=>by
 have hi:i<l.length:=by
  rcases Nat.lt_or_ge i l.length with h|h
  ·exact h
  ·rw[List.getElem?_eq_none h]at hv;cases hv
 rw[h.cell,hl i hi];exact hv
theorem TU(P:aA)(t:aC)(x y:Nat)(h:x+y<=9223372036854775807)(w:au):(binOp .add t (ae ak (x:Int)) (ae ak (y:Int))).run P w=.ok (ae ak ((x+y:Nat):Int)) w:=by
 have e:IntKind.i64.wrap ((x:Int)+(y:Int))=((x+y:Nat):Int):=by rw[<-Int.natCast_add];exact wrap_i64 _ h
 simp[binOp,Op.intArith,go_sem,e]
theorem TV(P:aA)(t:aC)(x y:Nat)(hx:x<=4611686018427387904)(hy:y<=4611686018427387904)(w:au):(binOp .sub t (ae ak (x:Int)) (ae ak (y:Int))).run P w=.ok (ae ak ((x:Int)-(y:Int))) w:=by
 have e:IntKind.i64.wrap ((x:Int)-(y:Int))=(x:Int)-(y:Int):=by
  show(let m:=((x:Int)-(y:Int))%(2^64:Int);if(true&&decide (m≥(2^63:Int)))=true then m-(2^64:Int)else m)=_
  have h1:(2:Int)^64=18446744073709551616:=rfl;have h2:(2:Int)^63=9223372036854775808:=rfl;simp only[h1,h2,Bool.true_and,decide_eq_true_eq];omega
 simp[binOp,Op.intArith,go_sem,e]
def CN(l:List aB)(F:List Nat)(n:Nat):Bool:=(List.range n).all fun i=>F.contains i||(List.range (n+1)).any fun j=>decide (i<j)&& !F.contains j&&Region.waitsFor .any l.toArray j i
theorem TW{l:List aB}{F:List Nat}{n:Nat}{fj:Array Bool}(hs:CN l F n=true)(hc:Region.chainB .any l.toArray n=true)(hn:n<l.length)(inv:HeadInv .any l.toArray n fj){i:Nat}(hi:i<n)(av:i∉F)(hu:fj.getD i true=false):
  ∀t,n<=t->t∉Region.ready .any l.toArray fj:=by
 have a1:fj.size=l.length:=by rw[inv.size];simp
 have key:∀(d i:Nat),d=n-i->i<=n->i∉F->fj.getD i true=false->n∈Region.ready .any l.toArray fj->i=n:=by
  intro d;induction d using Nat.strongRecOn with
  |_ d ih=>
   intro i hd hi av hu hr;rcases Nat.eq_or_lt_of_le hi with e|hi
   ·exact e
   ·exfalso;have h1:=List.all_eq_true.1 hs i (List.mem_range.2 hi);simp only[Bool.or_eq_true]at h1;rcases h1 with h1|h1
    ·exact av (by simpa using h1)
    ·obtain⟨j,hj,aT⟩:=List.any_eq_true.1 h1;simp only[Bool.and_eq_true,decide_eq_true_eq,Bool.not_eq_true',List.contains_eq_mem,decide_eq_false_iff_not]at aT;obtain⟨oj,aU,e,he,hb,al⟩:=Region.waitsFor_spec aT.2;have aW:j<=n:=by have:=List.mem_range.1 hj;omega
     cases hl:fj.getD j false with
     |true=>
      have h2:=inv.closed j oj aU hl e he hb;rw[al,getD_both hu]at h2;cases h2
     |false=>
      have aX:=ih (n-j) (by omega) j rfl aW aT.1.2 (getD_in (by omega) hl) hr;subst aX;obtain⟨_,ot,ad,ah⟩:=mem_ready.1 hr;rw[aU]at ad;cases ad;have h2:=ah e he hb;rw[al,getD_both hu]at h2;cases h2
 intro t ht hr
 by_cases aY:t=n
 ·subst aY;have:=key (t-i) i rfl (by omega) av hu hr;omega
 ·obtain⟨_,ot,ad,ah⟩:=mem_ready.1 hr;have aZ:t<l.length:=by have:=(Array.getElem?_eq_some_iff.1 ad).1;simpa using this
  have h1:=List.all_eq_true.1 hc t (List.mem_range.2 (by simpa using aZ));simp only[Bool.or_eq_true,decide_eq_true_eq]at h1;rcases h1 with h1|h1
  ·omega
  ·obtain⟨o',aV,e,he,hb,al⟩:=Region.waitsFor_spec h1;rw[ad]at aV;cases aV;have h2:=ah e he hb;rw[al,getD_both (inv.tail (t-1) (by omega) (by simp;omega))]at h2;cases h2
def JX(P:aA)(l:List aB)(T:Nat->ay->au->Prop)(a0:Act)(U:au)(Q:Exit->Act->au->Prop)(i0:Nat):Prop:=
 ∃o0 d0,l[i0]?=some o0/\o0.guard=none/\o0.dst=some d0/\(∀v c a w,Q (.panic c) (a.put o0.dst v) w->Q (.panic c) a w)/\
  ∀(a:Act) (w:au),aS U.heap.size U w->(∀s,nG l s=true->a.eval (.tmp s)=a0.eval (.tmp s))->(∀j d,Region.waitsFor .any l.toArray i0 j=true->(l[j]?).bind (·.dst)=some d->Up (T j) (a.eval (.tmp d)) w)->∃v,(∀w',(execOp a.eval o0).run P w'=.ok (.value v) w')/\Up (T i0) v w
theorem TY{P:aA}{Q:Exit->Act->au->Prop}{a0:Act}{U:au}{l:List aB}{T:Nat->ay->au->Prop}{n:Nat}{F:List Nat}(bG:∀i∈F,i<n)(hn:n<l.length)(hs:CN l F n=true)(a7:∀i∈F,wj l i=true)(bq:Region.noSelect l.toArray=true)(hF:∀i∈F,JX P l T a0 U Q i)
   (hc:Region.chainB .any l.toArray n=true)
  (br:Region.seqB .any l.toArray (l.length-n) n (jW n (l.length-n))=true) (hB:Vs l a0.tmps.size=true) (a8:fk P l T a0 U 0 (l.take n))
  (bt:∀fj a w,rG l T a0 U fj a w->(∀i,i<n->fj.getD i false=true)->(∀i,n<=i->i<l.length->fj.getD i true=false)->wpList P l.toArray Q (l.drop n) a w):
  ∀(f:Nat) (fj:Array Bool) (a:Act) (w:au),((List.range n).filter fun i=> !fj.getD i false).length=f->rG l T a0 U fj a w->HeadInv .any l.toArray n fj->wpAny P .any l.toArray Q (f+(l.length-n)) fj a w:=by
 have bu:=hB
 simp only[Vs,Bool.and_eq_true,decide_eq_true_eq]at bu
 obtain⟨⟨bx,bz⟩,a5⟩:=bu
 intro f
 induction f with
 |zero=>
  intro fj a w hf inv hi;have bA:∀i,i<n->fj.getD i false=true:=fun i hi=>by
   have h0:=List.length_eq_zero_iff.1 hf;have h1:=List.filter_eq_nil_iff.1 h0 i (List.mem_range.2 hi);simpa using h1
  have hk:=bt fj a w inv bA (fun i h1 h2=>hi.tail i h1 (by simpa using h2));have he:=xc (n:=n) (g:=l.length-n) (fj:=fj) (by rw[inv.size];omega) (fun i h=>by
   have h1:=bA i h;cases h2:fj.getD i true with
   |true=>rfl
   |false=>rw[getD_both h2]at h1;cases h1) (fun t ht bZ=>hi.tail t ht (by simp;omega))
  subst he;have h3:=wpAny_of_seq (P:=P) (md:=.any) (Q':=Q) (l.drop n) n (jW n (l.length-n)) a w (fun j=>by simp[List.getElem?_drop]) (by rw[List.length_drop];exact br) hk;rw[List.length_drop]at h3;rw[Nat.zero_add];exact h3
 |succ f ih=>
  intro fj a w hf inv hi;rw[show f+1+(l.length-n)=(f+(l.length-n))+1 by omega];obtain⟨x,a9,aW⟩:∃x,x<n/\fj.getD x false=false:=by
   have:0<((List.range n).filter fun i=> !fj.getD i false).length:=by omega
   obtain⟨x,hx⟩:=List.exists_mem_of_length_pos this;obtain⟨h1,h2⟩:=List.mem_filter.1 hx;exact⟨x,List.mem_range.1 h1,by simpa using h2⟩
  by_cases bB:∃i0,i0∈F/\i0∈Region.ready .any l.toArray fj
  ·obtain⟨i0,aX,bf⟩:=bB;have a6:=bG i0 aX;have a7:=a7 i0 aX;obtain⟨o0,d0,bC,bH,a2,bI,bJ⟩:=hF i0 aX;obtain⟨h0,o,ho,ah⟩:=mem_ready.1 bf;have ad:l[i0]?=some o:=by simpa using ho
   have bK:o=o0:=by rw[bC]at ad;exact(Option.some.inj ad).symm
   subst bK;have aY:i0<l.length:=(List.getElem?_eq_some_iff.1 ad).1;have aU:∀s,nG l s=true->a.eval (.tmp s)=a0.eval (.tmp s):=fun s hs=>by
    show a.tmps.getD s undef=a0.tmps.getD s undef
    rw[Array.getD_eq_getD_getElem?,Array.getD_eq_getD_getElem?,inv.off s (fun _ _ _ hd=>sQ hs hd)]
   have aT:∀j d,Region.waitsFor .any l.toArray i0 j=true->(l[j]?).bind (·.dst)=some d->Up (T j) (a.eval (.tmp d)) w:=fun j d hw hd=>by
    obtain⟨ok,al,e,he,hb,aV⟩:=Region.waitsFor_spec hw;rw[ho]at al;cases al;exact inv.told j d (by have:=ah e he hb;rwa[aV]at this) hd
   obtain⟨v,bL,bM⟩:=bJ a w inv.below aU aT;have aZ:d0<a.tmps.size:=by
    have h1:=List.all_eq_true.1 bz o (List.mem_of_getElem? ad);simp only[a2,decide_eq_true_eq]at h1;rw[inv.tmps];exact h1
   refine wpAny_first (oi:=o) (v:=v) ho (Region.noSelect_spec bq) (bI v) (f+(l.length-n)) fj a w (fun j oj hj a1 bN bg=>?_) bf (.inl ⟨by simp[Region.wanted,bH],bL⟩) ?_
   ·have bO:j<l.length:=by have:=(Array.getElem?_eq_some_iff.1 hj).1;simpa using this
    have h1:=List.all_eq_true.1 a7 j (List.mem_range.2 bO);have bP:l[j]?=some oj:=by simpa using hj
    simp only[bC,bP,Bool.or_eq_true,beq_iff_eq]at h1;rcases h1 with((h1|h1)|h1)|h1
    ·exact absurd h1 a1
    ·obtain⟨ok,al,e,he,hb,aV⟩:=Region.waitsFor_spec h1;rw[ho]at al;cases al;have h2:=ah e he hb;rw[aV,getD_both bN]at h2;cases h2
    ·obtain⟨ok,al,e,he,hb,aV⟩:=Region.waitsFor_spec h1;rw[hj]at al;cases al;exact absurd aV (bg e he hb)
    ·exact h1
   ·refine ih _ _ _ ?_ ⟨by simp[inv.size],?_,?_,inv.below,fun s hs=>?_,fun j d hl hd=>?_⟩ (hi.set bf a6)
    ·have bj:((List.range n).filter fun i=> !(fj.setIfInBounds i0 true).getD i false)=((List.range n).filter fun i=> !fj.getD i false).erase i0:=by
      rw[List.Nodup.erase_eq_filter (List.nodup_range.filter _),List.filter_filter];apply List.filter_congr;intro x hx;by_cases e:x=i0
      ·subst e;have:x<fj.size:=by rw[inv.size];exact aY
       simp[this]
      ·rw[getD_set_ne false (Ne.symm e)];simp[e]
     rw[bj,List.length_erase_of_mem (List.mem_filter.2 ⟨List.mem_range.2 a6,by rw[getD_both h0];rfl⟩),hf];rfl
    ·unfold Act.put;cases o.dst<;>simp[inv.tmps]
    ·unfold Act.put;cases o.dst<;>exact inv.defers
    ·rw[<-inv.off s (fun j d hl hd=>hs j d (getD_set_true hl) hd),a2];have e:d0≠s:=hs i0 d0 (by have:i0<fj.size:=(by rw[inv.size];exact aY);simp[this]) (by rw[ad];simpa using a2);simp[Act.put,Array.getElem?_setIfInBounds_ne e]
    ·by_cases e:j=i0
     ·subst e;rw[ad]at hd;have av:o.dst=some d:=by simpa using hd
      have bQ:d=d0:=by rw[a2]at av;exact(Option.some.inj av).symm
      subst bQ;have he:(a.put o.dst v).eval (.tmp d)=v:=by rw[av];simp[Act.put,Act.eval,aZ]
      rw[he];exact bM
     ·rw[getD_set_ne false (Ne.symm e)]at hl;have h1:=inv.told j d hl hd;have he:(a.put o.dst v).eval (.tmp d)=a.eval (.tmp d):=Act.eval_put fun d' av hx=>by
       cases hx
       cases hj:l[j]? with
       |none=>rw[hj]at hd;cases hd
       |some y=>
        rw[hj]at hd;exact e (sR bx hj ad (by simpa using hd) av)
      rw[he];exact h1
  obtain⟨y,bR,bD,bS⟩:∃y,y<n/\y∉F/\fj.getD y false=false:=by
   have key:∀x,x<n->fj.getD x false=false->∃y,y<n/\y∉F/\fj.getD y false=false:=by
    intro x;induction x using Nat.strongRecOn with
    |_ x bT=>
     intro a9 aW;by_cases e:x∈F
     ·have hex:∃o0:aB,l[x]?=some o0/\∃e,e∈o0.after/\Region.binds .any e=true/\fj.getD e.on false≠true:=by
       refine⟨l[x]'(by omega),List.getElem?_eq_getElem (by omega),?_⟩;apply Classical.byContradiction;intro bg;exact bB ⟨x,e,mem_ready.2 ⟨getD_in (by rw[inv.size];omega) aW,l[x]'(by omega),by simp,fun e he hb=>Classical.byContradiction fun a1=>bg ⟨e,he,hb,a1⟩⟩⟩
      obtain⟨o0,bU,e,he,hb,a1⟩:=hex;have h1:=List.all_eq_true.1 a5 x (List.mem_range.2 (by omega));simp only[bU]at h1;have h2:=Array.all_eq_true_iff_forall_mem.1 h1 e he;simp only[hb,Bool.not_true,Bool.false_or,decide_eq_true_eq]at h2;exact bT e.on h2 (by omega) (by simpa using a1)
     ·exact⟨x,a9,e,aW⟩
   exact key x a9 aW
  have bV:fj.getD y true=false:=getD_in (by rw[inv.size];omega) bS;have a3:∀i,i∈Region.ready .any l.toArray fj->i<n:=fun i hr=>by
   rcases Nat.lt_or_ge i n with g|g
   ·exact g
   ·exact absurd hr (TW hs hc hn hi bR bD bV i g)
  refine⟨fun h0=>?_,fun k hk=>?_⟩
  ·exfalso;have bE:∀i,i<l.length->fj.getD i false=true:=fun i=>by
    induction i using Nat.strongRecOn with
    |_ i bW=>
     intro a4;cases hu:fj.getD i false with
     |true=>rfl
     |false=>
      exfalso;have h1:=List.all_eq_true.1 a5 i (List.mem_range.2 a4);have bX:l[i]?=some l[i]:=List.getElem?_eq_getElem a4;simp only[bX]at h1;have:i∈Region.ready .any l.toArray fj:=mem_ready.2 ⟨getD_in (by rw[inv.size];exact a4) hu,l[i],by simp[a4],fun e he hb=>by
       have h2:=Array.all_eq_true_iff_forall_mem.1 h1 e he;simp only[hb,Bool.not_true,Bool.false_or,decide_eq_true_eq]at h2;exact bW e.on h2 (by omega)⟩
      rw[h0]at this;cases this
   have:=bE x (by omega);rw[aW]at this;cases this
  ·have bl:=a3 k hk;obtain⟨h0,o,ho,ah⟩:=mem_ready.1 hk;have ad:l[k]?=some o:=by simpa using ho
   have aY:k<l.length:=(List.getElem?_eq_some_iff.1 ad).1;have bY:uh P l T a0 U k o:=by
    have:=a8.get (j:=k) (o:=o) (by rw[List.getElem?_take_of_lt bl];exact ad);rwa[Nat.zero_add]at this
   have aU:∀s,nG l s=true->a.eval (.tmp s)=a0.eval (.tmp s):=fun s hs=>by
    show a.tmps.getD s undef=a0.tmps.getD s undef
    rw[Array.getD_eq_getD_getElem?,Array.getD_eq_getD_getElem?,inv.off s (fun _ _ _ hd=>sQ hs hd)]
   have aT:∀j d,Region.waitsFor .any l.toArray k j=true->(l[j]?).bind (·.dst)=some d->Up (T j) (a.eval (.tmp d)) w:=fun j d hw hd=>by
    obtain⟨ok,al,e,he,hb,aV⟩:=Region.waitsFor_spec hw;rw[ho]at al;cases al;exact inv.told j d (by have:=ah e he hb;rwa[aV]at this) hd
   have aZ:∀d,o.dst=some d->d<a.tmps.size:=fun d hd=>by
    have h1:=List.all_eq_true.1 bz o (List.mem_of_getElem? ad);simp only[hd,decide_eq_true_eq]at h1;rw[inv.tmps];exact h1
   have bn:=bY a w inv.below aU aT (wpAny P .any l.toArray Q (f+(l.length-n)) (fj.setIfInBounds k true)) Q (fun v w' hb hv=>by
    refine ih _ _ _ ?_ ⟨by simp[inv.size],?_,?_,inv.below.trans (hb.mono inv.below.size),fun s hs=>?_,fun j d hl hd=>?_⟩ (hi.set hk bl)
    ·have bj:((List.range n).filter fun i=> !(fj.setIfInBounds k true).getD i false)=((List.range n).filter fun i=> !fj.getD i false).erase k:=by
      rw[List.Nodup.erase_eq_filter (List.nodup_range.filter _),List.filter_filter];apply List.filter_congr;intro x hx;by_cases e:x=k
      ·subst e;have:x<fj.size:=by rw[inv.size];exact aY
       simp[this]
      ·rw[getD_set_ne false (Ne.symm e)];simp[e]
     rw[bj,List.length_erase_of_mem (List.mem_filter.2 ⟨List.mem_range.2 bl,by rw[getD_both h0];rfl⟩),hf];rfl
    ·unfold Act.put;cases o.dst<;>simp[inv.tmps]
    ·unfold Act.put;cases o.dst<;>exact inv.defers
    ·rw[<-inv.off s (fun j d hl hd=>hs j d (getD_set_true hl) hd)];unfold Act.put;cases hd:o.dst with
     |none=>rfl
     |some d=>
      have e:d≠s:=hs k d (by have:k<fj.size:=(by rw[inv.size];exact aY);simp[this]) (by rw[ad];simpa using hd);simp[Array.getElem?_setIfInBounds_ne e]
    ·by_cases e:j=k
     ·subst e;rw[ad]at hd;have av:o.dst=some d:=by simpa using hd
      have bF:=aZ d av;have he:(a.put o.dst v).eval (.tmp d)=v:=by rw[av];simp[Act.put,Act.eval,bF]
      rw[he];exact hv
     ·rw[getD_set_ne false (Ne.symm e)]at hl;have h1:=inv.told j d hl hd;have he:(a.put o.dst v).eval (.tmp d)=a.eval (.tmp d):=Act.eval_put fun d' av hx=>by
       cases hx
       cases hj:l[j]? with
       |none=>rw[hj]at hd;cases hd
       |some y=>
        rw[hj]at hd;exact e (sR bx hj ad (by simpa using hd) av)
      rw[he];exact h1.on hb)
   unfold wpOp;simp only[ho];split at bn
   ·rename_i hw;rw[if_pos hw];exact .inl bn
   ·rename_i hw;rw[if_neg hw];exact bn
theorem JY{P:aA}{o:aB}{a:Act}(x:Operand)(ho:o.op=.move x)(v:ay)(hx:a.eval x=v):∀w',(execOp a.eval o).run P w'=.ok (.value v) w':=fun w'=>by
 unfold execOp;simp only[ho,hx];rfl
theorem T5{P:aA}{o:aB}{a:Act}(t:aC)(x:Operand)(lo hi mx:Option Operand)(ho:o.op=.slice t x lo hi mx)(u v:ay)(ad ah al:Option ay)(hx:a.eval x=u)(h1:lo.map a.eval=ad)(h2:hi.map a.eval=ah)(h3:mx.map a.eval=al)(hr:∀w,(Instr.sliceAt t u ad ah al).run P w=.ok v w):∀w',(execOp a.eval o).run P w'=.ok (.value v) w':=fun w'=>by
 unfold execOp;simp only[ho,hx,h1,h2,h3,Sem.run_bind,hr w',Result.andThen_ok];rfl
def JZ(l:List aB)(F:List Nat)(n m:Nat):Bool:=(F.all fun i=>decide (i<n))&&(F.all fun i=>wj l i)&&Region.noSelect l.toArray&&decide (n<l.length)&&CN l F n&&Region.chainB .any l.toArray n&&Region.seqB .any l.toArray (l.length-n) n (jW n (l.length-n))&&Vs l m
theorem T6{P:aA}{id:Nat}{Q:Exit->Act->au->Prop}{a0:Act}{w0:au}{l:List aB}(n:Nat)(F:List Nat)(T:Nat->ay->au->Prop)(U:au)(hU:aS U.heap.size U w0)(hm:P.follows .mixedOrders=true)(hB:JZ l F n a0.tmps.size=true)(hF:∀i∈F,JX P l T a0 U Q i)
  (ad:fk P l T a0 U 0 (l.take n))
  (al:∀(vals:Tmp->ay) (w:au),aS U.heap.size U w->(∀j d,((l.take n)[j]?).bind (·.dst)=some d->Up (T j) (vals d) w)->wpList P l.toArray Q (l.drop n) (U0 ((l.take n).map (·.dst)) vals a0) w):(Code.region id l.toArray true).wp P Q a0 w0:=by
 simp only[JZ,Bool.and_eq_true,decide_eq_true_eq]at hB
 obtain⟨⟨⟨⟨⟨⟨⟨aW,aX⟩,av⟩,hn⟩,hs⟩,hc⟩,aT⟩,hB⟩:=hB
 refine wp_region_any hm ?_
 have ah:∀i,(Array.replicate l.toArray.size false).getD i false=false:=fun i=>getD_replicate_false _ _
 have hinv:HeadInv .any l.toArray n (Array.replicate l.toArray.size false):=⟨by simp,(fun j oj _ hl=>by rw[ah]at hl;cases hl),(fun t _ ht=>by simp at ht;simp[ht])⟩
 have key:=TY (P:=P) (Q:=Q) (T:=T) (U:=U) (F:=F) (fun i hi=>of_decide_eq_true (List.all_eq_true.1 aW i hi)) hn hs (fun i hi=>List.all_eq_true.1 aX i hi) av hF hc aT hB ad (fun fj a w inv aY aZ=>by
  have ha:a=U0 ((l.take n).map (·.dst)) (fun d=>a.eval (.tmp d)) a0:=by
   have aU:=hB;simp only[Vs,Bool.and_eq_true,decide_eq_true_eq]at aU;have ht:a.tmps=(U0 ((l.take n).map (·.dst)) (fun d=>a.eval (.tmp d)) a0).tmps:=by
    apply Array.ext_getElem?;intro s;by_cases hs:some s∈(l.take n).map (·.dst)
    ·obtain⟨o,ho,hd⟩:=List.mem_map.1 hs;have h1:=List.all_eq_true.1 aU.1.2 o (List.mem_of_mem_take ho);simp only[hd,decide_eq_true_eq]at h1;rw[sO _ _ _ s (.inl hs) h1];have h2:s<a.tmps.size:=by rw[inv.tmps];exact h1
     simp[Act.eval,h2]
    ·rw[sP _ _ _ s hs];refine inv.off s (fun j d hl hd e=>hs ?_);cases hj:l[j]? with
     |none=>rw[hj]at hd;cases hd
     |some y=>
      have a1:j<l.length:=(List.getElem?_eq_some_iff.1 hj).1;have a2:j<n:=by
       rcases Nat.lt_or_ge j n with g|g
       ·exact g
       ·have:=getD_both (aZ j g a1);rw[hl]at this;cases this
      rw[hj]at hd;exact List.mem_map.2 ⟨y,List.mem_of_getElem? (i:=j) (by rw[List.getElem?_take_of_lt a2];exact hj),by rw[<-e];simpa using hd⟩
   have aV:a.defers=(U0 ((l.take n).map (·.dst)) (fun d=>a.eval (.tmp d)) a0).defers:=by rw[sN];exact inv.defers
   cases a with
   |mk t df=>
    generalize hp:U0 ((l.take n).map (·.dst)) (fun d=>(Act.mk t df).eval (.tmp d)) a0=p at*;cases p with
    |mk t2 a3=>simp only at ht aV;rw[ht,aV]
  rw[ha];refine al _ w inv.below fun j d hd=>?_
  rcases Nat.lt_or_ge j n with g|g
  ·rw[List.getElem?_take_of_lt g]at hd;exact inv.told j d (aY j g) hd
  ·rw[List.getElem?_eq_none (by rw[List.length_take];omega)]at hd;cases hd) n (Array.replicate l.toArray.size false) a0 w0.drew (by rw[List.filter_eq_self.2 (fun i _=>by rw[ah];rfl)];simp) ⟨by simp,rfl,rfl,hU.drew,fun _ _=>rfl,fun j d h _=>by rw[ah]at h;cases h⟩ hinv
 rw[show n+(l.length-n)=l.toArray.size by simp;omega]at key
 exact key
theorem J0(w:au)(B g:Nat)(p:fF)(out:List Nat)(Ah:Option aw)(hc:Nat)(Aw:Option aw)(wc:Nat)(Ap:Option aw)(pc:Nat)(Ao:Option aw)(oc:Nat)(U:gB w B g p out Ah hc Aw wc Ap pc Ao oc)(K:Nat)(hk:p.k=(K:Int))(hK:K<=16000000)(br:K/8<=p.fp.length)(bt:out.length<=100000000):
  ax prog 81 #[ag (some ⟨g,0,none⟩)] w fun e w'=>e=aq (.tuple #[])/\(∃bu bx bz bA,gB w' B g {p with fp:=p.fp.drop (K/8),k:=((K%8:Nat):Int)} (out++p.fp.take (K/8)) Ah hc Aw wc bu bx bz bA)/\aS B w w':=by
 obtain⟨hn,aY⟩:=fb (p.hist.length)
 obtain⟨wn,aZ⟩:=fb (p.wait.length)
 obtain⟨pn,ad⟩:=fb (p.fp.length)
 obtain⟨on,al⟩:=fb (out.length)
 obtain⟨D,hD⟩:=fb (K/8)
 obtain⟨R,hR⟩:=fb (K%8)
 have aV:D<=pn:=by omega
 have a6:=U.fp.2.2.1
 rw[<-ad]at a6
 have bG:(D:Int)<=(pc:Int):=by omega
 have bH:D<=pc:=by omega
 have a7:B<=w.heap.size:=by have:=U.le;have:=U.lt;omega
 have eX:jn p Ah hc Aw wc Ap pc Ao out.length oc=#[ae ak p.s,ae ak p.h,ae ak p.m,aj p.z,af Ah hn hc,af Aw wn wc,af Ap pn pc,ae ak (K:Int),aj p.jg,af Ao on oc]:=by
  unfold jn;rw[<-aY,<-aZ,<-ad,hk,<-al]
 have hx:=U.box
 rw[eX]at hx
 have c6:w.cell? ⟨g,6,none⟩=some (af Ap pn pc):=hx.cell.trans rfl
 have c7:w.cell? ⟨g,7,none⟩=some (ae ak (K:Int)):=hx.cell.trans rfl
 have c9:w.cell? ⟨g,9,none⟩=some (af Ao on oc):=hx.cell.trans rfl
 have bp:=xK U.fp
 have av:(out++p.fp.take D).length=on+D:=by rw[List.length_append,List.length_take,<-al,<-ad,Nat.min_eq_left aV]
 have a8:fq w w.heap.size Ap D pc (fc (p.fp.take D)):=by
  refine⟨⟨fun j=>jz (sV bp D) j,fun h0=>?_⟩,U.fp.2.1,by omega,U.fp.2.2.2⟩;obtain⟨b,o,e1,e2,e3⟩:=U.fp.1.2 (by omega);exact⟨b,o,e1,e2,fun j hj=>by rw[xG p.fp hj];exact e3 j (by omega)⟩
 have aU:=U.own
 rw[<-al]at aU
 obtain⟨A',c',w1,aX,a9,ah,a1,bf⟩:=Bl w.drew B Ao on oc (fc out) aU Ap D pc (fc (p.fp.take D)) (fc (out++p.fp.take D)) a8
  (fun j hj=>by rw[oG];unfold cat;rw[if_pos (by omega)]) (fun j hj=>by rw[oG];unfold cat;rw[if_neg (by omega),al,Nat.add_sub_cancel_left]) (by omega) a7
 have ah:aS B w w1:=⟨ah.os,ah.tape,ah.output,ah.size,ah.block⟩
 have a2:fg w1 g #[ae ak p.s,ae ak p.h,ae ak p.m,aj p.z,af Ah hn hc,af Aw wn wc,af Ap pn pc,ae ak (K:Int),aj p.jg,af Ao on oc] 94:=(a1 g U.lt (by have:=U.ne;rwa[<-al]at this)).trans hx
 have f9:w1.frozen? ⟨g,9,none⟩=false:=a2.free
 have d9:w1.cell? ⟨g,9,none⟩=some (af Ao on oc):=a2.cell.trans rfl
 have U1:gB (w1.setCell ⟨g,9,none⟩ (af A' (on+D) c')) B g p (out++p.fp.take D) Ah hc Aw wc Ap pc A' c':=by
  have:=U.grown (w':=w1) (qf:=A') (qg:=c') (more:=p.fp.take D) (sV bp D) (by rw[av];exact a9) ah.size (by rw[<-al];exact a1) (by rw[av,<-al];exact bf);rwa[av]at this
 obtain⟨W2,aW⟩:=fb (w1.setCell ⟨g,9,none⟩ (af A' (on+D) c'))
 rw[<-aW]at U1
 have bg:aS B w W2:=by rw[aW];exact nD ah U.le _ _
 have a3:=U1.box
 have bj:jn p Ah hc Aw wc Ap pc A' (out++p.fp.take D).length c'=#[ae ak p.s,ae ak p.h,ae ak p.m,aj p.z,af Ah hn hc,af Aw wn wc,af Ap pn pc,ae ak (K:Int),aj p.jg,af A' (on+D) c']:=by
  unfold jn;rw[<-aY,<-aZ,<-ad,hk,av]
 rw[bj]at a3
 obtain⟨A5,hA5⟩:∃A5,(if pc=D then Ap else Ap.map (·.add D))=A5:=⟨_,rfl⟩
 have RF:aR (∀V,(Instr.sliceAt 22 (af Ap pn pc) (some (ae ak (D:Int))) none none).run prog V=.ok (af A5 (pn-D) (pc-D)) V):=fa fun V=>um Ap A5 pn pc D aV hA5 V
 have bB:aR (∀(V:au),(binOp .rem 3 (ae ak (K:Int)) (ae ak 8)).run prog V=.ok (ae ak (R:Int)) V):=fa fun V=>by rw[hR];exact Rw prog 3 ak K 8 (by omega) V
 have r3:fq W2 W2.heap.size A5 (pn-D) (pc-D) (fc (p.fp.drop D)):=by
  have:=U1.fp;rw[<-ad]at this;exact this.from aV hA5
 have n3:jJ A5 (pn-D) (af A' (on+D) c'):=by
  have:=U1.np;rw[<-ad,av]at this;exact this.from aV hA5 (by have:=U1.fp;rw[<-ad]at this;exact this.at)
 have UF:aR (∀V,aS W2.heap.size W2 V->gB ((V.setCell ⟨g,6,none⟩ (af A5 (pn-D) (pc-D))).setCell ⟨g,7,none⟩ (ae ak (R:Int))) B g {p with fp:=p.fp.drop D,k:=(R:Int)} (out++p.fp.take D) Ah hc Aw wc A5 (pc-D) A' c'/\aS B w ((V.setCell ⟨g,6,none⟩ (af A5 (pn-D) (pc-D))).setCell ⟨g,7,none⟩ (ae ak (R:Int)))):=fa fun V hV=>by
  have UV:=U1.below hV;have a4:(p.fp.drop D).length=pn-D:=by rw[List.length_drop,<-ad]
  refine⟨UV.yK (p':={p with fp:=p.fp.drop D,k:=(R:Int)}) 6 7 _ _ (by unfold jn;simp only[a4];rfl) UV.row UV.wait (by show fq V _ A5 (p.fp.drop D).length _ _;rw[a4];exact(r3.below hV fe).more hV.size) UV.nr UV.nw (by show jJ A5 (p.fp.drop D).length _;rw[a4,av];exact n3),nD (nD (bg.trans (hV.mono (by have:=U.le;have:=U1.lt;omega))) U.le _ _) U.le _ _⟩
 have aT:aR (fg W2 g #[ae ak p.s,ae ak p.h,ae ak p.m,aj p.z,af Ah hn hc,af Aw wn wc,af Ap pn pc,ae ak (K:Int),aj p.jg,af A' (on+D) c'] 94):=fa a3
 have bl:=fa aX;have bC:=fa aW;have HR:=fa hR;have bI:=fa hD
 have e8:(K:Int)/8=(D:Int):=by omega
 have bJ:IntKind.i64.wrap ((K:Int)/8)=(D:Int):=by rw[e8];exact wrap_i64 D (by omega)
 have bK:wrap64 (D:Int)=(D:Int):=by unfold wrap64;omega
 rw[<-hD,<-hR]
 clear U U1 hk hK br bt aY aZ ad al hD hR a6 a7 eX hx bp av a8 aU a9 ah a1 bf a2 aW bg a3 bj hA5 r3 n3 aX e8
 go_enter func81,ntmps81
 go_wp2
 go_region_law ((refine uI rfl (.tmp 14) (.tmp 22) 22 22 rfl (af Ao on oc) (af Ap D pc) rfl rfl (af A' (on+D) c') w1 bl.out ?_))
 all_goals(
  rw[<-bC.out];go_wp2_with fail
  refine Ru 20 (rH [fun v _=>v=ag (some ⟨g,0,none⟩),fun v _=>v=ag (some ⟨g,0,none⟩),fun v _=>v=ag (some ⟨g,0,none⟩),fun v _=>v=ag (some ⟨g,0,none⟩),fun v _=>v=ag (some ⟨g,6,none⟩),fun v _=>v=ag (some ⟨g,6,none⟩),fun v _=>v=af Ap pn pc,fun v _=>v=ae ak (D:Int),fun v _=>v=af A5 (pn-D) (pc-D),fun v _=>v=ag (some ⟨g,0,none⟩),fun v _=>v=ag (some ⟨g,0,none⟩),fun v _=>v=ag (some ⟨g,0,none⟩),fun v _=>v=ag (some ⟨g,6,none⟩),fun v _=>v=ag (some ⟨g,7,none⟩),fun v _=>v=ae ak (K:Int),fun v _=>v=ae ak (R:Int),fun v _=>v=ai #[af A5 (pn-D) (pc-D),ae ak (R:Int)],fun v _=>v=ag (some ⟨g,0,none⟩),fun v _=>v=ag (some ⟨g,0,none⟩),fun v _=>v=ag (some ⟨g,6,none⟩)]) W2 fz (by kernel_rfl) (by kernel_rfl) ?_ ?_
  case refine_1=>
   simp only[List.take_succ_cons,List.take_zero];refine fk.cons (fun aa wv hb ha hS Kk Qq hK=>iL (fm rfl) _ rfl (fw ((ha 0 (by kernel_rfl)).trans rfl)) hK) ?_;refine fk.cons (fun aa wv hb ha hS Kk Qq hK=>iL (fm rfl) _ rfl (fw ((ha 0 (by kernel_rfl)).trans rfl)) hK) ?_;refine fk.cons (fun aa wv hb ha hS Kk Qq hK=>lH (fm rfl) _ rfl _ (hS 1 27 (by kernel_rfl) rfl).here (fw rfl) hK) ?_;refine fk.cons (fun aa wv hb ha hS Kk Qq hK=>gW (fm rfl) _ _ _ rfl _ (ag (some ⟨g,0,none⟩)) (hS 2 28 (by kernel_rfl) rfl).here (by go_simp) (fw rfl) hK) ?_;refine fk.cons (fun aa wv hb ha hS Kk Qq hK=>gW (fm rfl) _ _ _ rfl _ (ag (some ⟨g,6,none⟩)) (hS 3 29 (by kernel_rfl) rfl).here (by go_simp) (fw rfl) hK) ?_;refine fk.cons (fun aa wv hb ha hS Kk Qq hK=>gW (fm rfl) _ _ _ rfl _ (ag (some ⟨g,6,none⟩)) (hS 4 30 (by kernel_rfl) rfl).here (by go_simp) (fw rfl) hK) ?_;refine fk.cons (fun aa wv hb ha hS Kk Qq hK=>nH (fm rfl) _ _ rfl _ (af Ap pn pc) (hS 5 31 (by kernel_rfl) rfl).here (by have hc:wv.cell? ⟨g,6,none⟩=some (af Ap pn pc):=(aT.out.below hb aT.out.lt).cell.trans rfl;go_simp) (fw rfl) hK) ?_;refine fk.cons (fun aa wv hb ha hS Kk Qq hK=>iL (fm rfl) _ rfl (fw ((ha 2 (by kernel_rfl)).trans rfl)) hK) ?_;refine fk.cons (fun aa wv hb ha hS Kk Qq hK=>uj (fm rfl) _ _ _ _ _ rfl (af Ap pn pc) (af A5 (pn-D) (pc-D)) (some (ae ak (D:Int))) none none (hS 6 32 (by kernel_rfl) rfl).here (congrArg some (hS 7 33 (by kernel_rfl) rfl).here) rfl rfl (RF.out wv) (fw rfl) hK) ?_;refine fk.cons (fun aa wv hb ha hS Kk Qq hK=>iL (fm rfl) _ rfl (fw ((ha 0 (by kernel_rfl)).trans rfl)) hK) ?_;refine fk.cons (fun aa wv hb ha hS Kk Qq hK=>lH (fm rfl) _ rfl _ (hS 9 35 (by kernel_rfl) rfl).here (fw rfl) hK) ?_;refine fk.cons (fun aa wv hb ha hS Kk Qq hK=>gW (fm rfl) _ _ _ rfl _ (ag (some ⟨g,0,none⟩)) (hS 10 36 (by kernel_rfl) rfl).here (by go_simp) (fw rfl) hK) ?_;refine fk.cons (fun aa wv hb ha hS Kk Qq hK=>gW (fm rfl) _ _ _ rfl _ (ag (some ⟨g,6,none⟩)) (hS 11 37 (by kernel_rfl) rfl).here (by go_simp) (fw rfl) hK) ?_;refine fk.cons (fun aa wv hb ha hS Kk Qq hK=>gW (fm rfl) _ _ _ rfl _ (ag (some ⟨g,7,none⟩)) (hS 12 38 (by kernel_rfl) rfl).here (by go_simp) (fw rfl) hK) ?_;refine fk.cons (fun aa wv hb ha hS Kk Qq hK=>nH (fm rfl) _ _ rfl _ (ae ak (K:Int)) (hS 13 39 (by kernel_rfl) rfl).here (by have hc:wv.cell? ⟨g,7,none⟩=some (ae ak (K:Int)):=(aT.out.below hb aT.out.lt).cell.trans rfl;go_simp) (fw rfl) hK) ?_;refine fk.cons (fun aa wv hb ha hS Kk Qq hK=>we (fm rfl) _ _ _ _ _ rfl _ _ (ae ak (R:Int)) (hS 14 40 (by kernel_rfl) rfl).here rfl (wh _ _ _ _ _ _ _ (by decide) (by decide) _) (bB.out wv) (fw rfl) hK) ?_;refine fk.cons (fun aa wv hb ha hS Kk Qq hK=>by have bD:=(show aa.eval (.tmp 34)=af A5 (pn-D) (pc-D)from(hS 8 34 (by kernel_rfl) rfl).here);have bE:=(show aa.eval (.tmp 41)=ae ak (R:Int)from(hS 15 41 (by kernel_rfl) rfl).here);exact Rx (fm rfl) _ #[(0,.tmp 34),(1,.tmp 41)] rfl #[af A5 (pn-D) (pc-D),ae ak (R:Int)] (by simpa[bD,bE]using TH A5 (pn-D) (pc-D) (R:Int)) (fw rfl) hK) ?_;refine fk.cons (fun aa wv hb ha hS Kk Qq hK=>lH (fm rfl) _ rfl _ (hS 0 26 (by kernel_rfl) rfl).here (fw rfl) hK) ?_;refine fk.cons (fun aa wv hb ha hS Kk Qq hK=>gW (fm rfl) _ _ _ rfl _ (ag (some ⟨g,0,none⟩)) (hS 17 43 (by kernel_rfl) rfl).here (by go_simp) (fw rfl) hK) ?_;refine fk.cons (fun aa wv hb ha hS Kk Qq hK=>gW (fm rfl) _ _ _ rfl _ (ag (some ⟨g,6,none⟩)) (hS 18 44 (by kernel_rfl) rfl).here (by go_simp) (fw rfl) hK) ?_;exact fk.nil
  intro vals w5 hb hv;have bn:vals 42=ai #[af A5 (pn-D) (pc-D),ae ak (R:Int)]:=(hv 16 42 rfl).here;have bq:vals 45=ag (some ⟨g,6,none⟩):=(hv 19 45 rfl).here;have x5:=aT.out.below hb aT.out.lt;have s6:w5.cell? ⟨g,6,none⟩=some (af Ap pn pc):=x5.cell.trans rfl;have s7:w5.cell? ⟨g,7,none⟩=some (ae ak (K:Int)):=x5.cell.trans rfl;have f6:w5.frozen? ⟨g,6,none⟩=false:=x5.free;have f7:w5.frozen? ⟨g,7,none⟩=false:=x5.free;obtain⟨W6,a5⟩:=fb ((w5.setCell ⟨g,6,none⟩ (af A5 (pn-D) (pc-D))).setCell ⟨g,7,none⟩ (ae ak (R:Int)));have HF:=fa (a5▸UF.out w5 hb);have bF:=fa a5;clear x5 hb hv a5;simp only[List.take_succ_cons,List.take_zero,List.drop_succ_cons,List.drop_zero,List.map_cons,List.map_nil,U0,Act.put,List.setIfInBounds_toArray,List.set_cons_zero,List.set_cons_succ,bn,bq];clear bn bq;go_wp2_with (rw[<-bF.out])
  go_end0;exact⟨rfl,⟨A5,pc-D,A',c',HF.out.1⟩,HF.out.2⟩)
theorem J1{t:fi}(h:fH t=true)(hx:t.x<256):qz t:=by
 unfold fH at h;simp only[decide_eq_true_eq]at h;exact⟨hx,by omega,by omega⟩
theorem J2(w:au)(B g:Nat)(p:fF)(out:List Nat)(Ah:Option aw)(hc:Nat)(Aw:Option aw)(wc:Nat)(Ap:Option aw)(pc:Nat)(Ao:Option aw)(oc:Nat)(U:gB w B g p out Ah hc Aw wc Ap pc Ao oc)(K:Nat)(hk:p.k=(K:Int))(n:Nat)(hn:n<=p.wait.length)(hb:p.hist.length+p.wait.length<=2000000):
  ax prog 161 #[ag (some ⟨g,0,none⟩),ae ak (n:Int)] w fun e w'=>e=aq (af Ah (p.hist.length+n) hc)/\aS w.heap.size w w':=by
 have aT:=hn
 clear hn
 obtain⟨hn,ah⟩:=fb (p.hist.length)
 obtain⟨wn,al⟩:=fb (p.wait.length)
 obtain⟨pn,ad⟩:=fb (p.fp.length)
 obtain⟨on,av⟩:=fb (out.length)
 have eX:jn p Ah hc Aw wc Ap pc Ao out.length oc=#[ae ak p.s,ae ak p.h,ae ak p.m,aj p.z,af Ah hn hc,af Aw wn wc,af Ap pn pc,ae ak (K:Int),aj p.jg,(af Ao on oc)]:=by
  unfold jn;rw[<-ah,<-al,<-ad,hk,<-av]
 have hx:=U.box
 rw[eX]at hx
 have aU:=U.row.2.2.1
 have aV:aR (∀V:au,(binOp .add 3 (ae ak (hn:Int)) (ae ak (n:Int))).run prog V=.ok (ae ak ((hn+n:Nat):Int)) V):=fa fun V=>TU _ _ _ _ (by omega) V
 have RT:aR (∀V:au,(Instr.sliceAt 22 (af Ah hn hc) none (some (ae ak ((hn+n:Nat):Int))) none).run prog V=.ok (af Ah (hn+n) hc) V):=fa fun V=>uo Ah hn hc (hn+n) (by omega) V
 have HX:=fa hx
 rw[<-ah]
 clear U hk aT hb ah al ad av eX hx aU
 go_enter func161,ntmps161
 go_wp2
 refine v5 (rH [fun v _=>v=ag (some ⟨g,0,none⟩),fun v _=>v=ag (some ⟨g,0,none⟩),fun v _=>v=ag (some ⟨g,0,none⟩),fun v _=>v=ag (some ⟨g,4,none⟩),fun v _=>v=af Ah hn hc,fun v _=>v=ag (some ⟨g,0,none⟩),fun v _=>v=ag (some ⟨g,0,none⟩),fun v _=>v=ag (some ⟨g,0,none⟩),fun v _=>v=ag (some ⟨g,4,none⟩),fun v _=>v=af Ah hn hc,fun v _=>v=ae ak (hn:Int),fun v _=>v=ae ak (n:Int),fun v _=>v=ae ak ((hn+n:Nat):Int),fun v _=>v=af Ah (hn+n) hc,fun v _=>v=af Ah (hn+n) hc]) w fz (by kernel_rfl) (by kernel_rfl) ?_ ?_
 case refine_1=>
  refine fk.cons (fun aa wv hb ha hS Kk Qq hK=>iL (fm rfl) _ rfl (fw ((ha 0 (by kernel_rfl)).trans rfl)) hK) ?_;refine fk.cons (fun aa wv hb ha hS Kk Qq hK=>lH (fm rfl) _ rfl _ (hS 0 5 (by kernel_rfl) rfl).here (fw rfl) hK) ?_;refine fk.cons (fun aa wv hb ha hS Kk Qq hK=>gW (fm rfl) _ _ _ rfl _ (ag (some ⟨g,0,none⟩)) (hS 1 6 (by kernel_rfl) rfl).here (by go_simp) (fw rfl) hK) ?_;refine fk.cons (fun aa wv hb ha hS Kk Qq hK=>gW (fm rfl) _ _ _ rfl _ (ag (some ⟨g,4,none⟩)) (hS 2 7 (by kernel_rfl) rfl).here (by go_simp) (fw rfl) hK) ?_;refine fk.cons (fun aa wv hb ha hS Kk Qq hK=>nH (fm rfl) _ _ rfl _ (af Ah hn hc) (hS 3 8 (by kernel_rfl) rfl).here (by have hc:wv.cell? ⟨g,4,none⟩=some (af Ah hn hc):=(HX.out.below hb HX.out.lt).cell.trans rfl;go_simp) (fw rfl) hK) ?_;refine fk.cons (fun aa wv hb ha hS Kk Qq hK=>iL (fm rfl) _ rfl (fw ((ha 0 (by kernel_rfl)).trans rfl)) hK) ?_;refine fk.cons (fun aa wv hb ha hS Kk Qq hK=>lH (fm rfl) _ rfl _ (hS 5 10 (by kernel_rfl) rfl).here (fw rfl) hK) ?_;refine fk.cons (fun aa wv hb ha hS Kk Qq hK=>gW (fm rfl) _ _ _ rfl _ (ag (some ⟨g,0,none⟩)) (hS 6 11 (by kernel_rfl) rfl).here (by go_simp) (fw rfl) hK) ?_;refine fk.cons (fun aa wv hb ha hS Kk Qq hK=>gW (fm rfl) _ _ _ rfl _ (ag (some ⟨g,4,none⟩)) (hS 7 12 (by kernel_rfl) rfl).here (by go_simp) (fw rfl) hK) ?_;refine fk.cons (fun aa wv hb ha hS Kk Qq hK=>nH (fm rfl) _ _ rfl _ (af Ah hn hc) (hS 8 13 (by kernel_rfl) rfl).here (by have hc:wv.cell? ⟨g,4,none⟩=some (af Ah hn hc):=(HX.out.below hb HX.out.lt).cell.trans rfl;go_simp) (fw rfl) hK) ?_;refine fk.cons (fun aa wv hb ha hS Kk Qq hK=>wC (fm rfl) _ _ rfl Ah hn hc (hS 9 14 (by kernel_rfl) rfl).here underlying22 (fw rfl) hK) ?_;refine fk.cons (fun aa wv hb ha hS Kk Qq hK=>iL (fm rfl) _ rfl (fw ((ha 1 (by kernel_rfl)).trans rfl)) hK) ?_;refine fk.cons (fun aa wv hb ha hS Kk Qq hK=>we (fm rfl) _ _ _ _ _ rfl _ _ (ae ak ((hn+n:Nat):Int)) (hS 10 15 (by kernel_rfl) rfl).here (hS 11 16 (by kernel_rfl) rfl).here (wh _ _ _ _ _ _ _ (by decide) (by decide) _) (aV.out wv) (fw rfl) hK) ?_;refine fk.cons (fun aa wv hb ha hS Kk Qq hK=>uj (fm rfl) _ _ _ _ _ rfl (af Ah hn hc) (af Ah (hn+n) hc) none (some (ae ak ((hn+n:Nat):Int))) none (hS 4 9 (by kernel_rfl) rfl).here rfl (congrArg some (hS 12 17 (by kernel_rfl) rfl).here) rfl (RT.out wv) (fw rfl) hK) ?_;refine fk.cons (fun aa wv hb ha hS Kk Qq hK=>v7 (fm rfl) _ rfl (hS 13 18 (by kernel_rfl) rfl) hK) ?_;exact fk.nil
 intro vals w5 hb hv
 have e4:vals 4=af Ah (hn+n) hc:=(hv 14 4 rfl).here
 have HB:=fa hb
 clear hb hv
 simp only[List.map_cons,List.map_nil,U0,Act.put,List.setIfInBounds_toArray,List.set_cons_zero,List.set_cons_succ,e4]
 clear e4
 go_wp2
 go_ret
 exact⟨rfl,HB.out⟩
theorem T7(s h m:Int)(z:Bool):(prog.info? 55).map (·.size)=some ([ae ak s,ae ak h,ae ak m,aj z]:List ay).length:=by kernel_rfl
theorem T8(w:au)(B g:Nat)(p:fF)(out:List Nat)(Ah:Option aw)(hc:Nat)(Aw:Option aw)(wc:Nat)(Ap:Option aw)(pc:Nat)(Ao:Option aw)(oc:Nat)(U:gB w B g p out Ah hc Aw wc Ap pc Ao oc)(gd:kG p)(n:Nat)(av:n<=p.wait.length)(aV:n<=65535)(hb:p.wait.length<=1000000):
  ax prog 118 #[ag (some ⟨g,0,none⟩),ae ak (n:Int)] w fun e w'=>∃A' n' c',e=aq (af A' n' c')/\iK w' w'.heap.size A' n' c' (gA p (p.wait.take n))/\aS w.heap.size w w':=by
 obtain⟨K,hk⟩:∃K:Nat,p.k=(K:Int):=⟨p.k.toNat,by have:=gd.k0;omega⟩
 have hs:=kz gd.jS
 have hh:=gd.hist
 obtain⟨TL,ah⟩:=fb (gA p (p.wait.take n))
 rw[<-ah]
 have TX:aR (∀V,aS w.heap.size w V->ax prog 161 #[ag (some ⟨g,0,none⟩),ae ak (n:Int)] V fun e w'=>e=aq (af Ah (p.hist.length+n) hc)/\aS V.heap.size V w'):=fa fun V hV=>J2 V B g p out Ah hc Aw wc Ap pc Ao oc (U.below hV) K hk n av (by omega)
 have hlen:(p.hist++p.wait.take n).length=p.hist.length+n:=by rw[List.length_append,List.length_take,Nat.min_eq_left av]
 have CT:aR (∀V,aS w.heap.size w V->ax prog 160 #[af Ah (p.hist.length+n) hc,ae ak (p.hist.length:Int),ai #[ae ak p.s,ae ak p.h,ae ak p.m,aj p.z]] V fun e w'=>∃A' n' c',e=aq (.tuple #[af A' n' c',ae ak 0])/\iK w' w'.heap.size A' n' c' TL/\aS V.heap.size V w'):=fa fun V hV=>by
  have hr:=(U.below hV).row;have bb:iA (p.hist++p.wait.take n):=fun x hx=>(List.mem_append.1 hx).elim (gd.bh x) (sV gd.bw n x)
  have aW:fq V V.heap.size Ah (p.hist.length+n) hc (fc (p.hist++p.wait.take n)):=by
   refine⟨⟨jz bb,fun h0=>?_⟩,hr.2.1,by have:=hr.2.2.1;omega,hr.2.2.2⟩;obtain⟨b,o,e1,e2,e3⟩:=hr.1.2 (by omega);refine⟨b,o,e1,e2,fun j hj=>?_⟩;rw[e3 j (by omega),oG,oG];unfold cat;by_cases h:j<p.hist.length
   ·rw[if_pos h,if_pos h]
   ·rw[if_neg h,if_neg h,xG p.wait (show j-p.hist.length<n by omega)]
  have h1:=SL V Ah (p.hist.length+n) hc (fc (p.hist++p.wait.take n)) (p.hist.length:Int) p.s p.h p.m p.z aW (by omega) (by omega);have hE:sG (p.hist.length+n) (p.hist.length:Int) p.s p.h p.m=0:=by
   unfold sG;rw[gd.jS,if_neg (by simp),if_neg (by omega),if_pos (by omega)]
  have hV:vK (fc (p.hist++p.wait.take n)) (p.hist.length+n) (p.hist.length:Int) p.s p.h p.m p.z=TL:=by
   unfold vK;rw[hE,if_pos rfl,ah,Int.toNat_natCast];unfold gA;rw[hlen]
  rw[hE,hV]at h1;exact h1
 obtain⟨hn,al⟩:=fb (p.hist.length)
 obtain⟨wn,aT⟩:=fb (p.wait.length)
 obtain⟨pn,ad⟩:=fb (p.fp.length)
 obtain⟨on,aU⟩:=fb (out.length)
 rw[<-al]at TX CT
 have eX:jn p Ah hc Aw wc Ap pc Ao out.length oc=#[ae ak p.s,ae ak p.h,ae ak p.m,aj p.z,af Ah hn hc,af Aw wn wc,af Ap pn pc,ae ak (K:Int),aj p.jg,(af Ao on oc)]:=by
  unfold jn;rw[<-al,<-aT,<-ad,hk,<-aU]
 have hx:=U.box
 rw[eX]at hx
 have HX:=fa hx
 clear U hk hb al aT ad aU eX hx gd hs hh hlen ah aV
 go_enter func118,ntmps118
 go_wp2_with fail
 refine v5 (rH [fun v _=>v=ag (some ⟨g,0,none⟩),fun v _=>v=ae ak (n:Int),fun v _=>v=af Ah (hn+n) hc,fun v _=>v=ag (some ⟨g,0,none⟩),fun v _=>v=ag (some ⟨g,0,none⟩),fun v _=>v=ag (some ⟨g,0,none⟩),fun v _=>v=ag (some ⟨g,4,none⟩),fun v _=>v=af Ah hn hc,fun v _=>v=ae ak (hn:Int),fun v _=>v=ag (some ⟨g,0,none⟩),fun v _=>v=ag (some ⟨g,0,none⟩),fun v _=>v=ag (some ⟨g,0,none⟩),fun v _=>v=ag (some ⟨g,0,none⟩),fun v _=>v=ai #[ae ak p.s,ae ak p.h,ae ak p.m,aj p.z],fun v W=>∃A' n' c',v=.tuple #[af A' n' c',ae ak 0]/\iK W W.heap.size A' n' c' TL,fun v W=>∃A' n' c',v=.tuple #[af A' n' c',ae ak 0]/\iK W W.heap.size A' n' c' TL,fun v W=>∃A' n' c',v=af A' n' c'/\iK W W.heap.size A' n' c' TL,fun v _=>v=ae ak 0,fun v W=>∃A' n' c',v=af A' n' c'/\iK W W.heap.size A' n' c' TL,fun v _=>v=ae ak 0]) w fz (by kernel_rfl) (by kernel_rfl) ?_ ?_
 case refine_1=>
  refine fk.cons (fun aa wv hb ha hS Kk Qq hK=>iL (fm rfl) _ rfl (fw ((ha 0 (by kernel_rfl)).trans rfl)) hK) ?_;refine fk.cons (fun aa wv hb ha hS Kk Qq hK=>iL (fm rfl) _ rfl (fw ((ha 1 (by kernel_rfl)).trans rfl)) hK) ?_;refine fk.cons (fun aa wv hb ha hS Kk Qq hK=>yr (fm rfl) 161 _ _ rfl (enters_of func161 (by kernel_rfl) rfl) #[ag (some ⟨g,0,none⟩),ae ak (n:Int)] (by simp[(show aa.eval (.tmp 8)=ag (some ⟨g,0,none⟩)from(hS 0 8 (by kernel_rfl) rfl).here),(show aa.eval (.tmp 9)=ae ak (n:Int)from(hS 1 9 (by kernel_rfl) rfl).here)]) (TX.out wv hb) (fun ee w' ⟨h1,h2⟩=>⟨_,h1,h2,fw rfl⟩) hK) ?_;refine fk.cons (fun aa wv hb ha hS Kk Qq hK=>iL (fm rfl) _ rfl (fw ((ha 0 (by kernel_rfl)).trans rfl)) hK) ?_;refine fk.cons (fun aa wv hb ha hS Kk Qq hK=>lH (fm rfl) _ rfl _ (hS 3 11 (by kernel_rfl) rfl).here (fw rfl) hK) ?_;refine fk.cons (fun aa wv hb ha hS Kk Qq hK=>gW (fm rfl) _ _ _ rfl _ (ag (some ⟨g,0,none⟩)) (hS 4 12 (by kernel_rfl) rfl).here (by go_simp) (fw rfl) hK) ?_;refine fk.cons (fun aa wv hb ha hS Kk Qq hK=>gW (fm rfl) _ _ _ rfl _ (ag (some ⟨g,4,none⟩)) (hS 5 13 (by kernel_rfl) rfl).here (by go_simp) (fw rfl) hK) ?_;refine fk.cons (fun aa wv hb ha hS Kk Qq hK=>nH (fm rfl) _ _ rfl _ (af Ah hn hc) (hS 6 14 (by kernel_rfl) rfl).here (by have hc:wv.cell? ⟨g,4,none⟩=some (af Ah hn hc):=(HX.out.below hb HX.out.lt).cell.trans rfl;go_simp) (fw rfl) hK) ?_;refine fk.cons (fun aa wv hb ha hS Kk Qq hK=>wC (fm rfl) _ _ rfl Ah hn hc (hS 7 15 (by kernel_rfl) rfl).here underlying22 (fw rfl) hK) ?_;refine fk.cons (fun aa wv hb ha hS Kk Qq hK=>iL (fm rfl) _ rfl (fw ((ha 0 (by kernel_rfl)).trans rfl)) hK) ?_;refine fk.cons (fun aa wv hb ha hS Kk Qq hK=>lH (fm rfl) _ rfl _ (hS 9 17 (by kernel_rfl) rfl).here (fw rfl) hK) ?_;refine fk.cons (fun aa wv hb ha hS Kk Qq hK=>gW (fm rfl) _ _ _ rfl _ (ag (some ⟨g,0,none⟩)) (hS 10 18 (by kernel_rfl) rfl).here (by go_simp) (fw rfl) hK) ?_;refine fk.cons (fun aa wv hb ha hS Kk Qq hK=>gW (fm rfl) _ _ _ rfl _ (ag (some ⟨g,0,none⟩)) (hS 11 19 (by kernel_rfl) rfl).here (by go_simp) (fw rfl) hK) ?_;refine fk.cons (fun aa wv hb ha hS Kk Qq hK=>IM (fm rfl) _ _ rfl g 0 (hS 12 20 (by kernel_rfl) rfl).here [ae ak p.s,ae ak p.h,ae ak p.m,aj p.z] _ (CM (HX.out.below hb HX.out.lt) 0 [ae ak p.s,ae ak p.h,ae ak p.m,aj p.z] (fun i hi=>by rcases i with _|_|_|_|i<;>first|rfl|(simp at hi;omega))) underlying55 rfl (T7 ..) (fw rfl) hK) ?_;refine fk.cons (fun aa wv hb ha hS Kk Qq hK=>yr (fm rfl) 160 _ _ rfl (enters_of func160 (by kernel_rfl) rfl) #[af Ah (hn+n) hc,ae ak (hn:Int),ai #[ae ak p.s,ae ak p.h,ae ak p.m,aj p.z]] (by simp[(show aa.eval (.tmp 10)=af Ah (hn+n) hc from(hS 2 10 (by kernel_rfl) rfl).here),(show aa.eval (.tmp 16)=ae ak (hn:Int)from(hS 8 16 (by kernel_rfl) rfl).here),(show aa.eval (.tmp 21)=ai #[ae ak p.s,ae ak p.h,ae ak p.m,aj p.z]from(hS 13 21 (by kernel_rfl) rfl).here)]) (CT.out wv hb) (fun ee w' ⟨A',n',c',h1,h2,h3⟩=>⟨_,h1,h3,fun W hW=>⟨_,_,_,rfl,(h2.below hW fe).more hW.size⟩⟩) hK) ?_;refine fk.cons (fun aa wv hb ha hS Kk Qq hK=>iL (fm rfl) _ rfl (hS 14 22 (by kernel_rfl) rfl) hK) ?_;refine fk.cons (fun aa wv hb ha hS Kk Qq hK=>by have hs:=hS 15 7 (by kernel_rfl) rfl;obtain⟨a1,a2,a3,e1,r1⟩:=hs.here;exact ui (fm rfl) _ _ rfl _ _ e1 (by go_simp) (fun W hW=>⟨_,_,_,rfl,(r1.below hW fe).more hW.size⟩) hK) ?_;refine fk.cons (fun aa wv hb ha hS Kk Qq hK=>by have hs:=hS 15 7 (by kernel_rfl) rfl;obtain⟨a1,a2,a3,e1,r1⟩:=hs.here;exact ui (fm rfl) _ _ rfl _ _ e1 (by go_simp) (fw rfl) hK) ?_;refine fk.cons (fun aa wv hb ha hS Kk Qq hK=>v7 (fm rfl) _ rfl (hS 16 23 (by kernel_rfl) rfl) hK) ?_;refine fk.cons (fun aa wv hb ha hS Kk Qq hK=>v7 (fm rfl) _ rfl (hS 17 24 (by kernel_rfl) rfl) hK) ?_;exact fk.nil
 intro vals w5 hb hv
 obtain⟨A',n',c',e5,r5⟩:=(hv 18 5 rfl).here
 have HB:=fa hb;have HR:=fa r5
 clear hb hv r5
 simp only[List.map_cons,List.map_nil,U0,Act.put,List.setIfInBounds_toArray,List.set_cons_zero,List.set_cons_succ,e5]
 clear e5
 go_wp2
 go_ret
 exact⟨A',n',c',rfl,HR.out,HB.out⟩
end Go.Proofs.YtgokdgcmkcmjeaaGreat
