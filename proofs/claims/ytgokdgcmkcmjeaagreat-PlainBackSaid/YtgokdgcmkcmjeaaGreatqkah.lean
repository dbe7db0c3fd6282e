/-
  Words and walks.
-/
import Derived.Test.YtgokdgcmkcmjeaaGreatqkaa
import Derived.Test.YtgokdgcmkcmjeaaGreatqkab
import Derived.Test.YtgokdgcmkcmjeaaGreatqkac
import Derived.Test.YtgokdgcmkcmjeaaGreatqkad
import Derived.Test.YtgokdgcmkcmjeaaGreatqkaf
import Derived.Test.YtgokdgcmkcmjeaaGreatqkag
set_option maxRecDepth 100000
set_option maxHeartbeats 16000000
namespace Go.Proofs.YtgokdgcmkcmjeaaGreat
open Value renaming int → ae, slice → af, pointer → ag, agg → ai, bool → aj
open IntKind renaming i64 → ak
open Obj renaming cells → ao
open Ending renaming returned → aq
open Go renaming World → au, Addr → aw, Calls → ax, Value → ay, wpList_store_rowTo → aD, wpList_buildTo → aE, wpList_load_mid → aG, heap_alloc_new → aH, cell_of_row → aI, setRow_heap → aJ, madeCells → aK, bodyPost_ret → aL
open Go.RowKit renaming intOf → aQ, Hid → aR, Below → aS
open _root_.Go.Proofs.Tryz
open Go.RowKit
def z5:Array ay:=#[ae .u8 0,aj false,ae ak 0,af none 0 0,af none 0 0]
def iu(kd:Nat)(last:Bool)(left:Nat)(c1 c2:Nat->Int)(v1 v2:ay):Array ay:=(ae .u8 (kd:Int)::aj last::ae ak (left:Int)::(iS c1 v1++iS c2 v2)).toArray
theorem By:(prog.info? 28).map (fun i=>(i.zero,i.size))=some (some (ai (iu 0 false 0 (fun _=>0) (fun _=>0) (af none 0 0) (af none 0 0))),37):=by kernel_rfl
theorem rC(k:Nat)(b:Bool)(l:Nat)(c1 c2:Nat->Int)(v1 v2:ay):(iu k b l c1 c2 v1 v2).size=37:=by simp[iu,iS,lS]
theorem oJ(cs:Array ay)(h:cs.size=37):(prog.info? 28).map (·.size)=some cs.size:=by rw[h];exact(zero_of_info By).2
def yb:Nat->List ay->Array ay->Array ay
 |_,[],cs=>cs
 |o,v::r,cs=>yb (o+1) r (cs.setIfInBounds o v)
theorem fg.setCells{g:Nat}{t:TypeId}:∀(vs:List ay) (o:Nat) (w:au) (cs:Array ay),fg w g cs t->fg (w.setCells g o vs) g (yb o vs cs) t
 |[],_,_,_,h=>h
 |v::r,o,_,_,h=>fg.setCells r (o+1) _ _ (h.set o v)
theorem Hh(k:Nat)(b:Bool)(l:Nat)(c1 c2 d:Nat->Int)(v1 v2 u:ay):yb 3 (iS d u) (iu k b l c1 c2 v1 v2)=iu k b l d c2 u v2:=by kernel_rfl
theorem Hj(k:Nat)(b:Bool)(l:Nat)(c1 c2 d:Nat->Int)(v1 v2 u:ay):yb 20 (iS d u) (iu k b l c1 c2 v1 v2)=iu k b l c1 d v1 u:=by kernel_rfl
theorem yc{w:au}{g:Nat}{cs:Array ay}{t:TypeId}(h:fg w g cs t)(o n:Nat)(hn:o+n<=cs.size):w.there g o n:=fun j hj=>by
 refine⟨?_,h.free⟩;rw[h.cell,Array.getElem?_eq_getElem (by omega)];rfl
theorem vP{B:Nat}{a:au}{g:Nat}(hg:B<=g):∀(vs:List ay) (o:Nat) (w:au),aS B a w->aS B a (w.setCells g o vs)
 |[],_,_,h=>h
 |v::r,o,_,h=>vP hg r (o+1) _ (h.setCell hg v)
theorem vQ{g i:Nat}(hi:i≠g):∀(vs:List ay) (o:Nat) (w:au),(w.setCells g o vs).heap[i]?=w.heap[i]?
 |[],_,_=>rfl
 |v::r,o,w=>(vQ hi r (o+1) (w.setCell ⟨g,o,none⟩ v)).trans (Below.heap_setCell w ⟨g,o,none⟩ v i hi)
theorem Hk(k:Nat)(b:Bool)(l:Nat)(c1 c2:Nat->Int)(v1 v2:ay)(h1:v1.oneCell'=true)(h2:v2.oneCell'=true):(iu k b l c1 c2 v1 v2).all (·.oneCell')=true:=by
 have ht:∀(c:Nat->Int) (v:ay),v.oneCell'=true->∀x∈iS c v,x.oneCell'=true:=fun c v h x hx=>by
  rcases List.mem_append.1 hx with hx|hx
  ·obtain⟨i,_,rfl⟩:=List.mem_map.1 hx;rfl
  ·rw[List.mem_singleton.1 hx];exact h
 refine all_oneCell_toArray fun x hx=>?_
 rcases List.mem_cons.1 hx with rfl|hx
 ·rfl
 rcases List.mem_cons.1 hx with rfl|hx
 ·rfl
 rcases List.mem_cons.1 hx with rfl|hx
 ·rfl
 rcases List.mem_append.1 hx with hx|hx
 ·exact ht _ _ h1 x hx
 ·exact ht _ _ h2 x hx
theorem yd(fL:Bool)(y:Nat):(if fL then mO (y:Int)else mN (y:Int))=((kx fL y:Nat):Int)/\kx fL y<=13:=by
 unfold kx;cases fL
 ·have:=(MQ (y:Int)).2;simp only[Bool.false_eq_true,if_false];omega
 ·have:=(MR (y:Int)).2;simp only[if_true];omega
theorem P2(w:au)(p:Nat)(A:Option aw)(l c:Nat)(g:Nat->Nat)(s:Rz)(h:fx w p A l c s)(S:Nat->Prop)(hS:S p)(hg:jN S w A l g)(hl:l<=1000000)(hs:s.1<=8*l)(y:Nat):
  ax prog 64 #[ag (some ⟨p,0,none⟩),ae ak (y:Int),.func (.func 65) #[] #[],.func (.func 66) #[] #[]] w fun e w'=>e=aq (ae ak (oE false y g l s))/\fx w' p A l c (kZ false y g l s)/\Fr (At p) w w':=by
 have a4:aR (∀j,At p j->S j):=fa fun j (e:j=p)=>e▸hS
 have HE:=fa fun V=>Ok V (y:Int)
 have HO:=fa fun V x=>Om V (y:Int) x
 have e1:=(yd false y).1
 have a5:=(yd false y).2
 simp only[Bool.false_eq_true,if_false]at e1
 rw[e1]at HE
 have d1:mC false y=oU (y:Int):=rfl
 rw[<-d1]at HE
 have d2:∀x:Nat,pQ false y x=kK (y:Int) (x:Int):=fun _=>rfl
 have d3:∀x:Nat,oD false y x=kL (y:Int) (x:Int):=fun _=>rfl
 have n1:oE false y g l s=oD false y (fT g l (kx false y) (mE false y s)):=rfl
 have n2:kZ false y g l s=jv (fR l (kx false y) (mE false y s)) (pQ false y (fT g l (kx false y) (mE false y s))):=rfl
 have n3:mE false y s=jv s (mC false y):=rfl
 obtain⟨s1,aU⟩:=fb (mE false y s)
 rw[<-aU]at n1 n2 n3
 have a6:s1.1<=8*l:=by rw[n3,tP];exact hs
 obtain⟨b,hb⟩:=fb (kx false y)
 obtain⟨E,hE⟩:=fb (mC false y)
 rw[<-hb]at HE a5 n1 n2
 rw[<-hE]at HE n3
 have hV:fT g l b s1=fT g l b s1:=rfl
 obtain⟨x,hx⟩:=fb (fT g l b s1)
 rw[<-hx]at n1 n2
 have ad:=fa fun V=>HO.out V (x:Int)
 rw[<-d2,<-d3]at ad
 obtain⟨v,hv⟩:=fb (oD false y x)
 obtain⟨q,hq⟩:=fb (pQ false y x)
 rw[<-hv,<-hq]at ad
 rw[<-hv]at n1
 rw[<-hq]at n2
 rw[n1,n2]
 have HR:=fa h;have HG:=fa hg;have HX:=fa hx;have a7:=fa n3
 clear h hg hx n3 n1 n2 hv hq hE hb aU hV d1 d2 d3 e1 HO hS hs
 go_enter func64,ntmps64
 go_wp2_with fail
 refine(HE.out w).mono ?_
 rintro e w1 ⟨rfl,ah⟩
 have aV:=fa (fg.below HR.out ah HR.out.lt:fx w1 p A l c s);have aW:=fa (Fr.of (S:=At p) ah);have aX:=fa (HG.out.fr (Fr.of ah))
 have al:=fa (ry w1 p A l c s aV.out E)
 rw[<-a7.out]at al
 clear ah HE HR HG
 go_wp2_with fail
 refine al.out.mono ?_
 rintro e w2 ⟨rfl,r2,f2⟩
 have aY:=fa r2;have aZ:=fa (aW.out.trans f2);have a1:=fa (aX.out.fr (f2.mono a4.out))
 have HT:=fa (xM w2 p A l c g s1 aY.out a1.out.1 hl a6 b (by omega))
 rw[<-HX.out]at HT
 clear r2 f2 al aV aW aX
 go_wp2_with fail
 refine HT.out.mono ?_
 rintro e w3 ⟨rfl,r3,f3⟩
 have av:=fa r3;have a2:=fa (aZ.out.trans f3)
 clear r3 f3 HT aY aZ a1
 go_wp2_with fail
 refine(ad.out w3).mono ?_
 rintro e w4 ⟨rfl,aT⟩
 have a8:=fa (fg.below av.out aT av.out.lt:fx w4 p A l c (fR l b s1));have a9:=fa (a2.out.on aT)
 have a3:=fa (ry w4 p A l c _ a8.out q)
 clear aT ad av a2
 go_wp2_with fail
 refine a3.out.mono ?_
 rintro e w5 ⟨rfl,r5,f5⟩
 have bf:=fa r5;have bg:=fa (a9.out.trans f5)
 clear r5 f5 a3
 go_wp2
 go_ret
 exact⟨rfl,bf.out,bg.out⟩
theorem P3(w:au)(p:Nat)(A:Option aw)(l c:Nat)(g:Nat->Nat)(s:Rz)(h:fx w p A l c s)(S:Nat->Prop)(hS:S p)(hg:jN S w A l g)(hl:l<=1000000)(hs:s.1<=8*l)(y:Nat):
  ax prog 64 #[ag (some ⟨p,0,none⟩),ae ak (y:Int),.func (.func 67) #[] #[],.func (.func 68) #[] #[]] w fun e w'=>e=aq (ae ak (oE true y g l s))/\fx w' p A l c (kZ true y g l s)/\Fr (At p) w w':=by
 have a4:aR (∀j,At p j->S j):=fa fun j (e:j=p)=>e▸hS
 have HE:=fa fun V=>Ol V (y:Int)
 have HO:=fa fun V x=>On V (y:Int) x
 have e1:=(yd true y).1
 have a5:=(yd true y).2
 simp only[if_true]at e1
 rw[e1]at HE
 have d1:mC true y=oV (y:Int):=rfl
 rw[<-d1]at HE
 have d2:∀x:Nat,pQ true y x=lp (y:Int) (x:Int):=fun _=>rfl
 have d3:∀x:Nat,oD true y x=kM (y:Int) (x:Int):=fun _=>rfl
 have n1:oE true y g l s=oD true y (fT g l (kx true y) (mE true y s)):=rfl
 have n2:kZ true y g l s=jv (fR l (kx true y) (mE true y s)) (pQ true y (fT g l (kx true y) (mE true y s))):=rfl
 have n3:mE true y s=jv s (mC true y):=rfl
 obtain⟨s1,aU⟩:=fb (mE true y s)
 rw[<-aU]at n1 n2 n3
 have a6:s1.1<=8*l:=by rw[n3,tP];exact hs
 obtain⟨b,hb⟩:=fb (kx true y)
 obtain⟨E,hE⟩:=fb (mC true y)
 rw[<-hb]at HE a5 n1 n2
 rw[<-hE]at HE n3
 have hV:fT g l b s1=fT g l b s1:=rfl
 obtain⟨x,hx⟩:=fb (fT g l b s1)
 rw[<-hx]at n1 n2
 have ad:=fa fun V=>HO.out V (x:Int)
 rw[<-d2,<-d3]at ad
 obtain⟨v,hv⟩:=fb (oD true y x)
 obtain⟨q,hq⟩:=fb (pQ true y x)
 rw[<-hv,<-hq]at ad
 rw[<-hv]at n1
 rw[<-hq]at n2
 rw[n1,n2]
 have HR:=fa h;have HG:=fa hg;have HX:=fa hx;have a7:=fa n3
 clear h hg hx n3 n1 n2 hv hq hE hb aU hV d1 d2 d3 e1 HO hS hs
 go_enter func64,ntmps64
 go_wp2_with fail
 refine(HE.out w).mono ?_
 rintro e w1 ⟨rfl,ah⟩
 have aV:=fa (fg.below HR.out ah HR.out.lt:fx w1 p A l c s);have aW:=fa (Fr.of (S:=At p) ah);have aX:=fa (HG.out.fr (Fr.of ah))
 have al:=fa (ry w1 p A l c s aV.out E)
 rw[<-a7.out]at al
 clear ah HE HR HG
 go_wp2_with fail
 refine al.out.mono ?_
 rintro e w2 ⟨rfl,r2,f2⟩
 have aY:=fa r2;have aZ:=fa (aW.out.trans f2);have a1:=fa (aX.out.fr (f2.mono a4.out))
 have HT:=fa (xM w2 p A l c g s1 aY.out a1.out.1 hl a6 b (by omega))
 rw[<-HX.out]at HT
 clear r2 f2 al aV aW aX
 go_wp2_with fail
 refine HT.out.mono ?_
 rintro e w3 ⟨rfl,r3,f3⟩
 have av:=fa r3;have a2:=fa (aZ.out.trans f3)
 clear r3 f3 HT aY aZ a1
 go_wp2_with fail
 refine(ad.out w3).mono ?_
 rintro e w4 ⟨rfl,aT⟩
 have a8:=fa (fg.below av.out aT av.out.lt:fx w4 p A l c (fR l b s1));have a9:=fa (a2.out.on aT)
 have a3:=fa (ry w4 p A l c _ a8.out q)
 clear aT ad av a2
 go_wp2_with fail
 refine a3.out.mono ?_
 rintro e w5 ⟨rfl,r5,f5⟩
 have bf:=fa r5;have bg:=fa (a9.out.trans f5)
 clear r5 f5 a3
 go_wp2
 go_ret
 exact⟨rfl,bf.out,bg.out⟩
theorem ud{fn:Func}{p u:Tmp}(h:fn.results=#[.cell p 36,.tmp u])(tmps:Array ay)(w:au)(g:Nat)(cs:Array ay)(hs:cs.size=3)(hp:tmps.getD p undef=ag (some ⟨g,0,none⟩))(ht:w.heap[g]?=some (ao cs 36 (0,0))):
  (results fn tmps).run prog w=.ok (.tuple #[ai cs,tmps.getD u undef]) w:=by
 have ad:tmps[p]?.getD undef=ag (some ⟨g,0,none⟩):=by simpa using hp
 have hl:=run_loadVar_row (P:=prog) w g 36 36 cs (0,0) _ ht underlying36 rfl (by rw[hs];exact mT)
 simp[results,h,ad,asAddr,hl]
def ye(t:fi):Array ay:=#[ae .u8 (t.x:Int),ae ak t.d,ae ak t.n]
def yf(r:fi×Bool×Rz):ay:=.tuple #[ai (ye r.1),aj r.2.1]
theorem P4(t:fi):(ye t).all (·.oneCell')=true:=ub _ _ _
theorem Hl{k:fP}{g:Nat->Nat}{L:Nat}{s:Rz}(h:k.kind=0)(h2:k.left=0):gC k g L s=(nW,true,s):=by unfold gC;rw[if_pos h,if_pos h2]
theorem P5{k:fP}{g:Nat->Nat}{L:Nat}{s:Rz}(h:k.kind=0)(h2:¬k.left=0):gC k g L s=(⟨fT g L 8 s,0,0⟩,false,fR L 8 s):=by unfold gC;rw[if_pos h,if_neg h2]
theorem P6{k:fP}{g:Nat->Nat}{L y:Nat}{s s1:Rz}(h:¬k.kind=0)(hy:jM (UT k.F k.n g L s.1 17 0) s=y)(h1:jf (UT k.F k.n g L s.1 17 0) s=s1)(h2:y<256):gC k g L s=(⟨y,0,0⟩,false,s1):=by unfold gC;rw[if_neg h];simp only[hy,h1];rw[if_pos h2]
theorem P7{k:fP}{g:Nat->Nat}{L y:Nat}{s s1:Rz}(h:¬k.kind=0)(hy:jM (UT k.F k.n g L s.1 17 0) s=y)(h1:jf (UT k.F k.n g L s.1 17 0) s=s1)(h2:y=256):gC k g L s=(nW,true,s1):=by unfold gC;rw[if_neg h];simp only[hy,h1];rw[if_neg (by omega),if_pos h2]
theorem P8{k:fP}{g:Nat->Nat}{L y z:Nat}{s s1 s2 s3:Rz}(h:¬k.kind=0)(hy:jM (UT k.F k.n g L s.1 17 0) s=y)(h1:jf (UT k.F k.n g L s.1 17 0) s=s1)(h2:¬y<256)(h3:¬y=256)(h4:kZ false y g L s1=s2)(hz:jM (UT k.G k.m g L s2.1 17 0) s2=z)(h5:jf (UT k.G k.m g L s2.1 17 0) s2=s3):
  gC k g L s=(⟨0,oE true z g L s3,oE false y g L s1⟩,false,kZ true z g L s3):=by unfold gC;rw[if_neg h];simp only[hy,h1,h4,hz,h5];rw[if_neg h2,if_neg h3]
theorem P9(w:au)(p:Nat)(A:Option aw)(l c:Nat)(g:Nat->Nat)(s:Rz)(h:fx w p A l c s)(hg:fB w w.heap.size A l g)(hl:l<=1000000)(hs:s.1<=8*l)(k:fP)(h0:k.kind=0):
  ax prog 62 #[ag (some ⟨p,0,none⟩),ae ak (k.left:Int)] w fun e w'=>e=aq (yf (gC k g l s))/\fx w' p A l c (gC k g l s).2.2/\Fr (At p) w w':=by
 obtain⟨b,hb⟩:=fb (w.heap.size)
 have hp:=h.lt
 obtain⟨W1,ad⟩:=fb (w.alloc (ao #[ae .u8 0,ae ak 0,ae ak 0] 36))
 have ah:aS b w W1:=by rw[ad,hb];exact fz.alloc fe _
 have t1:fg W1 b #[ae .u8 0,ae ak 0,ae ak 0] 36:=by rw[ad,hb];exact fg.new w _ _
 have r1:fx W1 p A l c s:=fg.below h ah (by omega)
 have aV:=fa (Fr.of (S:=At p) (hb▸ah))
 have hT:=qw W1 p A l c g s r1 ((hg.below (hb▸ah) fe).more ah.size) hl hs 8 8 rfl (by omega)
 have al:=mF g l 8 s
 have aT:aR (¬At p b):=fa (by show¬b=p;omega)
 by_cases y0:k.left=0
 ·rw[Hl h0 y0,y0];have aY:=fa r1;have av:=fa t1;have aU:=fa ad;have HB:=fa hb
  clear h hg hT al t1 ad hb ah hp r1 y0 h0 hs;go_enter func62,ntmps62
  go_wp2_with (first
   |(rw[<-aU.out,<-HB.out])
   |(refine aE rfl 36 #[] rfl (some 8) rfl #[ae .u8 0,ae ak 0,ae ak 0] ?_ ?_;focus(simpa[Act.eval]using G5))
   |(refine aD rfl _ _ _ rfl rfl b #[ae .u8 0,ae ak 0,ae ak 0] rfl rfl 36 #[ae .u8 0,ae ak 0,ae ak 0] av.out mT rfl (ub _ _ _) ?_)
   |fail)
  refine aL ((ud rfl _ _ b _ rfl rfl (aJ _ _ _ _ _ _ av.out)).trans rfl) rfl ⟨rfl,?_,?_⟩
  ·exact fg.gV aY.out (fun e=>aT.out e.symm) _
  ·exact aV.out.from (Fr.row _ b _) fun j hj=>.inr (by rw[<-HB.out];exact Nat.le_of_eq hj.symm)
 ·rw[P5 h0 y0];obtain⟨x,hx⟩:=fb (fT g l 8 s);rw[<-hx]at hT al⊢;have a2:x<256:=al;obtain⟨q,hq⟩:=fb (k.left);rw[<-hq]at y0⊢;have d0:((q:Int)==0)=false:=beq_eq_false_iff_ne.2 (by omega);have av:=fa t1;have aU:=fa ad;have HB:=fa hb;have aW:=fa hT
  clear h hg hT al t1 ad hb ah hp r1 y0 h0 hs hx hq;go_enter func62,ntmps62
  go_wp2_with (first|(rw[<-aU.out,<-HB.out])|fail)
  refine aW.out.mono ?_;rintro e w2 ⟨rfl,r2,f2⟩;have aZ:=fa r2;have a1:=fa (aV.out.trans f2);have aX:=fa (av.out.fr f2 aT.out)
  clear r2 f2 aW;go_wp2_with (first
   |(refine aE rfl 36 #[(0,.tmp 11)] rfl (some 12) rfl #[ae .u8 (x:Int),ae ak 0,ae ak 0] ?_ ?_;focus(simpa[Act.eval]using G6 x))
   |(refine aD rfl _ _ _ rfl rfl b #[ae .u8 (x:Int),ae ak 0,ae ak 0] rfl rfl 36 #[ae .u8 0,ae ak 0,ae ak 0] aX.out mT rfl (ub _ _ _) ?_)
   |fail)
  refine aL ((ud rfl _ _ b _ rfl rfl (aJ _ _ _ _ _ _ aX.out)).trans rfl) rfl ⟨rfl,?_,?_⟩
  ·exact fg.gV aZ.out (fun e=>aT.out e.symm) _
  ·exact a1.out.from (Fr.row _ b _) fun j hj=>.inr (by rw[<-HB.out];exact Nat.le_of_eq hj.symm)
theorem Hm{w:au}{b:Nat}{kd:Nat}{last:Bool}{left:Nat}{c1 c2:Nat->Int}{v1 v2:ay}(h:fg w b (iu kd last left c1 c2 v1 v2) 28):w.rangeAt b 3 (iS c1 v1)/\w.rangeAt b 20 (iS c2 v2):=by
 have hl:∀(c:Nat->Int) (v:ay),(iS c v).length=17:=fun c v=>by simp[iS,lS]
 constructor
 ·intro j u hu;have hj:j<17:=by rw[<-hl c1 v1];exact(List.getElem?_eq_some_iff.1 hu).1
  rw[aI w b _ _ _ (0,0) h];show(iu kd last left c1 c2 v1 v2)[3+j]?=some u
  unfold iu;rw[List.getElem?_toArray,Nat.add_comm 3 j];show((iS c1 v1++iS c2 v2):List ay)[j]?=some u
  rw[List.getElem?_append_left (by rw[hl];exact hj)];exact hu
 ·intro j u hu;have hj:j<17:=by rw[<-hl c2 v2];exact(List.getElem?_eq_some_iff.1 hu).1
  rw[aI w b _ _ _ (0,0) h];show(iu kd last left c1 c2 v1 v2)[20+j]?=some u
  unfold iu;rw[List.getElem?_toArray,show 20+j=(j+17)+3 by omega];show((iS c1 v1++iS c2 v2):List ay)[j+17]?=some u
  rw[List.getElem?_append_right (by rw[hl];omega),hl,Nat.add_sub_cancel];exact hu
def Qa(S:Nat->Prop)(w:au)(k:fP)(c1 c2:Nat->Int)(v1 v2:ay):Prop:=k.kind≠0->pd S w (fG k.n k.F) c1 v1/\pd S w (fG k.m k.G) c2 v2
theorem Qb(w:au)(p:Nat)(A:Option aw)(l c:Nat)(g:Nat->Nat)(s:Rz)(h:fx w p A l c s)(S:Nat->Prop)(hS:S p)(_ad:∀j,S j->j<w.heap.size)(hg:jN S w A l g)(hl:l<=1000000)(hs:s.1<=8*l)(k:fP)(_ah:k.kind<256)(_al:k.left<=65535)(hn:k.n<=320)(hm:k.m<=320)
  (c1 c2:Nat->Int) (v1 v2:ay) (h1:v1.oneCell'=true) (h2:v2.oneCell'=true) (ht:s.2=0->Qa S w k c1 c2 v1 v2):
  ax prog 29 #[ag (some ⟨p,0,none⟩),ai (iu k.kind k.last k.left c1 c2 v1 v2)] w fun e w'=>e=aq (yf (gC k g l s))/\fx w' p A l c (gC k g l s).2.2/\Fr (At p) w w':=by
 obtain⟨b,hb⟩:=fb (w.heap.size)
 have hp:=h.lt
 obtain⟨X,hX⟩:=fb (iu k.kind k.last k.left c1 c2 v1 v2)
 rw[<-hX]
 obtain⟨W1,aT⟩:=fb ((w.alloc (ao X 28)).alloc (ao #[ae .u8 0,ae ak 0,ae ak 0] 36))
 have aZ:aS b w W1:=by rw[aT,hb];exact(fz.alloc fe _).alloc (by simp) _
 have x1:fg W1 b X 28:=by rw[aT,hb];exact(fg.new w _ _).old _
 have t1:fg W1 (b+1) #[ae .u8 0,ae ak 0,ae ak 0] 36:=by rw[aT,hb];have:=fg.new (w.alloc (ao X 28)) #[ae .u8 0,ae ak 0,ae ak 0] 36;rwa[World.size_alloc]at this
 have r1:fx W1 p A l c s:=fg.below h aZ (by omega)
 have fW:∀T:Nat->Prop,Fr T w W1:=fun T=>Fr.of (hb▸aZ)
 have g1:=hg.fr (fW S)
 have a6:=fa (fW (At p))
 have aU:aR (¬At p b/\¬At p (b+1)):=fa ⟨by show¬b=p;omega,by show¬b+1=p;omega⟩
 have a7:aR (∀j,At p j->S j):=fa fun j (e:j=p)=>e▸hS
 have q0:X[0]?=some (ae .u8 (k.kind:Int)):=by rw[hX];rfl
 have q2:X[2]?=some (ae ak (k.left:Int)):=by rw[hX];rfl
 have a0:W1.cell? ⟨b,0,none⟩=some (ae .u8 (k.kind:Int)):=x1.cell.trans q0
 have a2:W1.cell? ⟨b,2,none⟩=some (ae ak (k.left:Int)):=x1.cell.trans q2
 by_cases k0:k.kind=0
 ·have a8:=P9 W1 p A l c g s r1 g1.1 hl hs k k0;obtain⟨⟨tk,en,s'⟩,hr⟩:∃r,r=gC k g l s:=⟨_,rfl⟩;rw[<-hr]at a8⊢;have d0:((k.kind:Int)==0)=true:=by rw[k0];rfl
  obtain⟨q,hq⟩:=fb (k.left);obtain⟨kd,av⟩:=fb (k.kind);rw[<-hq]at a8 a2;rw[<-av]at a0 d0;have bE:=fa a8;have a1:=fa t1;have a3:=fa aT;have HB:=fa hb
  clear h hg a8 t1 aT hb aZ hp r1 k0 hs hq av x1 fW g1 q0 q2 hX ht _ad hS _ah _al hr;go_enter func29,ntmps29
  go_wp2_with (first|(rw[<-a3.out,<-HB.out])|fail)
  refine bE.out.mono ?_;rintro e w2 ⟨rfl,r2,f2⟩;have aY:=fa r2;have aW:=fa (a6.out.trans f2);have aX:=fa (a1.out.fr f2 aU.out.2)
  obtain⟨Y,hY⟩:=fb (ye tk);have bx:aR (Y.size=3):=fa (by rw[hY];rfl);have bO:aR (Y.all (·.oneCell')=true):=fa (by rw[hY];exact P4 _);have bP:=fa hY;unfold yf;rw[<-hY];clear r2 f2 bE hY;go_wp2_with (first
   |(refine aD rfl _ _ _ rfl rfl (b+1) Y rfl rfl 36 #[ae .u8 0,ae ak 0,ae ak 0] aX.out (by rw[bx.out];exact mT) (by rw[bx.out];rfl) bO.out ?_)
   |fail)
  refine aL ((ud rfl _ _ (b+1) Y bx.out rfl (aJ _ _ _ _ _ _ aX.out)).trans rfl) rfl ⟨by rw[bP.out];rfl,?_,?_⟩
  ·exact fg.gV aY.out (fun e=>aU.out.2 e.symm) _
  ·exact aW.out.from (Fr.row _ (b+1) _) fun j hj=>.inr (by rw[<-HB.out];have:j=b+1:=hj;omega)
 have d0:((k.kind:Int)==0)=false:=beq_eq_false_iff_ne.2 (by omega)
 have hC:=AP W1 p A l c g s r1 g1.1 hl hs S (fG k.n k.F) c1 v1 h1 (fun e=>((ht e) k0).1.fr (fW S))
 rw[tK hn]at hC
 have a9:s.2=0->pd S W1 (fG k.m k.G) c2 v2:=fun e=>((ht e) k0).2.fr (fW S)
 have bf:aR (W1.rangeAt b 3 (iS c1 v1)):=fa (Hm (hX▸x1)).1
 have bF:aR (∀W,Fr (At p) W1 W->W.rangeAt b 20 (iS c2 v2)):=fa fun W f=>(Hm (hX▸x1.fr f aU.out.1)).2
 have bg:(jf (UT k.F k.n g l s.1 17 0) s).1<=8*l:=rr hs
 obtain⟨y,hy⟩:=fb (jM (UT k.F k.n g l s.1 17 0) s)
 obtain⟨s1,aV⟩:=fb (jf (UT k.F k.n g l s.1 17 0) s)
 rw[<-hy,<-aV]at hC
 rw[<-aV]at bg
 have a1:=fa t1;have a3:=fa aT;have HB:=fa hb;have HC:=fa hC;have bQ:=fa g1
 by_cases y1:y<256
 ·rw[P6 k0 hy.symm aV.symm y1];have e1:decide ((y:Int)<256)=true:=kP (by omega);obtain⟨kd,av⟩:=fb (k.kind);rw[<-av]at a0 d0;clear h hg hC t1 aT hb aZ hp r1 k0 hs x1 fW g1 q0 q2 hX ht _ad hS _ah _al a2 hy aV a9 av;go_enter func29,ntmps29
  go_wp2_with (first
   |(rw[<-a3.out,<-HB.out])
   |(refine aG rfl _ _ rfl b 3 rfl (iS c1 v1) _ bf.out underlying26 rfl (tS _ _) ?_)
   |fail)
  refine HC.out.mono ?_;rintro e w2 ⟨rfl,r2,f2⟩;have aY:=fa r2;have aW:=fa (a6.out.trans f2);have aX:=fa (a1.out.fr f2 aU.out.2)
  clear r2 f2 HC;go_wp2_with (first
   |(refine aE rfl 36 #[(0,.tmp 25)] rfl (some 26) rfl #[ae .u8 (y:Int),ae ak 0,ae ak 0] ?_ ?_;focus(simpa[Act.eval]using G6 y))
   |(refine aD rfl _ _ _ rfl rfl (b+1) #[ae .u8 (y:Int),ae ak 0,ae ak 0] rfl rfl 36 #[ae .u8 0,ae ak 0,ae ak 0] aX.out mT rfl (ub _ _ _) ?_)
   |fail)
  refine aL ((ud rfl _ _ (b+1) _ rfl rfl (aJ _ _ _ _ _ _ aX.out)).trans rfl) rfl ⟨rfl,?_,?_⟩
  ·exact fg.gV aY.out (fun e=>aU.out.2 e.symm) _
  ·exact aW.out.from (Fr.row _ (b+1) _) fun j hj=>.inr (by rw[<-HB.out];have:j=b+1:=hj;omega)
 have e1:decide ((y:Int)<256)=false:=lq (by omega)
 by_cases y2:y=256
 ·rw[P7 k0 hy.symm aV.symm y2];have e2:((y:Int)==256)=true:=by rw[y2];rfl
  obtain⟨kd,av⟩:=fb (k.kind);rw[<-av]at a0 d0;clear h hg hC t1 aT hb aZ hp r1 k0 hs x1 fW g1 q0 q2 hX ht _ad hS _ah _al a2 hy aV a9 av y1 y2;go_enter func29,ntmps29
  go_wp2_with (first
   |(rw[<-a3.out,<-HB.out])
   |(refine aG rfl _ _ rfl b 3 rfl (iS c1 v1) _ bf.out underlying26 rfl (tS _ _) ?_)
   |fail)
  refine HC.out.mono ?_;rintro e w2 ⟨rfl,r2,f2⟩;have aY:=fa r2;have aW:=fa (a6.out.trans f2);have aX:=fa (a1.out.fr f2 aU.out.2)
  clear r2 f2 HC;go_wp2_with (first
   |(refine aE rfl 36 #[] rfl (some 29) rfl #[ae .u8 0,ae ak 0,ae ak 0] ?_ ?_;focus(simpa[Act.eval]using G5))
   |(refine aD rfl _ _ _ rfl rfl (b+1) #[ae .u8 0,ae ak 0,ae ak 0] rfl rfl 36 #[ae .u8 0,ae ak 0,ae ak 0] aX.out mT rfl (ub _ _ _) ?_)
   |fail)
  refine aL ((ud rfl _ _ (b+1) _ rfl rfl (aJ _ _ _ _ _ _ aX.out)).trans rfl) rfl ⟨rfl,?_,?_⟩
  ·exact fg.gV aY.out (fun e=>aU.out.2 e.symm) _
  ·exact aW.out.from (Fr.row _ (b+1) _) fun j hj=>.inr (by rw[<-HB.out];have:j=b+1:=hj;omega)
 have e2:((y:Int)==256)=false:=beq_eq_false_iff_ne.2 (by omega)
 obtain⟨s2,a4⟩:=fb (kZ false y g l s1)
 obtain⟨z,hz⟩:=fb (jM (UT k.G k.m g l s2.1 17 0) s2)
 obtain⟨s3,bj⟩:=fb (jf (UT k.G k.m g l s2.1 17 0) s2)
 rw[P8 k0 hy.symm aV.symm y1 y2 a4.symm hz.symm bj.symm]
 have a5:s2.1<=8*l:=by rw[a4];exact Ak bg
 have bq:s3.1<=8*l:=by rw[bj];exact rr a5
 have bG:s2.2=0->s.2=0:=fun e=>by
  rcases Int.decEq s.2 0 with n|n
  ·exfalso;have:s2.2=s.2:=by rw[a4,aV,xF n,Aj n]
   exact n (this▸e)
  ·exact n
 have br:aR (s2.2=0->pd S W1 (fG k.m k.G) c2 v2):=fa fun e=>a9 (bG e)
 have bl:=fa fun(W:au) (r:fx W p A l c s1) (q:jN S W A l g)=>P2 W p A l c g s1 r S hS q hl bg y
 have bz:=fa fun(W:au) (r:fx W p A l c s3) (q:jN S W A l g)=>P3 W p A l c g s3 r S hS q hl bq z
 have bA:=fa fun(W:au) (r:fx W p A l c s2) (q:jN S W A l g) (t:s2.2=0->pd S W (fG k.m k.G) c2 v2)=>AP W p A l c g s2 r q.1 hl a5 S (fG k.m k.G) c2 v2 h2 t
 rw[tK hm,<-hz,<-bj]at bA
 rw[<-a4]at bl
 obtain⟨lo,bH⟩:=fb (oE false y g l s1)
 obtain⟨di,bI⟩:=fb (oE true z g l s3)
 obtain⟨s4,bJ⟩:=fb (kZ true z g l s3)
 rw[<-bH]at bl⊢
 rw[<-bI,<-bJ]at bz⊢
 obtain⟨kd,av⟩:=fb (k.kind)
 rw[<-av]at a0 d0
 clear h hg hC t1 aT hb aZ hp r1 k0 hs x1 fW g1 q0 q2 hX ht _ad hS _ah _al a2 hy aV a9 av y1 y2 bH bI bJ bj hz a4 bg a5 bq bG
 go_enter func29,ntmps29
 go_wp2_with (first
  |(rw[<-a3.out,<-HB.out])
  |(refine aG rfl _ _ rfl b 3 rfl (iS c1 v1) _ bf.out underlying26 rfl (tS _ _) ?_)
  |fail)
 refine HC.out.mono ?_
 rintro e w2 ⟨rfl,r2,f2⟩
 have aY:=fa r2;have aW:=fa f2;have bB:=fa (bQ.out.fr (f2.mono a7.out))
 have bt:=fa (bl.out w2 r2 bB.out)
 clear r2 f2 HC bl
 go_wp2_with fail
 refine bt.out.mono ?_
 rintro e w3 ⟨rfl,r3,f3⟩
 have bn:=fa (aW.out.trans f3);have bC:=fa (bB.out.fr (f3.mono a7.out))
 have bK:=fa (bA.out w3 r3 bC.out (fun e=>(br.out e).fr (bn.out.mono a7.out)))
 have bu:=fa (bF.out w3 bn.out)
 clear r3 f3 bt bA aY aW bB bF br bf
 go_wp2_with (first
  |(refine aG rfl _ _ rfl b 20 rfl (iS c2 v2) _ bu.out underlying26 rfl (tS _ _) ?_)
  |fail)
 refine bK.out.mono ?_
 rintro e w4 ⟨rfl,r4,f4⟩
 have bD:=fa (bn.out.trans f4);have bL:=fa (bC.out.fr (f4.mono a7.out))
 have bM:=fa (bz.out w4 r4 bL.out)
 clear r4 f4 bK bz bn bC bu
 go_wp2_with fail
 refine bM.out.mono ?_
 rintro e w5 ⟨rfl,r5,f5⟩
 have bR:=fa r5;have bS:=fa (bD.out.trans f5);have bN:=fa (a1.out.fr (bD.out.trans f5) aU.out.2)
 clear r5 f5 bM bD bL
 go_wp2_with (first
  |(refine aE rfl 36 #[(1,.tmp 39),(2,.tmp 40)] rfl (some 41) rfl #[ae .u8 0,ae ak di,ae ak lo] ?_ ?_;focus(simpa[Act.eval]using PR di lo))
  |(refine aD rfl _ _ _ rfl rfl (b+1) #[ae .u8 0,ae ak di,ae ak lo] rfl rfl 36 #[ae .u8 0,ae ak 0,ae ak 0] bN.out mT rfl (ub 0 _ _) ?_)
  |fail)
 refine aL ((ud rfl _ _ (b+1) _ rfl rfl (aJ _ _ _ _ _ _ bN.out)).trans rfl) rfl ⟨rfl,?_,?_⟩
 ·exact fg.gV bR.out (fun e=>aU.out.2 e.symm) _
 ·exact(a6.out.trans bS.out).from (Fr.row _ (b+1) _) fun j hj=>.inr (by rw[<-HB.out];have:j=b+1:=hj;omega)
theorem Qc(w:au)(n:Nat)(hn:n<=1000000000000):
  ax prog 117 #[af none 0 0,ae ak (n:Int)] w fun e w'=>∃A c,e=aq (af A 0 c)/\w'.ownsRow w.heap.size 5 1 (af A 0 c) 0 []/\aS w.heap.size w w':=by
 rcases Nat.eq_zero_or_pos n with h0|h0
 ·subst h0;go_enter func117,ntmps117
  go_wp2;go_ret;exact⟨none,0,rfl,World.ownsRow_nil _ _ _ _,Below.refl _ _⟩
 ·obtain⟨i0,hi,av,aW,aT⟩:=info_parts ox;have ad:=Lib.run_append_nil_zeros (P:=prog) w 22 3 22 5 i0 (ae .u8 0) ak ak underlying22 underlying3 hi av n h0 (by omega) (by omega) (by rw[aT];omega);have aX:=grownCap_ge w n 0 5;have hle:=grownCap_le_maxLen w n 0 5 (by unfold maxLen;omega);obtain⟨c,hc⟩:=fb (grownCap w n 0 5);rw[<-hc]at ad aX hle;obtain⟨Z,hZ⟩:=fb ((Builtin.zeroCells (Value.int .u8 0).cells n++Builtin.zeroCells (Value.int .u8 0).cells (c-n)));rw[<-hZ]at ad;have aU:Z.size=c*1:=by rw[hZ];simp[size_zeroCells,Value.cells];omega
  have ah:=World.ownsRow_made (base:=w.heap.size) (e:=5) (size:=1) w.drew Z c fe hle aU;have al:aS w.heap.size w (w.drew.alloc (ao Z 5)):=(Below.refl w.heap.size w).drew.alloc fe _;obtain⟨w1,aV⟩:=fb (w.drew.alloc (ao Z 5));rw[<-aV]at ad ah al;have HR:=fa ad;have HO:=fa ah;have HB:=fa al
  unfold maxLen at hle;clear ad ah al hZ aU aV hc hi av aW aT;have hp:(0:Int)<(n:Int):=by omega
  go_enter func117,ntmps117
  go_wp2_with (at_builtin;refine Lib.wpList_append_run _ rfl _ _ _ _ rfl _ _ rfl rfl _ _ HR.out ?_)
  go_ret;exact⟨_,_,rfl,HO.out,HB.out⟩
theorem Hn(w:au)(A:Option aw)(k c:Nat)(n:Nat->Nat)(f:Nat->Nat->Nat)(hf:∀i j,f i j<256)(hr:VF w w.heap.size A k n f)(hk:k<=1000000)(hs:Vg n k<=1000000000):
  ax prog 78 #[af A k c] w fun e w'=>∃A' c',e=aq (af A' (Vg n k) c')/\w'.ownsRow w.heap.size 5 1 (af A' (Vg n k) c') (Vg n k) (ft (Vg n k) (Vy n f k))/\aS w.heap.size w w':=by
 have HR:=fa hr;have HF:=fa hf;have HS:=fa hs
 obtain⟨N,hN⟩:=fb (Vg n k)
 rw[<-hN]at hs⊢
 have HN:=fa hN
 clear hr hf hN
 go_enter func78,ntmps78
 go_wp2_with fail
 go_loopw [3,11] (fun s i wr=>∃j q:Nat,j<=k/\i=ae ak (j:Int)/\s=ae ak (q:Int)/\aR (q=Vg n j)/\w=wr) (fun _ i _=>k-(aQ i).toNat)
 case atStart=>exact⟨0,0,Nat.zero_le _,rfl,rfl,fa rfl,rfl⟩
 case round=>
  obtain⟨j,q,hj,rfl,rfl,HQ,rfl⟩:=hrel;by_cases aZ:j<k
  ·have aV:(j:Int)<(k:Int):=by omega
   obtain⟨b,o,rfl,hb,ah⟩:=HR.out (by omega);obtain⟨Ai,ci,c1,_,_⟩:=ah j aZ;have ad:Vg n (j+1)=q+n j:=by rw[HQ.out];rfl
   have al:=wY n (show j+1<=k by omega);have av:=HS.out;obtain⟨m,hm⟩:=fb (n j);rw[<-hm]at c1 ad;have a5:q+m<=1000000000:=by omega
   have a6:¬((q:Int)+(m:Int)<0):=by omega
   have aT:=fa ad;clear ah ad al av hm;go_wp2;go_roundw
   case rel=>exact⟨j+1,q+m,by omega,by go_num,by go_num,fa aT.out.symm,trivial⟩
   case measure=>simp[aQ];omega
  ·obtain rfl:j=k:=by omega
   have aV:¬(j:Int)<(j:Int):=by omega
   have a1:q=N:=by rw[HQ.out,HN.out]
   subst a1;go_wp2_with fail
   refine(Qc _ q (by omega)).mono ?_;rintro e w1 ⟨A1,c1,rfl,aW,aX⟩;have a2:=fa aW;have a3:=fa aX
   clear aW aX;go_wp2_with fail
   go_loopw [6,27] (fun s i wr=>∃(t p:Nat) (At:Option aw) (ct:Nat),t<=j/\i=ae ak (t:Int)/\s=af At p ct/\aR (p=Vg n t)/\aR (wr.ownsRow w.heap.size 5 1 (af At p ct) p (ft p (Vy n f t)))/\aR (aS w.heap.size w wr)) (fun _ i _=>j-(aQ i).toNat)
   case atStart=>exact⟨0,0,A1,c1,Nat.zero_le _,rfl,rfl,fa rfl,a2,a3⟩
   case round=>
    obtain⟨t,p,At,ct,ht,rfl,rfl,HP,HO,HB⟩:=hrel;by_cases aY:t<j
    ·have aU:(t:Int)<(j:Int):=by omega
     obtain⟨b,o,rfl,hb,ah⟩:=(HR.out.below HB.out fe) (by omega);obtain⟨Ai,ci,k1,k2,k3⟩:=ah t aY;have ad:Vg n (t+1)=p+n t:=by rw[HP.out];rfl
     have al:=wY n (show t+1<=j by omega);have av:=HS.out;obtain⟨A',c',w',r1,r2,r3⟩:=wG wr w.heap.size _ (af At p ct) p _ HO.out Ai (n t) ci (f t) k2 (by omega) 22 k3 HB.out.size;obtain⟨m,hm⟩:=fb (n t);rw[<-hm]at k1 r1 r2 ad;have e1:cat (Vy n f t) p (f t)=Vy n f (t+1):=by funext x;rw[HP.out];rfl
     rw[e1]at r2;have aT:=fa ad;have R1:=fa r1;have R2:=fa r2;have R3:=fa (HB.out.trans r3)
     clear ah ad al av r1 r2 r3 k2 k3 hm e1;go_wp2_with (at_builtin;refine wpList_append_run rfl (.tmp 31) (.tmp 32) 22 rfl (af At p ct) (af Ai m ci) (af A' (p+m) c') w' rfl rfl R1.out ?_)
     go_roundw
     case rel=>exact⟨t+1,p+m,A',c',by omega,by go_num,rfl,fa aT.out.symm,R2,R3⟩
     case measure=>simp[aQ];omega
    ·obtain rfl:t=j:=by omega
     have aU:¬(t:Int)<(t:Int):=by omega
     have a4:p=q:=by rw[HP.out,HN.out]
     subst a4;go_wp2;go_ret;exact⟨At,ct,rfl,HO.out,HB.out⟩
open Go.ChangeShapes Go.WideShapes Go.ChangeAt Go.Joins
def rD(f:Nat->Nat)(n:Nat)(k:Int)(kind rn:Nat)(r:Nat->Nat)(l:List fi)(last:Bool):Int:=
 if oA f n k=false then 8 else if my kind rn l≠0 then my kind rn l else if 8388608<k.toNat+UQ (gp (k.toNat%8) kind rn r l last)then 9 else 0
def vR(f:Nat->Nat)(n:Nat)(k:Int)(kind rn:Nat)(r:Nat->Nat)(l:List fi)(last:Bool):Nat:=
 if rD f n k kind rn r l last=0 then k.toNat+UQ (gp (k.toNat%8) kind rn r l last)else 0
def vS(f:Nat->Nat)(n:Nat)(k:Int)(kind rn:Nat)(r:Nat->Nat)(l:List fi)(last:Bool):Nat->Nat:=
 if rD f n k kind rn r l last=0 then fE (ie n f) k.toNat (gp (k.toNat%8) kind rn r l last)else fun _=>0
theorem yg:prog.built 62 []=some #[af none 0 0,ae ak 0]:=by kernel_rfl
theorem uf{fn:Func}{p u:Tmp}(h:fn.results=#[.cell p 62,.tmp u])(tmps:Array ay)(w:au)(g:Nat)(cs:Array ay)(hs:cs.size=2)(hp:tmps.getD p undef=ag (some ⟨g,0,none⟩))(ht:w.heap[g]?=some (ao cs 62 (0,0))):
  (results fn tmps).run prog w=.ok (.tuple #[ai cs,tmps.getD u undef]) w:=by
 have ad:tmps[p]?.getD undef=ag (some ⟨g,0,none⟩):=by simpa using hp
 have hl:=run_loadVar_row (P:=prog) w g 62 62 cs (0,0) _ ht underlying62 rfl (by rw[hs];exact l5)
 simp[results,h,ad,asAddr,hl]
theorem Qd{f:Nat->Nat}{n:Nat}{k:Int}(hf:∀j,f j<256)(h:oA f n k=true):∃K:Nat,k=K/\K<=8388608/\n=(K+7)/8/\Ve (ie n f) K:=Em hf (by unfold lr;rw[if_pos h])
def Ho(w w':au)(e:Ending)(K:Nat)(E:Int)(F:Nat->Nat):Prop:=∃A' c' L,L=(K+7)/8/\e=aq (.tuple #[ai #[af A' L c',ae ak (K:Int)],ae ak E])/\fq w' w'.heap.size A' L c' F/\aS w.heap.size w w'/\iT w' w.heap.size A' L
def Qe:Prop:=∀(w:au) (A:Option aw) (n c:Nat) (f:Nat->Nat) (k:Int) (kind:Nat) (A1:Option aw) (rn rc:Nat) (r:Nat->Nat) (A2:Option aw) (m c2:Nat) (l:List fi) (last:Bool),fq w w.heap.size A n c f->n<=2000000->-9223372036854775808<=k->k<=9223372036854775807->kind<256->
 fq w w.heap.size A1 rn rc r->rn<=1000000->iK w w.heap.size A2 m c2 l->m<=1000000->(∀t∈l,qz t)->
 ax prog 22 #[ai #[af A n c,ae ak k],ae .u8 (kind:Int),af A1 rn rc,af A2 m c2,aj last] w fun e w'=>Ho w w' e (vR f n k kind rn r l last) (rD f n k kind rn r l last) (vS f n k kind rn r l last)
def Qf:Prop:=∀(w:au) (a:Int) (A1:Option aw) (rn rc:Nat) (r:Nat->Nat) (A2:Option aw) (m c2:Nat) (l:List fi),-9223372036854775808<=a->a<=9223372036854775807->
 fq w w.heap.size A1 rn rc r->rn<=1000000->iK w w.heap.size A2 m c2 l->m<=1000000->(∀t∈l,qz t)->
 ax prog 119 #[ae ak a,af A1 rn rc,af A2 m c2] w fun e w'=>e=aq (.tuple #[ae .u8 ((xi a rn r l:Nat):Int),ae ak (rp a rn l)])/\aS w.heap.size w w'
def Qg:Prop:=∀w:au,ax prog 140 #[] w fun e w'=>e=aq (ai (jk (fun i=>(gU i:Int)) 19))/\aS w.heap.size w w'
def Qh:Prop:=∀w:au,ax prog 87 #[] w fun e w'=>∃A1 c1 A2 c2,e=aq (.tuple #[af A1 288 c1,af A2 32 c2])/\
 w'.ownsRow w.heap.size 5 1 (af A1 288 c1) 288 (ft 288 iH)/\w'.ownsRow w.heap.size 5 1 (af A2 32 c2) 32 (ft 32 iZ)/\(∀g,(Value.slice A1 288 c1).ownBlock=some g->(Value.slice A2 32 c2).ownBlock≠some g)/\aS w.heap.size w w'
theorem Bz(c:Nat)(hc:c<4294967296):bits .and .u64 (c:Int) 4294967295=(c:Int):=by
 have h:=VV c 4294967295 (by omega) (by omega);have e:c&&&4294967295=c%4294967296:=Nat.and_two_pow_sub_one_eq_mod c 32;rw[e,Nat.mod_eq_of_lt hc]at h;exact h
theorem Qi(w:au)(c:Nat)(hc:c<=1000000):ax prog 193 #[ae .u64 1,ae .u64 (c:Int)] w fun e w'=>e=aq (.tuple #[ae .u64 0,ae .u64 (c:Int)])/\w=w':=by
 have h1:bits .and .u64 1 4294967295=(1:Int):=Bz 1 (by omega);have h2:=Bz c (by omega);have h3:(c:Int)/4294967296=0:=by omega
 have h0:bits .and .u64 0 4294967295=(0:Int):=Bz 0 (by omega);go_enter func193,ntmps193
 go_wp2;go_ret2;exact⟨rfl,rfl⟩
theorem mul_one(w:au)(c:Nat)(hc:c<=1000000):ax prog 180 #[ae .u64 1,ae .u64 (c:Int)] w fun e w'=>e=aq (.tuple #[ae .u64 0,ae .u64 (c:Int)])/\w=w':=by
 have H:=fa (Qi w c hc);go_enter func180,ntmps180
 go_wp2_with fail
 refine H.out.mono ?_;rintro e w1 ⟨rfl,rfl⟩;go_wp2;go_ret2;exact⟨rfl,rfl⟩
theorem Hp:Qg:=by
 intro w;have hz:=(zero_of_info DW).1;have f1:=Ls;obtain⟨T,hT⟩:∃T:Nat->Int,T=fun i=>(gU i:Int):=⟨_,rfl⟩
 obtain⟨Z,hZ⟩:∃Z:Nat->Int,Z=fun _=>0:=⟨_,rfl⟩
 rw[<-hT]at f1⊢;rw[<-hZ]at hz;have F1:=fa f1;have K0:aR ((w.alloc (ao (jk Z 19) 213)).heap[w.heap.size]?=some (ao (jk Z 19) 213 (0,0))):=fa (aH w _);clear hT hZ f1;go_enter func140,ntmps140
 go_wp2_with (first
  |(refine wpList_buildFlatArrTo rfl 213 3 19 _ rfl ak [16,17,18,0,8,7,9,6,10,5,11,4,12,3,13,2,14,1,15] (some 1) rfl underlying213 (by kernel_rfl) (by kernel_rfl) rfl ?_;rw[F1.out])
  |(refine aD rfl _ _ _ rfl rfl w.heap.size (jk T 19) rfl rfl 213 (jk Z 19) K0.out (DX _) (by rw[pL,pL]) (tA _ _) ?_)
  |fail)
 refine aL (v:=ai (jk T 19)) ?_ rfl ⟨rfl,oX (fz.alloc fe _) fe _⟩;exact results_cell_row rfl _ _ w.heap.size _ _ (0,0) _ rfl (aJ _ _ _ _ _ _ K0.out) underlying213 rfl (DX _)
theorem Qj(n:Nat)(h:n<=1000000000):∀u:au,(Instr.makeSlice 22 (ae ak (n:Int)) (ae ak (n:Int))).run prog u=
   .ok (af (some ⟨u.heap.size,0,none⟩) n n) (u.alloc (ao (aK #[ae .u8 0] n) 5)):=fun u=>by
 obtain⟨i0,hi,ad,ah,al⟩:=info_parts ox
 have h:=run_make (P:=prog) u 22 5 i0 _ underlying22 hi ad ak ak (n:Int) (n:Int) (by omega) (by omega) (by rw[al];omega) (by omega)
 rw[Int.toNat_natCast,ah,Nat.mul_one]at h
 exact h
def mI(v t j:Nat):Nat:=if j<t then v else 0
theorem Hq(c t m v:Nat)(h:t+m<=c):splice (ft c (mI v t)) t (ft m (fun _=>v))=ft c (mI v (t+m)):=by
 apply List.ext_getElem?;intro j;have hl:(ft m (fun _=>v)).length=m:=by simp[ft]
 have ad:(ft c (mI v t)).length=c:=by simp[ft]
 simp only[splice,List.getElem?_append,List.length_take,hl,ad,lK,List.getElem?_take,List.getElem?_drop,mI,Nat.min_eq_left (show t<=c by omega)];by_cases h1:j<t
 ·simp[h1,show j<t+m by omega]
 ·by_cases h2:j<t+m
  ·simp[h1,h2,show j-t<m by omega,show j<c by omega]
  ·simp[h1,h2,show¬j-t<m by omega];rw[show t+m+(j-t-m)=j by omega];simp[h1]
theorem Qk(c v:Nat):(aK #[ae .u8 0] c)=(ft c (mI v 0)).toArray:=by
 have h:=toList_madeCells_one (Value.int .u8 0) c;have e:ft c (mI v 0)=List.replicate c (Value.int .u8 0):=by
  apply List.ext_getElem?;intro j;rw[lK,List.getElem?_replicate];simp[mI]
 rw[e,<-h]
theorem Hr{w:au}{b o m v:Nat}(h:∀j,j<m->w.cell? ⟨b,o+j,none⟩=some (ae .u8 (v:Int))):∀(j:Nat) (u:ay),(ft m (fun _=>v))[j]?=some u->w.cell? ((⟨b,o,none⟩:aw).add j)=some u:=by
 intro j u hu;rw[lK]at hu;by_cases hj:j<m
 ·rw[if_pos hj]at hu;injection hu with hu
  subst hu;have e:(⟨b,o,none⟩:aw).add j=⟨b,o+j,none⟩:=by unfold Addr.add;split<;>simp_all
  rw[e];exact h j hj
 ·rw[if_neg hj]at hu;cases hu
theorem Ql(w:au)(b v c:Nat)(_:v<256)(aV:1<=c)(hc:c<=1000)(hb:b<w.heap.size)(hx:w.cell? ⟨b,0,none⟩=some (ae .u8 (v:Int))):
  ax prog 165 #[af (some ⟨b,0,none⟩) 1 1,ae ak (c:Int)] w fun e w'=>e=aq (af (some ⟨w.heap.size,0,none⟩) c c)/\w'.ownsRow w.heap.size 5 1 (af (some ⟨w.heap.size,0,none⟩) c c) c (ft c (fun _=>v))/\aS w.heap.size w w':=by
 have HM:=fa (mul_one w c (by omega))
 obtain⟨h,hh⟩:=fb (w.heap.size)
 obtain⟨W1,al⟩:=fb (w.alloc (ao (aK #[ae .u8 0] c) 5))
 have aT:aS h w W1:=by rw[al,hh];exact fz.alloc fe _
 have h1:W1.heap[h]?=some (ao (ft c (mI v 0)).toArray 5 (0,0)):=by
  rw[al,hh,aH,Qk c v]
 have aW:W1.cell? ⟨b,0,none⟩=some (ae .u8 (v:Int)):=(aT.cell (p:=⟨b,0,none⟩) (by rw[hh];exact hb)).trans hx
 have br:¬(c:Int)<0:=by omega
 have a6:=Qj c (by omega)
 have av:=fa al;have HH:=fa hh;have aX:=fa aT;have H1:=fa h1;have aY:=fa aW
 clear al aT h1 aW hx hh
 go_enter func165,ntmps165
 go_wp2_with fail
 refine HM.out.mono ?_
 rintro e w2 ⟨rfl,rfl⟩
 have a7:=HH.out
 go_wp2_with (with_reducible refine wpList_copy_splice rfl (.tmp 31) (.tmp 32) 22 22 rfl 5 underlying22 zw _ _ _ _ _ _ rfl rfl h 0 (ft c (mI v 0)) 5 ?c1 (ft 1 (fun _=>v)) ?c2 ?c3 ?c4 (uE 1 _) h W1 ?c5 fe ?c6)
 case c1=>rw[<-av.out];exact H1.out
 case c2=>simp only[ft,List.length_map,List.length_range];exact(Nat.min_eq_left aV).symm
 case c3=>
  intro _;refine⟨by rw[HH.out],_,rfl,Hr fun j hj=>?_⟩;obtain rfl:j=0:=by omega
  rw[<-av.out];exact aY.out
 case c4=>simp[ft];omega
 case c5=>rw[<-av.out];exact Below.refl _ _
 case c6=>
  rw[<-HH.out];intro w3 aZ a1;have hs:=Hq c 0 1 v (by omega);rw[Nat.zero_add]at hs;have a8:aR (w3.heap[h]?=some (ao (ft c (mI v 1)).toArray 5 (0,0))):=fa (by rw[<-hs];exact aZ.out);have a9:=fa (aX.out.trans a1);have ad:(((ft 1 fun _=>v).length:Nat):Int)=1:=by simp[ft]
  rw[ad];clear aZ a1 hs ad a6 a7 av H1 aY aX;go_wp2;go_loopw [8] (fun nv wr=>∃t:Nat,1<=t/\t<=c/\nv=ae ak (t:Int)/\aR (wr.heap[h]?=some (ao (ft c (mI v t)).toArray 5 (0,0)))/\aR (aS h w wr)) (fun nv _=>c-(aQ nv).toNat)
  case atStart=>exact⟨1,Nat.le_refl _,aV,rfl,a8,a9⟩
  case round=>
   obtain⟨t,bf,bt,rfl,HG,HB⟩:=hrel;by_cases bu:t<c
   ·have a2:(t:Int)<(c:Int):=by omega
    obtain⟨m,hm⟩:=fb (Nat.min t (c-t));have bx:m<=t:=by rw[hm];exact Nat.min_le_left _ _
    have a3:t+m<=c:=by have:m<=c-t:=(by rw[hm];exact Nat.min_le_right _ _);omega
    have bz:0<m:=by rw[hm];exact Nat.lt_min.2 ⟨bf,by omega⟩
    have bg:=fa hm;clear hm;go_wp2;have t0:¬(t:Int)<0:=by omega
    have t1:¬(c:Int)<(t:Int):=by omega
    have t2:(t:Int)<=(c:Int):=by omega
    refine D1 6 wr.heap.size wr fz (by kernel_rfl) (by kernel_rfl) (.tmp 8) (ae ak (t:Int)) rfl (some 38) rfl rfl rfl rfl (by kernel_rfl) (fun _ _ _ h=>h) ?_;simp only[List.take_succ_cons,List.take_zero,List.drop_succ_cons,List.drop_zero,Act.put,List.setIfInBounds_toArray,List.set_cons_zero,List.set_cons_succ];repeat go_big_quiet_step (fail)
    refine wpQuiet_nil ?_;rintro V ⟨⟨V,hV⟩,rfl⟩;have bj:V.heap[h]?=some (ao (ft c (mI v t)).toArray 5 (0,0)):=(hV.block h (Array.getElem?_eq_some_iff.1 HG.out).1).trans HG.out;have aU:=fa bj;have bl:=fa (HB.out.trans (hV.mono (by have:=HB.out.size;rw[HH.out];exact this)))
    go_wp2_with (with_reducible refine wpList_copy_splice rfl (.tmp 41) (.tmp 44) 22 22 rfl 5 underlying22 zw _ _ _ _ _ _ rfl rfl h t (ft c (mI v t)) 5 aU.out (ft m (fun _=>v)) ?c1 ?c2 ?c3 (uE m _) h w ?c4 fe ?c5)
    case c1=>simp only[ft,List.length_map,List.length_range];exact bg.out
    case c2=>
     intro _;first
      |(refine⟨rfl,_,rfl,Hr fun j hj=>?_⟩
        rw[aI V h (0+j) _ _ (0,0) aU.out,List.getElem?_toArray,lK,if_pos (by omega)]
        unfold mI;rw[if_pos (by omega)])
      |(intro j u hu
        rw[lK]at hu
        by_cases hj:j<m
        ·rw[if_pos hj]at hu;injection hu with hu
         rw[aI V h j _ _ (0,0) aU.out,List.getElem?_toArray,lK,if_pos (by omega),<-hu];unfold mI;rw[if_pos (by omega)]
        ·rw[if_neg hj]at hu;cases hu)
    case c3=>simp only[ft,List.length_map,List.length_range];omega
    case c4=>exact bl.out
    case c5=>
     intro w5 a4 a5;have ah:=a4.out;rw[Hq c t m v a3]at ah;have bn:=fa ah;have bq:=fa a5
     have ad:(ft m fun _=>v).length=m:=by simp[ft]
     rw[ad];clear a4 ah a5 ad;go_wp2;go_roundw
     case rel=>exact⟨t+m,by omega,a3,by go_num,bn,bq⟩
     case measure=>simp[aQ];omega
   ·obtain rfl:t=c:=by omega
    have a2:¬(t:Int)<(t:Int):=by omega
    go_wp2;go_ret;rw[<-HH.out];refine⟨rfl,⟨by simp[ft],.inr ⟨h,t,_,rfl,Nat.le_refl _,HG.out,Nat.le_refl _,by unfold maxLen;omega,by simp[ft],?_⟩⟩,HB.out⟩;rw[Nat.mul_one,List.take_of_length_le (by simp[ft])];exact rf fun j hj=>by unfold mI;rw[if_pos hj]
theorem vT(w:au)(v c:Nat)(hv:v<256)(ad:1<=c)(hc:c<=1000):
  ax prog 123 #[ae .u8 (v:Int),ae ak (c:Int)] w fun e w'=>∃A' c',e=aq (af A' c c')/\w'.ownsRow w.heap.size 5 1 (af A' c c') c (ft c (fun _=>v))/\aS w.heap.size w w':=by
 have hr:=Ql (w.alloc (ao #[ae .u8 (v:Int)] 5)) w.heap.size v c hv ad hc (by simp) ((aI _ _ 0 _ _ (0,0) (aH w _)).trans rfl)
 have HB:=fa ((Below.refl w.heap.size w).alloc fe (ao #[ae .u8 (v:Int)] 5))
 have HR:=fa hr
 clear hr
 go_enter func123,ntmps123
 go_wp2_with fail
 refine HR.out.mono ?_
 rintro e w1 ⟨rfl,ho,hb⟩
 have HO:=fa (by simpa using rj ho (show w.heap.size<=(w.alloc (ao #[ae .u8 (v:Int)] 5)).heap.size by simp):w1.ownsRow w.heap.size 5 1 (af (some ⟨w.heap.size+1,0,none⟩) c c) c (ft c (fun _=>v)));have ah:=fa (HB.out.trans (hb.mono (by simp)))
 clear ho hb
 go_wp2
 go_ret
 exact⟨_,_,rfl,HO.out,ah.out⟩
def VB:Nat->Nat
 |0=>144
 |1=>112
 |2=>24
 |_=>8
def yh:Nat->Nat
 |0=>8
 |1=>9
 |2=>7
 |_=>8
theorem Hs:Vg VB 4=288:=by rfl
theorem Qm(j:Nat)(hj:j<288):Vy VB (fun i _=>yh i) 4 j=iH j:=by
 have s1:Vg VB 1=144:=rfl;have s2:Vg VB 2=256:=rfl;have s3:Vg VB 3=280:=rfl;show cat (cat (cat (cat (fun _=>0) 0 (fun _=>8)) (Vg VB 1) (fun _=>9)) (Vg VB 2) (fun _=>7)) (Vg VB 3) (fun _=>8) j=iH j
 rw[s1,s2,s3];unfold cat iH;split
 ·split
  ·split
   ·rw[if_neg (by omega),if_neg (by omega),if_neg (by omega)]
   ·rw[if_neg (by omega),if_pos (by omega)]
  ·rw[if_pos (by omega)]
 ·rw[if_neg (by omega),if_neg (by omega)]
theorem BA:Qh:=by
 intro w;go_enter func87,ntmps87
 go_wp2_with fail
 refine(vT w 8 144 (by omega) (by omega) (by omega)).mono ?_;rintro e w1 ⟨A1,c1,rfl,o1,b1⟩;have O1:=fa o1;have B1:=fa b1
 clear o1 b1;go_wp2_with fail
 refine(vT w1 9 112 (by omega) (by omega) (by omega)).mono ?_;rintro e w2 ⟨A2,c2,rfl,o2,b2⟩;have aY:=fa (mS O1.out b2);have O2:=fa o2;have B2:=fa (B1.out.trans (b2.mono B1.out.size))
 clear o2 b2 O1;go_wp2_with fail
 refine(vT w2 7 24 (by omega) (by omega) (by omega)).mono ?_;rintro e w3 ⟨A3,c3,rfl,o3,b3⟩;have aZ:=fa (mS aY.out b3);have a1:=fa (mS O2.out b3);have O3:=fa o3;have B3:=fa (B2.out.trans (b3.mono B2.out.size))
 clear o3 b3 aY O2;go_wp2_with fail
 refine(vT w3 8 8 (by omega) (by omega) (by omega)).mono ?_;rintro e w4 ⟨A4,c4,rfl,o4,b4⟩;have aV:=fa (mS aZ.out b4);have aW:=fa (mS a1.out b4);have aX:=fa (mS O3.out b4);have O4:=fa o4;have B4:=fa (B3.out.trans (b4.mono B3.out.size))
 clear o4 b4 aZ a1 O3;obtain⟨W5,aT⟩:=fb (w4.alloc (ao #[af A1 144 c1,af A2 112 c2,af A3 24 c3,af A4 8 c4] 22));have b5:aS w4.heap.size w4 W5:=by rw[aT];exact fz.alloc fe _
 have ad:W5.heap[w4.heap.size]?=some (ao #[af A1 144 c1,af A2 112 c2,af A3 24 c3,af A4 8 c4] 22 (0,0)):=by rw[aT];exact aH w4 _
 have ah:∀{A:Option aw} {c n v base:Nat},v<256->w4.ownsRow base 5 1 (af A n c) n (ft n (fun _=>v))->fB W5 W5.heap.size A n (fun _=>v)/\(A=none->c=0):=fun hv ho=>by
  have:=fq.gD (mS ho b5) (fun _=>hv);exact⟨this.1,this.2.1⟩
 have al:VF W5 W5.heap.size (some ⟨w4.heap.size,0,none⟩) 4 VB (fun i _=>yh i):=fun _=>by
  refine⟨w4.heap.size,0,rfl,(Array.getElem?_eq_some_iff.1 ad).1,fun i hi=>?_⟩;rcases i with _|_|_|_|i
  ·exact⟨A1,c1,(aI W5 _ 0 _ _ (0,0) ad).trans rfl,(ah (by omega) aV.out).1,(ah (by omega) aV.out).2⟩
  ·exact⟨A2,c2,(aI W5 _ 1 _ _ (0,0) ad).trans rfl,(ah (by omega) aW.out).1,(ah (by omega) aW.out).2⟩
  ·exact⟨A3,c3,(aI W5 _ 2 _ _ (0,0) ad).trans rfl,(ah (by omega) aX.out).1,(ah (by omega) aX.out).2⟩
  ·exact⟨A4,c4,(aI W5 _ 3 _ _ (0,0) ad).trans rfl,(ah (by omega) O4.out).1,(ah (by omega) O4.out).2⟩
  ·omega
 have av:=Hn W5 (some ⟨w4.heap.size,0,none⟩) 4 4 VB (fun i _=>yh i) (fun i _=>by unfold yh;split<;>omega) al (by omega) (by rw[Hs];omega);rw[Hs,rf Qm]at av;have aU:=fa av;have a2:=fa aT;have B5:=fa (B4.out.trans (b5.mono B4.out.size))
 clear av aT al ah ad b5 aV aW aX O4 B1 B2 B3 B4;go_wp2_with (first|rw[<-a2.out]|fail)
 refine aU.out.mono ?_;rintro e w6 ⟨Aa,ca,rfl,oa,b6⟩;have OA:=fa (rj oa B5.out.size);have B6:=fa (B5.out.trans (b6.mono B5.out.size))
 clear oa b6 aU;go_wp2_with fail
 refine(vT w6 5 32 (by omega) (by omega) (by omega)).mono ?_;rintro e w7 ⟨Ab,cb,rfl,ob,b7⟩;have a3:=fa (mS OA.out b7);have OB:=fa ob;have B7:=fa (B6.out.trans (b7.mono B6.out.size))
 clear ob b7;go_wp2;go_ret2;refine⟨Aa,ca,Ab,cb,rfl,a3.out,rj OB.out B6.out.size,fun g h1 h2=>?_,B7.out⟩;have k1:=(gP OA.out g h1).2;have k2:=(gP OB.out g h2).1;omega
def Ah(F:Nat->Nat)(x y:Nat):Prop:=F x<F y\/(F x=F y/\x<y)
theorem Ah.tr{F:Nat->Nat}{x y z:Nat}(h:Ah F x y)(g:Ah F y z):Ah F x z:=by unfold Ah at*;omega
def Rs(F f:Nat->Nat)(a b:Nat):Prop:=∀i j,a<=i->i<j->j<b->Ah F (f i) (f j)
def St(F f:Nat->Nat)(N:Nat):Prop:=∀i j,i<j->j<N->F (f i)=F (f j)->f i<f j
def Vd(f g:Nat->Nat)(a b:Nat):Prop:=
 (∀t,¬(a<=t/\t<b)->g t=f t)/\(∀t,a<=t->t<b->∃s,a<=s/\s<b/\g t=f s)/\(∀s,a<=s->s<b->∃t,a<=t/\t<b/\g t=f s)
theorem Vd.refl(f:Nat->Nat)(a b:Nat):Vd f f a b:=⟨fun _ _=>rfl,fun t h1 h2=>⟨t,h1,h2,rfl⟩,fun t h1 h2=>⟨t,h1,h2,rfl⟩⟩
theorem Vd.trans{f g h:Nat->Nat}{a b:Nat}(p:Vd f g a b)(q:Vd g h a b):Vd f h a b:=by
 refine⟨fun t ht=>(q.1 t ht).trans (p.1 t ht),fun t h1 h2=>?_,fun s h1 h2=>?_⟩
 ·obtain⟨u,u1,u2,e⟩:=q.2.1 t h1 h2;obtain⟨v,v1,v2,e2⟩:=p.2.1 u u1 u2;exact⟨v,v1,v2,e.trans e2⟩
 ·obtain⟨u,u1,u2,e⟩:=p.2.2 s h1 h2;obtain⟨v,v1,v2,e2⟩:=q.2.2 u u1 u2;exact⟨v,v1,v2,e2.trans e⟩
theorem Vd.wide{f g:Nat->Nat}{a b a' b':Nat}(p:Vd f g a b)(ha:a'<=a)(hb:b<=b'):Vd f g a' b':=by
 refine⟨fun t ht=>p.1 t (by omega),fun t h1 h2=>?_,fun s h1 h2=>?_⟩
 ·by_cases h:a<=t/\t<b
  ·obtain⟨u,u1,u2,e⟩:=p.2.1 t h.1 h.2;exact⟨u,by omega,by omega,e⟩
  ·exact⟨t,h1,h2,p.1 t h⟩
 ·by_cases h:a<=s/\s<b
  ·obtain⟨u,u1,u2,e⟩:=p.2.2 s h.1 h.2;exact⟨u,by omega,by omega,e⟩
  ·exact⟨s,h1,h2,p.1 s h⟩
theorem Vd.lt{f g:Nat->Nat}{a b N M:Nat}(p:Vd f g a b)(hb:b<=N)(h:∀t,t<N->f t<M):∀t,t<N->g t<M:=fun t ht=>by
 by_cases g:a<=t/\t<b
 ·obtain⟨u,u1,u2,e⟩:=p.2.1 t g.1 g.2;rw[e];exact h u (by omega)
 ·rw[p.1 t g];exact h t ht
theorem St.keep{F f g:Nat->Nat}{a b N:Nat}(h:St F f N)(p:Vd f g a b)(hr:Rs F g a b)(hb:b<=N):St F g N:=fun i j ah hj e=>by
 by_cases hi:a<=i/\i<b
 ·by_cases ad:a<=j/\j<b
  ·have:=hr i j hi.1 ah ad.2;unfold Ah at this;omega
  ·obtain⟨s,s1,s2,e2⟩:=p.2.1 i hi.1 hi.2;have e3:=p.1 j ad;rw[e2,e3]at e⊢;exact h s j (by omega) hj e
 ·have e2:=p.1 i hi;by_cases ad:a<=j/\j<b
  ·obtain⟨s,s1,s2,e3⟩:=p.2.1 j ad.1 ad.2;rw[e2,e3]at e⊢;exact h i s (by omega) (by omega) e
  ·have e3:=p.1 j ad;rw[e2,e3]at e⊢;exact h i j ah hj e
theorem Rs.part{F f:Nat->Nat}{a b a' b':Nat}(h:Rs F f a b)(ha:a<=a')(hb:b'<=b):Rs F f a' b':=fun i j h1 h2 h3=>h i j (by omega) h2 (by omega)
theorem Rs.keep{F f g:Nat->Nat}{a b c d:Nat}(h:Rs F f c d)(p:Vd f g a b)(hd:d<=a\/b<=c):Rs F g c d:=fun i j h1 h2 h3=>by
 rw[p.1 i (by omega),p.1 j (by omega)];exact h i j h1 h2 h3
theorem Rs.one{F f:Nat->Nat}{a b:Nat}(h:b<=a+1):Rs F f a b:=fun i j h1 h2 h3=>by omega
theorem BB{F f:Nat->Nat}{N i j:Nat}(h:St F f N)(ad:i<j)(hj:j<N)(e:F (f i)<=F (f j)):Ah F (f i) (f j):=by
 rcases Nat.lt_or_ge (F (f i)) (F (f j))with g|g
 ·exact .inl g
 ·have e2:F (f i)=F (f j):=by omega
  exact .inr ⟨e2,h i j ad hj e2⟩
theorem Ht{F f:Nat->Nat}{a m b N:Nat}(hs:St F f N)(hb:b<=N)(h1:Rs F f a m)(h2:Rs F f m b)(hc:a<m->m<b->F (f (m-1))<=F (f m)):Rs F f a b:=fun i j hi ad hj=>by
 by_cases g1:j<m
 ·exact h1 i j hi ad g1
 ·by_cases g2:m<=i
  ·exact h2 i j g2 ad hj
  ·apply BB hs ad (by omega);have h3:=hc (by omega) (by omega);have h4:F (f i)<=F (f (m-1)):=by
    by_cases e:i=m-1
    ·rw[e];exact Nat.le_refl _
    ·have:=h1 i (m-1) hi (by omega) (by omega);unfold Ah at this;omega
   have h5:F (f m)<=F (f j):=by
    by_cases e:j=m
    ·rw[e];exact Nat.le_refl _
    ·have:=h2 m j fe (by omega) hj;unfold Ah at this;omega
   omega
def sw(f:Nat->Nat)(i j t:Nat):Nat:=if t=j then f i else if t=i then f j else f t
theorem Qn{f:Nat->Nat}{a b i j:Nat}(hi:a<=i/\i<b)(hj:a<=j/\j<b):Vd f (sw f i j) a b:=by
 refine⟨fun t ht=>?_,fun t h1 h2=>?_,fun t h1 h2=>?_⟩
 ·unfold sw;rw[if_neg (by omega),if_neg (by omega)]
 ·by_cases e:t=j
  ·exact⟨i,hi.1,hi.2,by unfold sw;rw[if_pos e]⟩
  ·by_cases e2:t=i
   ·exact⟨j,hj.1,hj.2,by unfold sw;rw[if_neg e,if_pos e2]⟩
   ·exact⟨t,h1,h2,by unfold sw;rw[if_neg e,if_neg e2]⟩
 ·by_cases e:t=j
  ·by_cases e2:i=j
   ·exact⟨t,h1,h2,by unfold sw;rw[if_pos e,e2,e]⟩
   ·exact⟨i,hi.1,hi.2,by unfold sw;rw[if_neg e2,if_pos rfl,e]⟩
  ·by_cases e2:t=i
   ·exact⟨j,hj.1,hj.2,by unfold sw;rw[if_pos rfl,e2]⟩
   ·exact⟨t,h1,h2,by unfold sw;rw[if_neg e,if_neg e2]⟩
theorem yi(f:Nat->Nat)(j:Nat):sw f (j+1) j j=f (j+1):=by unfold sw;rw[if_pos rfl]
theorem ug(f:Nat->Nat)(j:Nat):sw f (j+1) j (j+1)=f j:=by unfold sw;rw[if_neg (by omega),if_pos rfl]
theorem rE(f:Nat->Nat){i j t:Nat}(h1:t≠j)(h2:t≠i):sw f i j t=f t:=by unfold sw;rw[if_neg h1,if_neg h2]
theorem St.sw{F f:Nat->Nat}{N j:Nat}(h:St F f N)(hj:j+1<N)(ah:F (f (j+1))<F (f j)):St F (sw f (j+1) j) N:=fun i k ad hk e=>by
 by_cases i1:i=j
 ·subst i1;by_cases k1:k=i+1
  ·subst k1;rw[yi,ug]at e;omega
  ·rw[yi,rE f (by omega) (by omega)]at e⊢;exact h (i+1) k (by omega) hk e
 ·by_cases i2:i=j+1
  ·subst i2;rw[ug,rE f (by omega) (by omega)]at e⊢;exact h j k (by omega) hk e
  ·rw[rE f i1 i2]at e⊢;by_cases k1:k=j
   ·subst k1;rw[yi]at e⊢;exact h i (k+1) (by omega) hj e
   ·by_cases k2:k=j+1
    ·subst k2;rw[ug]at e⊢;exact h i j (by omega) (by omega) e
    ·rw[rE f k1 k2]at e⊢;exact h i k ad hk e
structure qB (F f:Nat->Nat) (a i j:Nat):Prop where
 ord:∀s t,a<=s->s<t->t<=i->s≠j->t≠j->Ah F (f s) (f t)
 up:∀t,j<t->t<=i->Ah F (f j) (f t)
theorem qB.start{F f:Nat->Nat}{a i:Nat}(h:Rs F f a i):qB F f a i i:=
 ⟨fun s t h1 h2 h3 _ h5=>h s t h1 h2 (by omega),fun t h1 h2=>by omega⟩
theorem qB.step{F f:Nat->Nat}{a i j:Nat}(h:qB F f a i (j+1))(hj:a<=j)(ah:j+1<=i)(ad:F (f (j+1))<F (f j)):qB F (Go.Proofs.YtgokdgcmkcmjeaaGreat.sw f (j+1) j) a i j:=by
 refine⟨fun s t h1 h2 h3 h4 h5=>?_,fun t h1 h2=>?_⟩
 ·by_cases s1:s=j+1
  ·subst s1;rw[ug,rE f (by omega) (by omega)];exact h.ord j t hj (by omega) h3 (by omega) (by omega)
  ·rw[rE f h4 s1];by_cases t1:t=j+1
   ·subst t1;rw[ug];exact h.ord s j h1 (by omega) (by omega) (by omega) (by omega)
   ·rw[rE f h5 t1];exact h.ord s t h1 h2 h3 s1 t1
 ·rw[yi];by_cases t1:t=j+1
  ·subst t1;rw[ug];exact .inl ad
  ·rw[rE f (by omega) t1];exact h.up t (by omega) h2
theorem qB.stop{F f:Nat->Nat}{a i j N:Nat}(h:qB F f a i j)(hs:St F f N)(hj:a<=j)(ad:j<=i)(hi:i<N)(hc:j<=a\/¬F (f j)<F (f (j-1))):Rs F f a (i+1):=fun s t h1 h2 h3=>by
 by_cases s1:s=j
 ·subst s1;exact h.up t h2 (by omega)
 ·by_cases t1:t=j
  ·subst t1;have hn:¬F (f t)<F (f (t-1)):=by
    rcases hc with g|g
    ·omega
    ·exact g
   have hl:Ah F (f (t-1)) (f t):=BB hs (by omega) (by omega) (by omega);by_cases s2:s=t-1
   ·rw[s2];exact hl
   ·exact(h.ord s (t-1) h1 (by omega) (by omega) s1 (by omega)).tr hl
  ·exact h.ord s t h1 h2 (by omega) s1 t1
def src(s m e t:Nat):Nat:=if s<=t/\t<e then(if t<s+(e-m)then t+(m-s)else t-(e-m))else t
def gx(f:Nat->Nat)(s m e t:Nat):Nat:=f (src s m e t)
def mf(f:Nat->Nat)(a b n t:Nat):Nat:=if a<=t/\t<a+n then f (t-a+b)else if b<=t/\t<b+n then f (t-b+a)else f t
theorem Qo(f:Nat->Nat)(a b:Nat):mf f a b 0=f:=by
 funext t;unfold mf;rw[if_neg (by omega),if_neg (by omega)]
theorem Qp(f:Nat->Nat){a b n i:Nat}(h:a+n<=b)(hi:i<n):sw (mf f a b i) (a+i) (b+i)=mf f a b (i+1):=by
 funext t;unfold sw mf;repeat' split
 all_goals first|rfl|(exfalso;omega)|(congr 1;omega)
theorem Qr(f:Nat->Nat){m i j:Nat}(h:j<i)(hi:i<=m)(hj:0<j):gx (mf f (m-i) m j) (m-(i-j)) m (m+j)=gx f (m-i) m (m+j):=by
 funext t;unfold gx mf src;repeat' split
 all_goals first|rfl|(exfalso;omega)|(congr 1;omega)
theorem Qs(f:Nat->Nat){m i j:Nat}(h:i<j)(hi:i<=m)(h0:0<i):gx (mf f (m-i) (m+j-i) i) (m-i) m (m+(j-i))=gx f (m-i) m (m+j):=by
 funext t;unfold gx mf src;repeat' split
 all_goals first|rfl|(exfalso;omega)|(congr 1;omega)
theorem Qt(f:Nat->Nat){m i:Nat}(hi:i<=m):mf f (m-i) m i=gx f (m-i) m (m+i):=by
 funext t;unfold gx mf src;repeat' split
 all_goals first|rfl|(exfalso;omega)|(congr 1;omega)
theorem BE(f:Nat->Nat){s m e:Nat}(h1:s<=m)(h2:m<=e)(h:s=m\/m=e):gx f s m e=f:=by
 funext t;unfold gx src;repeat' split
 all_goals first|rfl|(exfalso;omega)|(congr 1;omega)
theorem BF(f:Nat->Nat){s m e:Nat}(h1:s<=m)(h2:m<=e):Vd f (gx f s m e) s e:=by
 refine⟨fun t ht=>?_,fun t g1 g2=>?_,fun t g1 g2=>?_⟩
 ·unfold gx src;rw[if_neg ht]
 ·refine⟨src s m e t,?_,?_,rfl⟩
  ·unfold src;rw[if_pos ⟨g1,g2⟩];split<;>omega
  ·unfold src;rw[if_pos ⟨g1,g2⟩];split<;>omega
 ·by_cases g:t<m
  ·refine⟨t+(e-m),by omega,by omega,?_⟩;unfold gx src;rw[if_pos (by omega),if_neg (by omega)];congr 1;omega
  ·refine⟨t-(m-s),by omega,by omega,?_⟩;unfold gx src;rw[if_pos (by omega),if_pos (by omega)];congr 1;omega
theorem Rs.le{F f:Nat->Nat}{a b i j:Nat}(h:Rs F f a b)(h1:a<=i)(h2:i<=j)(h3:j<b):F (f i)<=F (f j):=by
 by_cases e:i=j
 ·rw[e];exact Nat.le_refl _
 ·have:=h i j h1 (by omega) h3;unfold Ah at this;omega
theorem yj{s m e t:Nat}(h1:s<=t)(h2:t<s+(e-m))(h3:s<=m)(h4:m<=e):src s m e t=t+(m-s):=by
 unfold src;rw[if_pos (by omega),if_pos h2]
theorem vU{s m e t:Nat}(h1:s+(e-m)<=t)(h2:t<e)(_:s<=m)(_:m<=e):src s m e t=t-(e-m):=by
 unfold src;rw[if_pos (by omega),if_neg (by omega)]
theorem qC{s m e t:Nat}(h1:t<s\/e<=t):src s m e t=t:=by
 unfold src;rw[if_neg (by omega)]
def Lo(F g:Nat->Nat)(a m b:Nat):Prop:=∀i j,a<=i->i<m->m<=j->j<b->Ah F (g i) (g j)
section
variable {F f:Nat->Nat} {a s m e b N:Nat}
theorem Hu(r1:Rs F f a m)(r2:Rs F f m b)(has:a<=s)(ad:e<=b)(hx:s<m->m<e->F (f (e-1))<F (f s)){i j:Nat}(h1:m<=i)(h2:i<e)(h3:s<=j)(h4:j<m):F (f i)<F (f j):=by
 have g1:=r2.le (i:=i) (j:=e-1) h1 (by omega) (by omega);have g2:=r1.le (i:=s) (j:=j) has h3 h4;have:=hx (by omega) (by omega);omega
theorem BG(hs:St F f N)(hb:b<=N)(r1:Rs F f a m)(r2:Rs F f m b)(has:a<=s)(ah:s<=m)(al:m<=e)(ad:e<=b)(hx:s<m->m<e->F (f (e-1))<F (f s)):St F (gx f s m e) N:=fun i k av hk eq=>by
 have key:src s m e i<src s m e k/\src s m e k<N\/(m<=src s m e i/\src s m e i<e/\s<=src s m e k/\src s m e k<m):=by
  unfold src;split
  ·split
   ·split
    ·split<;>omega
    ·omega
   ·split
    ·split<;>omega
    ·omega
  ·split
   ·split<;>omega
   ·omega
 rcases key with⟨h1,h2⟩|⟨h1,h2,h3,h4⟩
 ·exact hs _ _ h1 h2 eq
 ·have:=Hu r1 r2 has ad hx h1 h2 h3 h4;unfold gx at eq;omega
theorem Hv(r1:Rs F f a m)(ad:s<=m):Rs F (gx f s m e) a s:=fun i j h1 h2 h3=>by
 unfold gx;rw[qC (by omega),qC (by omega)];exact r1 i j h1 h2 (by omega)
theorem BH(r2:Rs F f m b)(ad:s<=m)(ah:m<=e)(al:e<=b):Rs F (gx f s m e) s (s+(e-m)):=fun i j h1 h2 h3=>by
 unfold gx;rw[yj h1 (by omega) ad ah,yj (by omega) h3 ad ah];exact r2 _ _ (by omega) (by omega) (by omega)
theorem BI(r1:Rs F f a m)(has:a<=s)(ad:s<=m)(ah:m<=e):Rs F (gx f s m e) (s+(e-m)) e:=fun i j h1 h2 h3=>by
 unfold gx;rw[vU h1 (by omega) ad ah,vU (by omega) h3 ad ah];exact r1 _ _ (by omega) (by omega) (by omega)
theorem Hw(r2:Rs F f m b)(ad:m<=e):Rs F (gx f s m e) e b:=fun i j h1 h2 h3=>by
 unfold gx;rw[qC (by omega),qC (by omega)];exact r2 i j (by omega) h2 h3
theorem BJ(hs:St F f N)(hb:b<=N)(r1:Rs F f a m)(r2:Rs F f m b)(has:a<=s)(ah:s<=m)(ad:m<=e)(al:e<=b)(hx:s<m->m<e->F (f (e-1))<F (f s))(hy:a<s->e<b->F (f (s-1))<=F (f e)):
  Lo F (gx f s m e) a (s+(e-m)) b:=fun i j h1 h2 h3 h4=>by
 unfold gx
 by_cases g1:i<s
 ·rw[qC (.inl g1)];by_cases g2:j<e
  ·rw[vU h3 g2 ah ad];exact r1 _ _ h1 (by omega) (by omega)
  ·rw[qC (.inr (by omega))];have q1:=r1.le (i:=i) (j:=s-1) h1 (by omega) (by omega);have q2:=r2.le (i:=e) (j:=j) ad (by omega) h4;have:=hy (by omega) (by omega);exact BB hs (by omega) (by omega) (by omega)
 ·rw[yj (by omega) h2 ah ad];by_cases g2:j<e
  ·rw[vU h3 g2 ah ad];exact .inl (Hu r1 r2 has al hx (by omega) (by omega) (by omega) (by omega))
  ·rw[qC (.inr (by omega))];exact r2 _ _ (by omega) (by omega) h4
end
theorem yk{F g g1 g2:Nat->Nat}{a m b:Nat}(p:Vd g g1 a m)(r1:Rs F g1 a m)(q:Vd g1 g2 m b)(r2:Rs F g2 m b)(hl:Lo F g a m b):Rs F g2 a b:=fun i j h1 h2 h3=>by
 by_cases ad:j<m
 ·rw[q.1 i (by omega),q.1 j (by omega)];exact r1 i j h1 h2 ad
 ·by_cases ah:m<=i
  ·exact r2 i j ah h2 h3
  ·obtain⟨s,s1,s2,e1⟩:=p.2.1 i h1 (by omega);obtain⟨u,u1,u2,e2⟩:=q.2.1 j (by omega) h3;rw[q.1 i (by omega),e1,e2,p.1 u (by omega)];exact hl s u s1 s2 u1 u2
theorem Qu{F f:Nat->Nat}{a i b N:Nat}(hs:St F f N)(hb:b<=N)(r2:Rs F f (a+1) b)(ad:a+1<=i)(ah:i<=b)(hl:i=a+1\/F (f (i-1))<F (f a))(hr:i=b\/¬F (f i)<F (f a)):
  Rs F (gx f a (a+1) i) a b/\Vd f (gx f a (a+1) i) a b:=by
 have r1:Rs F f a (a+1):=Rs.one fe
 have hx:a<a+1->a+1<i->F (f (i-1))<F (f a):=fun _ h=>by rcases hl with g|g<;>omega
 have al:=BG (s:=a) (e:=i) hs hb r1 r2 fe (by omega) ad ah hx
 have q2:=BH (s:=a) (e:=i) r2 (by omega) ad ah
 have q3:=BI (s:=a) (e:=i) r1 fe (by omega) ad
 have q4:=Hw (s:=a) (e:=i) r2 ad
 have av:a+(i-(a+1))+1=i:=by omega
 have q5:Rs F (gx f a (a+1) i) (a+(i-(a+1))) b:=Ht (m:=i) al hb q3 q4 (fun _ aT=>by
  unfold gx;rw[vU (by omega) (by omega) (by omega) ad,qC (.inr fe),show i-1-(i-(a+1))=a by omega];rcases hr with g|g<;>omega)
 refine⟨yk (Vd.refl _ _ _) q2 (Vd.refl _ _ _) q5 ?_,(BF f (by omega) ad).wide fe ah⟩
 exact BJ hs hb r1 r2 fe (by omega) ad ah hx (fun h=>by omega)
theorem Qv{F f:Nat->Nat}{a i m N:Nat}(hs:St F f N)(hb:m+1<=N)(r1:Rs F f a m)(ah:a<=i)(ad:i<=m)(hl:i=a\/¬F (f m)<F (f (i-1)))(hr:i=m\/F (f m)<F (f i)):
  Rs F (gx f i m (m+1)) a (m+1)/\Vd f (gx f i m (m+1)) a (m+1):=by
 have r2:Rs F f m (m+1):=Rs.one fe
 have hx:i<m->m<m+1->F (f (m+1-1))<F (f i):=fun h _=>by rw[Nat.add_sub_cancel];rcases hr with g|g<;>omega
 have al:=BG (s:=i) (e:=m+1) hs hb r1 r2 ah ad (by omega) fe hx
 have q1:=Hv (s:=i) (e:=m+1) r1 ad
 have q2:=BH (s:=i) (e:=m+1) r2 ad (by omega) fe
 have q3:=BI (s:=i) (e:=m+1) r1 ah ad (by omega)
 have q5:Rs F (gx f i m (m+1)) a (i+(m+1-m)):=Ht (m:=i) al (by omega) q1 q2 (fun av _=>by
  unfold gx;rw[qC (.inl (by omega)),yj fe (by omega) ad (by omega),show i+(m-i)=m by omega];rcases hl with g|g<;>omega)
 refine⟨yk (Vd.refl _ _ _) q5 (Vd.refl _ _ _) q3 ?_,(BF f ad (by omega)).wide ah fe⟩
 exact BJ hs hb r1 r2 ah ad (by omega) fe hx (fun _ h=>by omega)
def Ch(F f:Nat->Nat)(S N:Nat):Prop:=∀k,Rs F f (k*S) (min (k*S+S) N)
theorem BL{k l S:Nat}(h:k<l):k*S+S<=l*S:=by
 rw[<-Nat.succ_mul];exact Nat.mul_le_mul_right _ h
theorem Ch.whole{F f:Nat->Nat}{S N:Nat}(h:Ch F f S N)(hS:N<=S):Rs F f 0 N:=by
 have:=h 0;rw[Nat.zero_mul,show min (0+S) N=N by omega]at this;exact this
theorem BN{F f:Nat->Nat}{S A N k:Nat}(hA:A=k*S)(h1:∀l,l<k->Rs F f (l*S) (l*S+S))(h2:Rs F f A N)(hN:N<A+S):Ch F f S N:=fun l=>by
 rcases Nat.lt_trichotomy l k with h|h|h
 ·exact(h1 l h).part fe (Nat.min_le_left _ _)
 ·subst h;rw[<-hA];exact h2.part fe (Nat.min_le_right _ _)
 ·have:=BL (S:=S) h;exact Rs.one (by omega)
theorem Hx{F:Nat->Nat}{x:Nat}{l:List Nat}(h:qh F (x::l)):x∉l:=fun hx=>by
 have:=oR.1 (h.1 x hx);omega
theorem Hy{F:Nat->Nat}:∀(l l':List Nat),qh F l->qh F l'->(∀x,x∈l↔x∈l')->l=l'
 |[],[],_,_,_=>rfl
 |[],y::l',_,_,h=>absurd ((h y).2 (by simp)) (by simp)
 |x::l,[],_,_,h=>absurd ((h x).1 (by simp)) (by simp)
 |x::l,y::l',h1,h2,h=>by
  have e:x=y:=by
   rcases List.mem_cons.1 ((h x).1 (by simp))with g|g
   ·exact g
   ·rcases List.mem_cons.1 ((h y).2 (by simp))with k|k
    ·exact k.symm
    ·have a1:=oR.1 (h2.1 x g);have a2:=oR.1 (h1.1 y k);omega
  subst e;rw[Hy l l' h1.2 h2.2 (fun z=>?_)];constructor
  ·intro hz;rcases List.mem_cons.1 ((h z).1 (by simp[hz]))with g|g
   ·subst g;exact absurd hz (Hx h1)
   ·exact g
  ·intro hz;rcases List.mem_cons.1 ((h z).2 (by simp[hz]))with g|g
   ·subst g;exact absurd hz (Hx h2)
   ·exact g
theorem Hz{F f:Nat->Nat}:∀(n a:Nat),Rs F f a (a+n)->qh F ((List.range' a n).map f)
 |0,_,_=>trivial
 |n+1,a,h=>by
  refine⟨fun x hx=>?_,Hz n (a+1) (h.part (by omega) (by omega))⟩;simp only[List.mem_map,List.mem_range'_1]at hx;obtain⟨t,ht,rfl⟩:=hx;have:=h a t fe (by omega) (by omega);exact oR.2 this
theorem Qw{F f:Nat->Nat}{n M:Nat}(h:Rs F f 0 n)(hm:∀x,(x<M/\0<F x)↔∃t,t<n/\f t=x):(List.range n).map f=Vc F M:=by
 rw[List.range_eq_range'];refine Hy _ _ (Hz n 0 (by simpa using h)) (sZ F M) fun x=>?_
 rw[sY,hm x];simp only[List.mem_map,List.mem_range'_1];constructor
 ·rintro⟨t,ht,rfl⟩;exact⟨t,by omega,rfl⟩
 ·rintro⟨t,ht,rfl⟩;exact⟨t,⟨by omega,by omega⟩,rfl⟩
def fX(w:au)(g n:Nat)(f:Nat->Nat):Prop:=∃cur:Array ay,w.heap[g]?=some (ao cur 3 (0,0))/\∀j,j<n->cur[j]?=some (ae ak (f j:Int))
theorem fX.lt{w:au}{g n:Nat}{f:Nat->Nat}(h:fX w g n f):g<w.heap.size:=by
 obtain⟨cur,h1,_⟩:=h;exact(Array.getElem?_eq_some_iff.1 h1).1
theorem fX.cell{w:au}{g n:Nat}{f:Nat->Nat}(h:fX w g n f){j:Nat}(hj:j<n):w.cell? ⟨g,j,none⟩=some (ae ak (f j:Int)):=by
 obtain⟨cur,h1,h2⟩:=h;rw[aI w g j _ _ (0,0) h1];exact h2 j hj
theorem fX.frozen{w:au}{g n:Nat}{f:Nat->Nat}(h:fX w g n f)(j:Nat):w.frozen? ⟨g,j,none⟩=false:=by
 obtain⟨cur,h1,_⟩:=h;exact frozen_of_row w g j _ _ h1
theorem fX.set{w:au}{g n:Nat}{f:Nat->Nat}(h:fX w g n f)(i x:Nat):fX (w.setCell ⟨g,i,none⟩ (ae ak (x:Int))) g n (fK f i x):=by
 obtain⟨cur,h1,h2⟩:=h;refine⟨cur.setIfInBounds i (ae ak (x:Int)),heap_setCell_same w g i cur _ _ h1,fun j hj=>?_⟩;rw[Array.getElem?_setIfInBounds,fK];have hs:j<cur.size:=by
  rcases Nat.lt_or_ge j cur.size with h|h
  ·exact h
  ·have:=h2 j hj;rw[Array.getElem?_eq_none h]at this;cases this
 by_cases e:i=j
 ·subst e;simp[hs]
 ·have e':¬j=i:=fun h=>e h.symm
  simp[e,e',h2 j hj]
theorem fX.drew{w:au}{g n:Nat}{f:Nat->Nat}(h:fX w g n f):fX w.drew g n f:=h
theorem fX.drewN{w:au}{g n:Nat}{f:Nat->Nat}(h:fX w g n f)(q:Nat):fX (w.drewN q) g n f:=h
theorem fX.ext{w:au}{g n:Nat}{f f':Nat->Nat}(h:fX w g n f)(e:∀j,j<n->f j=f' j):fX w g n f':=by
 obtain⟨cur,h1,h2⟩:=h;exact⟨cur,h1,fun j hj=>by rw[h2 j hj,e j hj]⟩
theorem fX.swap{w:au}{g n:Nat}{f:Nat->Nat}(h:fX w g n f)(i j:Nat):fX ((w.setCell ⟨g,i,none⟩ (ae ak (f j:Int))).setCell ⟨g,j,none⟩ (ae ak (f i:Int))) g n (sw f i j):=by
 refine((h.set i (f j)).set j (f i)).ext fun t _=>?_
 unfold fK sw;rfl
theorem fX.two{w:au}{g n:Nat}{f:Nat->Nat}(h:fX w g n f)(i j:Nat)(hj:j<n)(x:Nat):(w.setCell ⟨g,i,none⟩ (ae ak (x:Int))).cell? ⟨g,j,none⟩=some (ae ak (fK f i x j:Int)):=(h.set i x).cell hj
def oK(x y:Int):Int:=if x<y then-1 else if y<x then 1 else 0
theorem Qx{x y:Int}:oK x y<0↔x<y:=by unfold oK;split<;>(try split)<;>omega
theorem yl(w:au)(x:Int):ax prog 195 #[ae ak x] w fun e w'=>e=aq (aj false)/\w'=w:=by
 go_enter func195,ntmps195
 go_wp2;go_ret;exact⟨by simp,rfl⟩
theorem Qy(w:au)(x y:Int):ax prog 183 #[ae ak x,ae ak y] w fun e w'=>e=aq (ae ak (oK x y))/\w'=w:=by
 obtain⟨r,hr⟩:=fb (oK x y);rw[<-hr];have hn:=yl;unfold oK at hr;go_enter func183,ntmps183
 by_cases h1:x<y
 ·rw[if_pos h1]at hr;subst hr;go_wp2_with (go_at_call 195;refine(yl _ _).mono ?_;rintro e w1 ⟨rfl,rfl⟩)
  go_ret;exact⟨rfl,rfl⟩
 ·rw[if_neg h1]at hr;by_cases h2:y<x
  ·rw[if_pos h2]at hr;subst hr;go_wp2_with (go_at_call 195;refine(yl _ _).mono ?_;rintro e w1 ⟨rfl,rfl⟩)
   go_ret;exact⟨rfl,rfl⟩
  ·rw[if_neg h2]at hr;subst hr;go_wp2_with (go_at_call 195;refine(yl _ _).mono ?_;rintro e w1 ⟨rfl,rfl⟩)
   go_ret;exact⟨rfl,rfl⟩
def mg(w:au)(B b:Nat)(l:List Int):Prop:=B<b/\(∃A c,w.cell? ⟨B,0,none⟩=some (af A l.length c)/\iM w b A l)
theorem mg.below{w w':au}{B b:Nat}{l:List Int}(h:mg w B b l)(hb:aS b w w'):mg w' B b l:=by
 obtain⟨h1,A,c,h2,h3⟩:=h;exact⟨h1,A,c,by rw[hb.cell (p:=⟨B,0,none⟩) h1];exact h2,h3.below hb fe⟩
theorem Qz(w:au)(B b:Nat)(l:List Int)(h:mg w B b l)(_hl:l.length<=400)(x y:Nat)(hx:x<l.length)(hy:y<l.length):
  ax prog 182 #[ae ak (x:Int),ae ak (y:Int),ag (some ⟨B,0,none⟩)] w fun e w'=>e=aq (ae ak (oK (l.getD x 0) (l.getD y 0)))/\∃q,w'=w.drewN q:=by
 obtain⟨h1,A,c,h2,h3⟩:=h
 obtain⟨ba,o,rfl,ad,hc⟩:=h3.at hx
 have c1:=hc x hx
 have c2:=hc y hy
 obtain⟨u,hu⟩:=fb (l.getD x 0)
 obtain⟨v,hv⟩:=fb (l.getD y 0)
 rw[<-hu]at c1⊢
 rw[<-hv]at c2⊢
 have hk:=Qy
 obtain⟨N,hN⟩:=fb (l.length)
 rw[<-hN]at h2 _hl hx hy
 have HK:=fa hk
 clear hk hc hN hu hv h3
 go_enter func182,ntmps182
 go_wp2_with fail
 go_quiet ((go_at_call 183;exact Calls.quiet_of_same (HK.out _ _ _)))
 go_wp2_with fail
 go_ret
 exact⟨rfl,nq,rfl⟩
end Go.Proofs.YtgokdgcmkcmjeaaGreat
