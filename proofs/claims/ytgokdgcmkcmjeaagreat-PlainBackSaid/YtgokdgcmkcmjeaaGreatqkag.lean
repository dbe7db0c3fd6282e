/-
  Words and walks.
-/
import Derived.Lib.SliceRun
import Derived.Test.YtgokdgcmkcmjeaaGreatqkaa
import Derived.Test.YtgokdgcmkcmjeaaGreatqkab
import Derived.Test.YtgokdgcmkcmjeaaGreatqkac
import Derived.Test.YtgokdgcmkcmjeaaGreatqkad
import Derived.Test.YtgokdgcmkcmjeaaGreatqkae
import Derived.Test.YtgokdgcmkcmjeaaGreatqkaf
set_option maxRecDepth 100000
set_option maxHeartbeats 16000000
namespace Go.Proofs.YtgokdgcmkcmjeaaGreat
open Value renaming int → ae, slice → af, pointer → ag, agg → ai, bool → aj
open IntKind renaming i64 → ak
open Obj renaming cells → ao
open Ending renaming returned → aq
open Go renaming World → au, Addr → aw, Calls → ax, Value → ay, TypeId → aC, wpList_store_rowTo → aD, wpList_load_row → aF, heap_alloc_new → aH, cell_of_row → aI, heap_setCell_same → aO, frozen_of_row → aP
open Go.RowKit renaming intOf → aQ, Hid → aR, Below → aS
open _root_.Go.Proofs.Tryz
def tW(n:Nat)(f:Nat->Nat)(d i:Nat):Nat:=f (n-d+i%d)
theorem Pk{n d i:Nat}{f:Nat->Nat}(_:1<=d)(ad:d<=n):tW n f d i=cat f n (tW n f d) (n+i-d):=by
 unfold cat;by_cases h:n+i-d<n
 ·rw[if_pos h];unfold tW;rw[Nat.mod_eq_of_lt (by omega)];congr 1;omega
 ·rw[if_neg h];unfold tW;have e:n+i-d-n=i-d:=by omega
  rw[e,Nat.mod_eq_sub_mod (by omega:i≥d)]
open Go.RowKit Go.ChangeShapes Go.WideShapes Go.ChangeAt Go.Joins
theorem GH{L:List Nat}{t:fi}(h:∀x∈L,x<256)(hx:t.x<256):∀x∈fV L t,x<256:=by
 intro x hm;unfold fV at hm;split at hm
 ·rw[List.mem_append]at hm;rcases hm with hm|hm
  ·exact h x hm
  ·simp at hm;omega
 ·rw[List.mem_append]at hm;rcases hm with hm|hm
  ·exact h x hm
  ·unfold jZ at hm;rw[List.mem_map]at hm;obtain⟨i,_,rfl⟩:=hm;exact jz h _
theorem Pm(f:Nat->Nat)(n:Nat):ft n f=ft n (fc (iF f n)):=rf fun _ hj=>(wU f hj).symm
theorem Pn{A:Nat}{l:List fi}{i:Nat}(h:i<l.length)(L:List Nat):Vw A (l.drop i) L=
  if fH (l.getD i gH)=false then(8,[])else if(L.length:Int)<(l.getD i gH).d then(60,[])else if 131072<L.length-A+il (l.getD i gH)then(4,[])else Vw A (l.drop (i+1)) (fV L (l.getD i gH)):=by
 have e:l.drop i=l.getD i gH::l.drop (i+1):=by
  rw[List.drop_eq_getElem_cons h,List.getD_eq_getElem?_getD,List.getElem?_eq_getElem h];rfl
 rw[e];rfl
def po(f:Nat->Nat)(n:Nat)(l:List fi):Int×List Nat:=if 131072<n\/131072<l.length then(4,[])else Vw n l (iF f n)
theorem tX{t:fi}(h:fH t=true):(t.n=0/\t.d=0)\/(t.n≠0/\t.x=0/\3<=t.n/\t.n<=258/\1<=t.d/\t.d<=32768):=by unfold fH at h;exact of_decide_eq_true h
def kT(s h m:Int):Int:=if iI s h m=true then 0 else 8
def pY(t:fi):Int:=if fH t=true then 0 else 8
theorem vL:(prog.info? 55).map (·.size)=some 4:=by kernel_rfl
theorem Bj(w:au)(s h m:Int)(z:Bool):ax prog 21 #[ai #[ae ak s,ae ak h,ae ak m,aj z]] w fun e w'=>e=aq (ae ak (kT s h m))/\aS w.heap.size w w':=by
 have HB:=fa ((Below.refl w.heap.size w).alloc fe (ao #[ae ak s,ae ak h,ae ak m,aj z] 55));by_cases y0:s<1
 ·have d0:decide (s<1)=true:=by simp;omega
  have e:kT s h m=8:=by unfold kT;rw[if_neg];unfold iI;simp;omega
  rw[e];go_enter func21,ntmps21
  go_wp2;go_ret;exact⟨rfl,HB.out⟩
 have d0:decide (s<1)=false:=by simp;omega
 by_cases y1:32768<s
 ·have d1:decide (32768<s)=true:=by simp;omega
  have e:kT s h m=8:=by unfold kT;rw[if_neg];unfold iI;simp;omega
  rw[e];go_enter func21,ntmps21
  go_wp2;go_ret;exact⟨rfl,HB.out⟩
 have d1:decide (32768<s)=false:=by simp;omega
 by_cases y2:h<0
 ·have d2:decide (h<0)=true:=by simp;omega
  have e:kT s h m=8:=by unfold kT;rw[if_neg];unfold iI;simp;omega
  rw[e];go_enter func21,ntmps21
  go_wp2;go_ret;exact⟨rfl,HB.out⟩
 have d2:decide (h<0)=false:=by simp;omega
 by_cases y3:256<h
 ·have d3:decide (256<h)=true:=by simp;omega
  have e:kT s h m=8:=by unfold kT;rw[if_neg];unfold iI;simp;omega
  rw[e];go_enter func21,ntmps21
  go_wp2;go_ret;exact⟨rfl,HB.out⟩
 have d3:decide (256<h)=false:=by simp;omega
 by_cases y4:m<1
 ·have d4:decide (m<1)=true:=by simp;omega
  have e:kT s h m=8:=by unfold kT;rw[if_neg];unfold iI;simp;omega
  rw[e];go_enter func21,ntmps21
  go_wp2;go_ret;exact⟨rfl,HB.out⟩
 have d4:decide (m<1)=false:=by simp;omega
 by_cases y5:65535<m
 ·have d5:decide (65535<m)=true:=by simp;omega
  have e:kT s h m=8:=by unfold kT;rw[if_neg];unfold iI;simp;omega
  rw[e];go_enter func21,ntmps21
  go_wp2;go_ret;exact⟨rfl,HB.out⟩
 have d5:decide (65535<m)=false:=by simp;omega
 have e:kT s h m=0:=by unfold kT;rw[if_pos];unfold iI;simp;omega
 rw[e];go_enter func21,ntmps21
 go_wp2;go_ret;exact⟨rfl,HB.out⟩
def m7(t:fi):Bool:=t.n !=0||t.d !=0
theorem Bk(w:au)(t:fi):ax prog 122 #[ai #[ae .u8 (t.x:Int),ae ak t.d,ae ak t.n]] w fun e w'=>e=aq (aj (m7 t))/\aS w.heap.size w w':=by
 obtain⟨x,d,n⟩:=t;have HB:=fa ((Below.refl w.heap.size w).alloc fe (ao #[ae .u8 (x:Int),ae ak d,ae ak n] 182));by_cases h0:n=0
 ·subst h0;have e:m7 ⟨x,d,0⟩=(d !=0):=by simp[m7]
  rw[e];clear e;go_enter func122,ntmps122
  go_wp2;go_ret;exact⟨rfl,HB.out⟩
 ·have e0:(n !=0)=true:=by simp[h0]
  have e:m7 ⟨x,d,n⟩=true:=by simp[m7,h0]
  rw[e];clear e;go_enter func122,ntmps122
  go_wp2;go_ret;exact⟨rfl,HB.out⟩
theorem GI(w:au)(t:fi):ax prog 190 #[ai #[ae .u8 (t.x:Int),ae ak t.d,ae ak t.n]] w fun e w'=>e=aq (ae ak (if t.n<1 then 1 else t.n))/\aS w.heap.size w w':=by
 obtain⟨x,d,n⟩:=t;have HB:=fa ((Below.refl w.heap.size w).alloc fe (ao #[ae .u8 (x:Int),ae ak d,ae ak n] 182));by_cases h0:n<1
 ·rw[if_pos h0];go_enter func190,ntmps190
  go_wp2;go_ret;exact⟨rfl,HB.out⟩
 ·rw[if_neg h0];go_enter func190,ntmps190
  go_wp2;go_ret;exact⟨rfl,HB.out⟩
theorem GJ(w:au)(t:fi)(_:qz t):ax prog 83 #[ai #[ae .u8 (t.x:Int),ae ak t.d,ae ak t.n]] w fun e w'=>e=aq (ae ak (pY t))/\aS w.heap.size w w':=by
 obtain⟨x,d,n⟩:=t;obtain⟨W1,ah⟩:=fb (w.alloc (ao #[ae .u8 (x:Int),ae ak d,ae ak n] 36));have aZ:=fa ah;have aU:aS w.heap.size w W1:=by rw[ah];exact fz.alloc fe _
 have aV:W1.heap.size=w.heap.size+1:=by rw[ah];simp
 have av:W1.heap[w.heap.size]?=some (ao #[ae .u8 (x:Int),ae ak d,ae ak n] 36 (0,0)):=by rw[ah];exact aH w _
 have aW:=fa aU;have a1:=fa aV;have aX:=fa av
 have HM:=fa (Bk W1 ⟨x,d,n⟩);clear ah aU aV av;obtain⟨E,hE⟩:=fb (pY ⟨x,d,n⟩);rw[<-hE];obtain⟨b,hb⟩:=fb (m7 ⟨x,d,n⟩);rw[<-hb]at HM;have HE:=fa hE;have aY:=fa hb
 clear hE hb;go_enter func83,ntmps83
 go_wp2_with fail
 rw[<-aZ.out];refine HM.out.mono ?_;rintro e w2 ⟨rfl,aT⟩;have ad:=fa (aW.out.trans (aT.mono aW.out.size));have al:w2.heap[w.heap.size]?=some (ao #[ae .u8 (x:Int),ae ak d,ae ak n] 36 (0,0)):=(aT.block _ (by have:=a1.out;omega)).trans aX.out;have x0:w2.cell? ⟨w.heap.size,0,none⟩=some (ae .u8 (x:Int)):=(aI w2 _ 0 _ _ (0,0) al).trans rfl;have x1:w2.cell? ⟨w.heap.size,1,none⟩=some (ae ak d):=(aI w2 _ 1 _ _ (0,0) al).trans rfl;have x2:w2.cell? ⟨w.heap.size,2,none⟩=some (ae ak n):=(aI w2 _ 2 _ _ (0,0) al).trans rfl;clear aT al;cases b with
 |false=>
  have hz:n=0/\d=0:=by have h:=aY.out.symm;simp[m7]at h;exact h
  obtain rfl:E=0:=by rw[HE.out];unfold pY;rw[if_pos];simp[fH,hz.1,hz.2]
  go_wp2;go_ret;exact⟨rfl,ad.out⟩
 |true=>
  have hz:¬(n=0/\d=0):=by have h:=aY.out.symm;simp[m7]at h;omega
  have key:∀P:Prop,(fH ⟨x,d,n⟩=true↔P)->(¬P->E=8)/\(P->E=0):=fun P hP=>⟨fun h=>by rw[HE.out];unfold pY;rw[if_neg (fun g=>h (hP.1 g))],fun h=>by rw[HE.out];unfold pY;rw[if_pos (hP.2 h)]⟩
  have hk:=key (¬n<3/\¬258<n/\¬d<1/\¬32768<d/\x=0) (by unfold fH;simp only[decide_eq_true_eq];omega);clear key;by_cases y0:n<3
  ·have d0:decide (n<3)=true:=by simp;omega
   obtain rfl:E=8:=hk.1 (by omega);clear hk;go_wp2;go_ret;exact⟨rfl,ad.out⟩
  have d0:decide (n<3)=false:=by simp;omega
  by_cases y1:258<n
  ·have d1:decide (258<n)=true:=by simp;omega
   obtain rfl:E=8:=hk.1 (by omega);clear hk;go_wp2;go_ret;exact⟨rfl,ad.out⟩
  have d1:decide (258<n)=false:=by simp;omega
  by_cases y2:d<1
  ·have d2:decide (d<1)=true:=by simp;omega
   obtain rfl:E=8:=hk.1 (by omega);clear hk;go_wp2;go_ret;exact⟨rfl,ad.out⟩
  have d2:decide (d<1)=false:=by simp;omega
  by_cases y3:32768<d
  ·have d3:decide (32768<d)=true:=by simp;omega
   obtain rfl:E=8:=hk.1 (by omega);clear hk;go_wp2;go_ret;exact⟨rfl,ad.out⟩
  have d3:decide (32768<d)=false:=by simp;omega
  by_cases y4:x=0
  ·subst y4;have d4:(((0:Nat):Int) !=0)=false:=by decide
   obtain rfl:E=0:=hk.2 (by omega);clear hk;go_wp2;go_ret;exact⟨rfl,ad.out⟩
  ·have d4:((x:Int) !=0)=true:=by simp;omega
   obtain rfl:E=8:=hk.1 (by omega);clear hk;go_wp2;go_ret;exact⟨rfl,ad.out⟩
theorem GK(w:au)(A:Option aw)(n c:Nat)(f:Nat->Nat)(hr:fq w w.heap.size A n c f)(hn:n<=2000000):
  ax prog 84 #[af A n c] w fun e w'=>∃A' c',e=aq (af A' n c')/\w'.ownsRow w.heap.size 5 1 (af A' n c') n (ft n f)/\aS w.heap.size w w':=by
 rcases A with _|ad
 ·obtain rfl:=hr.2.1 rfl;have h0:n=0:=by have:=hr.2.2.1;omega
  subst h0;clear hr;have aU:∀(w:au) (a:Option aw) (n c n' c':Nat),(binOp .eql 22 (af a n c) (af none n' c')).run prog w=.ok (aj a.isNone) w:=fun w a n c n' c'=>Lib.run_eql_slice_nil w _ _ a n c n' c' underlying22
  go_enter func84,ntmps84
  go_wp2;go_ret;exact⟨none,0,rfl,World.ownsRow_nil _ _ _ _,Below.refl _ _⟩
 ·have aU:∀(w:au) (a:Option aw) (n c n' c':Nat),(binOp .eql 22 (af a n c) (af none n' c')).run prog w=.ok (aj a.isNone) w:=fun w a n c n' c'=>Lib.run_eql_slice_nil w _ _ a n c n' c' underlying22
  have ah:aS w.heap.size w (w.alloc (ao #[] 5)):=fz.alloc fe _;have al:(w.alloc (ao #[] 5)).ownsRow w.heap.size 5 1 (af (some ⟨w.heap.size,0,none⟩) 0 0) 0 (ft 0 f):=World.ownsRow_made w #[] 0 fe (Nat.zero_le _) rfl;obtain⟨A',c',w',h1,h2,h3⟩:=wG _ w.heap.size (w.alloc (ao #[] 5)).heap.size _ 0 f al (some ad) n c f ((hr.1.below ah fe).more ah.size) (by omega) 22 (fun h=>by cases h) ah.size;rw[Nat.zero_add]at h1 h2;have e:cat f 0 f=f:=by funext j;unfold cat;rw[if_neg (by omega)];rfl
  rw[e]at h2;have av:=fa h1;have aT:=fa h2;have HB:=fa (ah.trans h3)
  clear h1 h2 h3 al ah hr e;go_enter func84,ntmps84
  go_wp2_with (at_builtin;refine wpList_append_run rfl (.tmp 5) (.tmp 6) 22 rfl (af (some ⟨w.heap.size,0,none⟩) 0 0) (af (some ad) n c) (af A' n c') w' rfl rfl av.out ?_)
  go_ret;exact⟨A',c',rfl,aT.out,HB.out⟩
theorem Po(w:au)(base:Nat)(A:Option aw)(n c:Nat)(F:Nat->Nat)(al:w.ownsRow base 5 1 (af A n c) n (ft n F))(x:Nat)(hx:x=F n)(hn:n<=1000000000)(ad:base<=w.heap.size):
  ∃A' c' w',(Builtin.append_ #[22,22] 22 #[af A n c,af (some ⟨w.heap.size,0,none⟩) 1 1]).run prog (w.alloc (ao #[ae .u8 (x:Int)] 5))=.ok (af A' (n+1) c') w'/\
   w'.ownsRow base 5 1 (af A' (n+1) c') (n+1) (ft (n+1) F)/\aS base w w'/\(∀k,k<w.heap.size->(Value.slice A n c).ownBlock≠some k->w'.heap[k]?=w.heap[k]?):=by
 subst hx
 have ah:aS base w (w.alloc (ao #[ae .u8 (F n:Int)] 5)):=(Below.refl base w).alloc ad _
 have av:=al.alloc (ao #[ae .u8 (F n:Int)] 5)
 obtain⟨A',c',w',h2,o2,b2⟩:=zH (z:=ae .u8 0) (kI:=1) underlying22 ox rfl (by decide) (w.alloc (ao #[ae .u8 (F n:Int)] 5)) base _ (af A n c) n _ av _ 1 1 _
  (gR.new w 1 1 #[ae .u8 (F n:Int)] 5 rfl) (fun u hu=>by simp at hu;subst hu;rfl) (by unfold maxLen;omega) (by omega) 22 (fun h=>by cases h) (Nat.le_trans ad ah.size)
 refine⟨A',c',w',h2,?_,ah.trans ((Below.refl base _).grown b2 (Nat.le_trans ad ah.size) (ql av)),fun k hk aT=>?_⟩
 ·have e:ft n F++(#[Value.int .u8 (F n:Int)]:Array ay).toList=ft (n+1) F:=by
   unfold ft;rw[List.range_succ,List.map_append];rfl
  rw[e]at o2;exact o2
 ·refine(b2.block k (by simp;omega) (fun e=>aT e.symm)).trans ?_;exact(Below.refl w.heap.size w).alloc fe (ao #[ae .u8 (F n:Int)] 5)|>.block k hk
theorem me{w:au}{base sz n h:Nat}{e t:aC}{v:ay}{xs:List ay}{cs:Array ay}(ho:w.ownsRow base e sz v n xs)(hh:w.heap[h]?=some (ao cs t (0,0)))(ad:(e==t)=false):v.ownBlock≠some h:=fun hk=>by
 rcases ho.2 with⟨rfl,_⟩|⟨g,cap,cur,rfl,_,hg,_⟩
 ·simp[Value.ownBlock]at hk
 ·simp[Value.ownBlock]at hk;subst hk;rw[hg]at hh;injection hh with hh
  injection hh with _ h2 _
  rw[h2]at ad;simp at ad
theorem pZ{B:Nat}{a w:au}(h:aS B a w){g:Nat}(hp:B<=g)(cs:Array ay):aS B a (w.setRow g cs):=
 ⟨h.os,h.tape,h.output,by rw[size_setRow];exact h.size,fun k hk=>(setRow_other w g k cs (by omega)).trans (h.block k hk)⟩
theorem tY(t:fi):(gY t).toArray.all (·.oneCell')=true:=by simp[gY,Value.oneCell']
theorem sH(t:fi):(prog.info? 36).map (·.size)=some (gY t).toArray.size:=mT
theorem Pp{q d k:Nat}{L:List Nat}(hq:q=L.length)(hd:1<=d)(ad:d<=q):fc (L++jZ L d k) (q+k-d)=fc (L++jZ L d (k+1)) (q+k):=by
 subst hq;have h1:=Pk (n:=L.length) (d:=d) (i:=k) (f:=fc L) hd ad;have g:∀m j,j<m->fc (L++jZ L d m) (L.length+j)=tW L.length (fc L) d j:=fun m j hj=>by
  unfold fc jZ;rw[List.getD_eq_getElem?_getD,List.getElem?_append_right (by omega),Nat.add_sub_cancel_left];simp[hj];unfold tW;rfl
 rw[g (k+1) k (by omega),h1];unfold cat;by_cases h:L.length+k-d<L.length
 ·rw[if_pos h];unfold fc;rw[List.getD_eq_getElem?_getD,List.getD_eq_getElem?_getD,List.getElem?_append_left h]
 ·rw[if_neg h];have h2:=g k (L.length+k-d-L.length) (by omega);rw[show L.length+(L.length+k-d-L.length)=L.length+k-d by omega]at h2;exact h2
theorem Pq{q d k:Nat}{L:List Nat}(hq:q=L.length):ft (q+k) (fc (L++jZ L d k))=ft (q+k) (fc (L++jZ L d (k+1))):=by
 subst hq;refine rf fun j hj=>?_
 unfold fc jZ;rw[List.getD_eq_getElem?_getD,List.getD_eq_getElem?_getD];rcases Nat.lt_or_ge j L.length with h|h
 ·rw[List.getElem?_append_left h,List.getElem?_append_left h]
 ·rw[List.getElem?_append_right h,List.getElem?_append_right h];have h2:j-L.length<k:=by omega
  have h3:j-L.length<k+1:=by omega
  simp[h2,h3]
theorem Pr(w:au)(base:Nat)(t:fi)(At:Option aw)(ct q:Nat)(L:List Nat)(hq:q=L.length)(hL:∀x∈L,x<256)(hx:t.x<256)(a2:w.ownsRow base 5 1 (af At q ct) q (ft q (fc L)))(bI:base<=w.heap.size)(bP:q<=1000000)
  (hm:fH t=true) (hd:t.d<=(q:Int)):
  ax prog 115 #[ai #[ae .u8 (t.x:Int),ae ak t.d,ae ak t.n],af At q ct] w fun e w'=>∃A' q' c',e=aq (af A' q' c')/\q'=(fV L t).length/\w'.ownsRow base 5 1 (af A' q' c') q' (ft q' (fc (fV L t)))/\aS base w w':=by
 obtain⟨x,d,n⟩:=t
 obtain⟨W1,av⟩:=fb (w.alloc (ao #[ae .u8 (x:Int),ae ak d,ae ak n] 182))
 have bq:=fa av
 have a9:aS w.heap.size w W1:=by rw[av];exact fz.alloc fe _
 have br:W1.heap.size=w.heap.size+1:=by rw[av];simp
 have a3:W1.heap[w.heap.size]?=some (ao #[ae .u8 (x:Int),ae ak d,ae ak n] 182 (0,0)):=by rw[av];exact aH w _
 have bf:=fa a9;have bt:=fa br;have a4:=fa a3
 have HM:=fa (Bk W1 ⟨x,d,n⟩)
 have HL:=fa hL;have HQ:=fa hq
 have aT:=mW a2 a9
 have bu:=fa aT
 obtain⟨h,hh⟩:=fb (w.heap.size)
 have HH:=fa hh
 have bJ:base<=h:=by omega
 clear av a9 br a3 a2 aT hL hq hh
 obtain⟨b,hb⟩:=fb (m7 ⟨x,d,n⟩)
 rw[<-hb]at HM
 have hz:b=false↔n=0:=by
  rw[hb];simp only[m7,Bool.or_eq_false_iff,bne_eq_false_iff_eq];have:=tX hm;simp at this;omega
 have HZ:=fa hz;have bK:=fa hm
 clear hz hb hm
 go_enter func115,ntmps115
 go_wp2_with fail
 rw[<-bq.out,<-HH.out]
 refine HM.out.mono ?_
 rintro e w2 ⟨rfl,aU⟩
 have a5:=bf.out.trans (aU.mono bf.out.size)
 have bx:=fa (show aS base w w2 from a5.mono (by rw[<-HH.out];exact bJ))
 have ad:w2.heap[h]?=some (ao #[ae .u8 (x:Int),ae ak d,ae ak n] 182 (0,0)):=by rw[HH.out];exact(aU.block _ (by have:=bt.out;omega)).trans a4.out
 have bg:=fa (mW bu.out aU)
 have bQ:h<w2.heap.size:=by have:=aU.size;have:=bt.out;have:=HH.out;omega
 have bL:=fa ad
 have x0:w2.cell? ⟨h,0,none⟩=some (ae .u8 (x:Int)):=(aI w2 _ 0 _ _ (0,0) ad).trans rfl
 have x2:w2.cell? ⟨h,2,none⟩=some (ae ak n):=(aI w2 _ 2 _ _ (0,0) ad).trans rfl
 clear aU ad a5 HM a4 bf bq bu
 cases b with
 |false=>
  obtain rfl:n=0:=HZ.out.1 rfl;obtain⟨q1,q2⟩:=E5 L x;have ah:fV L ⟨x,d,0⟩=L++[x]:=by unfold fV;rw[if_pos rfl]
  have bz:∀y∈L++[x],y<256:=by rw[<-ah];exact GH HL.out hx
  rw[<-HQ.out]at q1 q2;obtain⟨A',c',w',ad,al,aV⟩:=zB w2 base At q ct (fc (L++[x])) (jz bz) (by rw[<-q1];exact bg.out) x q2.symm (by omega) (by omega);have aW:q+1=(fV L ⟨x,d,0⟩).length:=by rw[ah,List.length_append,<-HQ.out];rfl
  rw[<-ah]at al;have aX:=fa ad;have aY:=fa al;have bj:=fa (bx.out.trans aV);have bl:=fa aW
  clear ad al aV aW bz q1 q2 ah;go_wp2_with (at_builtin;refine wpList_append_run rfl (.tmp 8) (.tmp 11) 22 rfl (af At q ct) (af (some ⟨w2.heap.size,0,none⟩) 1 1) (af A' (q+1) c') w' rfl rfl aX.out ?_)
  go_ret;exact⟨A',q+1,c',rfl,bl.out,aY.out,bj.out⟩
 |true=>
  have bA:n≠0:=fun e=>by have:=HZ.out.2 e;cases this
  have bM:x=0/\3<=n/\n<=258/\1<=d/\d<=32768:=by
   have:=tX bK.out;simp at this;omega
  obtain⟨N,hN⟩:∃N:Nat,(N:Int)=n:=⟨n.toNat,Int.toNat_of_nonneg (by omega)⟩;obtain⟨D,hD⟩:∃D:Nat,(D:Int)=d:=⟨d.toNat,Int.toNat_of_nonneg (by omega)⟩;subst hN;subst hD;have bR:3<=N/\N<=258:=by omega
  have bB:1<=D/\D<=32768/\D<=q:=by simp at hd;omega
  have ah:fV L ⟨x,(D:Int),(N:Int)⟩=L++jZ L D N:=by unfold fV;rw[if_neg (by simpa using bA)];rfl
  have a6:=fa ah;have a7:∀k,∀j,fc (L++jZ L D k) j<256:=fun k=>jz fun y hy=>by
   rw[List.mem_append]at hy;rcases hy with hy|hy
   ·exact HL.out y hy
   ·unfold jZ at hy;rw[List.mem_map]at hy;obtain⟨i,_,rfl⟩:=hy;exact jz HL.out _
  have bN:=fa a7;have bC:w2.ownsRow base 5 1 (af At q ct) q (ft q (fc (L++jZ L D 0))):=by
   have e:L++jZ L D 0=L:=by simp[jZ]
   rw[e];exact bg.out
  have bO:=fa bC;clear ah a7 bC bM bA hd bg;go_wp2;go_loopw [1,15] (fun bv iv wr=>∃(i p:Nat) (Ai:Option aw) (ci:Nat),i<=N/\p=q+i/\bv=af Ai p ci/\iv=ae ak (i:Int)/\aR (wr.ownsRow base 5 1 (af Ai p ci) p (ft p (fc (L++jZ L D i))))/\aR (aS base w wr)/\aR (wr.heap[h]?=some (ao #[ae .u8 (x:Int),ae ak (D:Int),ae ak (N:Int)] 182 (0,0)))) (fun _ iv _=>N-(aQ iv).toNat)
  case atStart=>exact⟨0,q,At,ct,Nat.zero_le _,rfl,rfl,rfl,bO,bx,bL⟩
  case round=>
   obtain⟨i,p,Ai,ci,hi,hp,rfl,rfl,HO,HB,aZ⟩:=hrel;by_cases bS:i<N
   ·have bD:(i:Int)<(N:Int):=by omega
    have bE:=fq.gD HO.out (bN.out i);obtain⟨bb,o,rfl,bT,hc⟩:=bE.1.2 (by omega);have z1:wr.cell? ⟨h,1,none⟩=some (ae ak (D:Int)):=(aI wr _ 1 _ _ (0,0) aZ.out).trans rfl;obtain⟨r,hr⟩:=fb (p-D);have er:(p:Int)-(D:Int)=(r:Int):=by omega
    have z2:=hc r (by omega);have bn:=Pp (k:=i) HQ.out bB.1 bB.2.2;rw[show q+i-D=r by omega,<-hp]at bn;rw[bn]at z2;have hex:=Pq (d:=D) (k:=i) HQ.out;rw[<-hp]at hex;obtain⟨A',c',w',ad,al,aV,bF⟩:=Po wr base (some ⟨bb,o,none⟩) p ci (fc (L++jZ L D (i+1))) (by rw[<-hex];exact HO.out) _ rfl (by omega) (by have:=(Array.getElem?_eq_some_iff.1 aZ.out).1;omega);obtain⟨u,hu⟩:=fb (fc (L++jZ L D (i+1)) p);rw[<-hu]at z2 ad;have bU:r<p:=by omega
    have bV:(r:Int)<(p:Int):=by omega
    have bW:(0:Int)<=(r:Int):=by omega
    have bX:p<=2000000:=by omega
    have aX:=fa ad;have aY:=fa al;have bj:=fa (HB.out.trans aV)
    have aW:p+1=q+(i+1):=by omega
    have bl:=fa aW;have bG:aR (w'.heap[h]?=some (ao #[ae .u8 (x:Int),ae ak (D:Int),ae ak (N:Int)] 182 (0,0))):=fa ((bF h (Array.getElem?_eq_some_iff.1 aZ.out).1 (me HO.out aZ.out (by kernel_rfl))).trans aZ.out);clear ad al aV hc bE bn hex hu hr hp aW bF;go_wp2_with (at_builtin;refine wpList_append_run rfl (.tmp 17) (.tmp 26) 22 rfl (af (some ⟨bb,o,none⟩) p ci) (af (some ⟨wr.heap.size,0,none⟩) 1 1) (af A' (p+1) c') w' rfl rfl aX.out ?_)
    go_roundw
    case rel=>exact⟨i+1,p+1,A',c',by omega,bl.out,rfl,by go_num,aY,bj,bG⟩
    case measure=>simp[aQ];omega
   ·obtain rfl:i=N:=by omega
    have bD:¬(i:Int)<(i:Int):=by omega
    have a8:p=(fV L ⟨x,(D:Int),(i:Int)⟩).length:=by rw[a6.out,List.length_append,<-HQ.out,hp];simp[jZ]
    have a1:wr.ownsRow base 5 1 (af Ai p ci) p (ft p (fc (fV L ⟨x,(D:Int),(i:Int)⟩))):=by rw[a6.out];exact HO.out
    subst hp;have bH:=fa a8;have aY:=fa a1
    clear a8 a1;go_wp2;go_ret;exact⟨Ai,q+i,ci,rfl,bH.out,aY.out,HB.out⟩
theorem GL{T E:aC}{z:ay}{sz kI:Nat}(hT:prog.underlying T=some (.slice E))(hI:(prog.info? E).map (fun i=>(i.zero,i.size,i.bytes))=some (some z,sz,kI))(hz:z.cells.size=sz)(aT:0<sz)
  (w:au) (base B:Nat) (v0:ay) (n:Nat) (xs:List ay) (ah:w.ownsRow base E sz v0 n xs) (A:Option aw) (m c:Nat) (ys:List ay) (hr:gR w B sz A m ys) (h1:∀u∈ys,u.oneCell'=true)
  (aU:n+m<=maxLen) (aV:(n+m)*kI<=140737488355328) (ty:aC) (hA:A=none->c=0) (av:base<=w.heap.size):
  ∃A' c' w',(Builtin.append_ #[T,T] ty #[v0,af A m c]).run prog w=.ok (af A' (n+m) c') w'/\w'.ownsRow base E sz (af A' (n+m) c') (n+m) (xs++ys)/\w.grownBy w' v0.ownBlock/\((Value.slice A' (n+m) c').ownBlock=v0.ownBlock\/(Value.slice A' (n+m) c').ownBlock=some w.heap.size):=by
 obtain⟨i0,hi,aW,aX,aY⟩:=info_parts hI
 have key:∃v' w',(Builtin.append_ #[T,T] ty #[v0,af A m c]).run prog w=.ok v' w'/\w'.ownsRow base E sz v' (n+m) (xs++ys)/\w.grownBy w' v0.ownBlock/\(v'.ownBlock=v0.ownBlock\/v'.ownBlock=some w.heap.size):=by
  rcases A with _|ad
  ·have h0:m=0:=by
    rcases Nat.eq_zero_or_pos m with h|h
    ·exact h
    ·obtain⟨b,o,h,_⟩:=hr.2 h;cases h
   subst h0;obtain rfl:=hA rfl;have hy:ys=[]:=List.length_eq_zero_iff.1 (by have:=hr.1;omega);subst hy;refine⟨v0,w,run_append_owned_none (P:=prog) (w:=w) base T ty E i0 sz hT hi v0 n _ ah,?_,World.grownBy.refl _ _,.inl rfl⟩;simpa using ah
  ·have al:∀j u,ys[j]?=some u->w.cell? (ad.add j)=some u:=by
    intro j u hu;have hm:0<m:=by
     rcases Nat.eq_zero_or_pos m with h|h
     ·have hy:ys=[]:=List.length_eq_zero_iff.1 (by have:=hr.1;rw[h]at this;omega);rw[hy]at hu;cases hu
     ·exact h
    obtain⟨b,o,h,_,hc⟩:=hr.2 hm;injection h with h
    subst h;have e:(⟨b,o,none⟩:aw).add j=⟨b,o+j,none⟩:=by unfold Addr.add;split<;>simp_all
    rw[e];exact hc j u hu
   obtain⟨v',w',h1,h2,h3,_,h5⟩:=run_append_own_at (P:=prog) w base T ty E i0 z sz kI hT hi aW aX aY hz aT v0 n xs ah ad m c ys hr.1 al h1 aU aV av;exact⟨v',w',h1,h2,h3,h5⟩
 obtain⟨v',w',h1,h2,h3,h5⟩:=key
 have hv:∃A' c',v'=af A' (n+m) c':=by
  rcases h2.2 with⟨rfl,h⟩|⟨g,cap,cur,rfl,_⟩
  ·exact⟨none,0,by rw[h]⟩
  ·exact⟨_,_,rfl⟩
 obtain⟨A',c',rfl⟩:=hv
 exact⟨A',c',w',h1,h2,h3,h5⟩
theorem GM(w:au)(base:Nat)(A:Option aw)(n c:Nat)(F:Nat->Nat)(al:w.ownsRow base 5 1 (af A n c) n (ft n F))(x:Nat)(hx:x=F n)(hn:n<=1000000000)(ad:base<=w.heap.size):
  ∃A' c' w',(Builtin.append_ #[22,22] 22 #[af A n c,af (some ⟨w.heap.size,0,none⟩) 1 1]).run prog (w.alloc (ao #[ae .u8 (x:Int)] 5))=.ok (af A' (n+1) c') w'/\
   w'.ownsRow base 5 1 (af A' (n+1) c') (n+1) (ft (n+1) F)/\aS base w w'/\(∀k,k<w.heap.size->(Value.slice A n c).ownBlock≠some k->w'.heap[k]?=w.heap[k]?)/\(∀j,(Value.slice A' (n+1) c').ownBlock=some j->(Value.slice A n c).ownBlock=some j\/w.heap.size<=j):=by
 subst hx
 have ah:aS base w (w.alloc (ao #[ae .u8 (F n:Int)] 5)):=(Below.refl base w).alloc ad _
 have av:=al.alloc (ao #[ae .u8 (F n:Int)] 5)
 obtain⟨A',c',w',h2,o2,b2,h5⟩:=GL (z:=ae .u8 0) (kI:=1) underlying22 ox rfl (by decide) (w.alloc (ao #[ae .u8 (F n:Int)] 5)) base _ (af A n c) n _ av _ 1 1 _
  (gR.new w 1 1 #[ae .u8 (F n:Int)] 5 rfl) (fun u hu=>by simp at hu;subst hu;rfl) (by unfold maxLen;omega) (by omega) 22 (fun h=>by cases h) (Nat.le_trans ad ah.size)
 refine⟨A',c',w',h2,?_,ah.trans ((Below.refl base _).grown b2 (Nat.le_trans ad ah.size) (ql av)),fun k hk aT=>?_,fun j hj=>?_⟩
 ·have e:ft n F++(#[Value.int .u8 (F n:Int)]:Array ay).toList=ft (n+1) F:=by
   unfold ft;rw[List.range_succ,List.map_append];rfl
  rw[e]at o2;exact o2
 ·refine(b2.block k (by simp;omega) (fun e=>aT e.symm)).trans ?_;exact(Below.refl w.heap.size w).alloc fe (ao #[ae .u8 (F n:Int)] 5)|>.block k hk
 ·rcases h5 with h5|h5
  ·exact .inl (h5▸hj)
  ·rw[h5]at hj;injection hj with hj
   simp at hj;exact .inr (by omega)
theorem Bl(w:au)(base:Nat)(A:Option aw)(n c:Nat)(F:Nat->Nat)(ah:w.ownsRow base 5 1 (af A n c) n (ft n F))(A2:Option aw)(m c2:Nat)(r G:Nat->Nat)(hr:fq w w.heap.size A2 m c2 r)(hG:∀j,j<n->G j=F j)(av:∀j,j<m->G (n+j)=r j)(hn:n+m<=1000000000)(ad:base<=w.heap.size):
  ∃A' c' w',(Builtin.append_ #[22,22] 22 #[af A n c,af A2 m c2]).run prog w=.ok (af A' (n+m) c') w'/\
   w'.ownsRow base 5 1 (af A' (n+m) c') (n+m) (ft (n+m) G)/\aS base w w'/\(∀k,k<w.heap.size->(Value.slice A n c).ownBlock≠some k->w'.heap[k]?=w.heap[k]?)/\(∀j,(Value.slice A' (n+m) c').ownBlock=some j->(Value.slice A n c).ownBlock=some j\/w.heap.size<=j):=by
 have al:gR w w.heap.size 1 A2 m (ft m r):=by
  refine⟨by simp[ft],fun h0=>?_⟩;obtain⟨b,o,h1,h2,h3⟩:=hr.1.2 h0;refine⟨b,o,h1,h2,fun j u hu=>?_⟩;have hj:j<m:=by
   rcases Nat.lt_or_ge j m with g|g
   ·exact g
   ·rw[List.getElem?_eq_none (by simpa[ft]using g)]at hu;cases hu
  rw[h3 j hj,<-hu];simp[ft,hj]
 obtain⟨A',c',w',h2,o2,b2,h5⟩:=GL (z:=ae .u8 0) (kI:=1) underlying22 ox rfl (by decide) w base _ (af A n c) n _ ah A2 m c2 _
  al (fun u hu=>by simp[ft]at hu;obtain⟨_,_,rfl⟩:=hu;rfl) (by unfold maxLen;omega) (by omega) 22 hr.2.1 ad
 refine⟨A',c',w',h2,?_,(Below.refl base _).grown b2 ad (ql ah),fun k hk aT=>b2.block k hk (fun e=>aT e.symm),fun j hj=>?_⟩
 ·have e:ft n F++ft m r=ft (n+m) G:=by
   unfold ft;rw[List.range_add,List.map_append,List.map_map];congr 1
   ·refine List.map_congr_left fun j hj=>?_
    rw[hG j (List.mem_range.1 hj)]
   ·refine List.map_congr_left fun j hj=>?_
    simp only[Function.comp];rw[av j (List.mem_range.1 hj)]
  rw[e]at o2;exact o2
 ·rcases h5 with h5|h5
  ·exact .inl (h5▸hj)
  ·rw[h5]at hj;injection hj with hj
   exact .inr (by omega)
theorem iB{w w':au}{base sz n:Nat}{e:aC}{v:ay}{xs:List ay}(h:w.ownsRow base e sz v n xs)(hk:∀j,v.ownBlock=some j->w'.heap[j]?=w.heap[j]?):w'.ownsRow base e sz v n xs:=by
 obtain⟨h1,h2⟩:=h;refine⟨h1,?_⟩;rcases h2 with h2|⟨g,cap,cur,hv,hg,hh,r⟩
 ·exact .inl h2
 ·exact .inr ⟨g,cap,cur,hv,hg,(hk g (by rw[hv];rfl)).trans hh,r⟩
theorem gP{w:au}{base sz n:Nat}{e:aC}{v:ay}{xs:List ay}(h:w.ownsRow base e sz v n xs):∀j,v.ownBlock=some j->base<=j/\j<w.heap.size:=by
 intro j hj;rcases h.2 with⟨rfl,_⟩|⟨g,cap,cur,rfl,hg,hh,_⟩
 ·simp[Value.ownBlock]at hj
 ·simp[Value.ownBlock]at hj;subst hj;exact⟨hg,(Array.getElem?_eq_some_iff.1 hh).1⟩
theorem fC.set{S:Nat->Prop}{w:au}{p:aw}(h:¬S p.block)(v:ay):fC S w (w.setCell p v):=fun k hk=>Below.heap_setCell w p v k (fun e=>h (e▸hk))
theorem fC.below{S:Nat->Prop}{w w':au}(h:∀j,S j->j<w.heap.size)(hb:aS w.heap.size w w'):fC S w w':=fun k hk=>hb.block k (h k hk)
theorem fC.less{S S':Nat->Prop}{w w':au}(h:fC S w w')(hs:∀j,S' j->S j):fC S' w w':=fun k hk=>h k (hs k hk)
theorem fC.drew{S:Nat->Prop}{w w':au}(h:fC S w w'):fC S w w'.drew:=h
structure jh (w:au) (S:Nat->Prop) (B g:Nat) (F:Nat->Nat) (L R q:Nat) (A:Option aw) (c:Nat):Prop where
 base:B<=g
 size:B<=w.heap.size
 out:¬S g
 row:w.heap[g]?=some (ao #[af A L c,ae .u64 (R:Int),ae ak (q:Int)] 99 (0,0))
 own:w.ownsRow B 5 1 (af A L c) L (ft L F)
 tZ:∀j,(Value.slice A L c).ownBlock=some j->¬S j
 top:∀j,S j->j<w.heap.size
theorem jh.lt{w:au}{S:Nat->Prop}{B g:Nat}{F:Nat->Nat}{L R q:Nat}{A:Option aw}{c:Nat}(h:jh w S B g F L R q A c):g<w.heap.size:=(Array.getElem?_eq_some_iff.1 h.row).1
theorem jh.ne{w:au}{S:Nat->Prop}{B g:Nat}{F:Nat->Nat}{L R q:Nat}{A:Option aw}{c:Nat}(h:jh w S B g F L R q A c):(Value.slice A L c).ownBlock≠some g:=me h.own h.row (by kernel_rfl)
theorem jh.drew{w:au}{S:Nat->Prop}{B g:Nat}{F:Nat->Nat}{L R q:Nat}{A:Option aw}{c:Nat}(h:jh w S B g F L R q A c):jh w.drew S B g F L R q A c:=⟨h.1,h.2,h.3,h.4,h.5,h.6,h.7⟩
theorem jh.cells{w:au}{S:Nat->Prop}{B g:Nat}{F:Nat->Nat}{L R q:Nat}{A:Option aw}{c:Nat}(h:jh w S B g F L R q A c):
  w.cell? ⟨g,0,none⟩=some (af A L c)/\w.cell? ⟨g,1,none⟩=some (ae .u64 (R:Int))/\w.cell? ⟨g,2,none⟩=some (ae ak (q:Int))/\w.frozen? ⟨g,0,none⟩=false/\w.frozen? ⟨g,1,none⟩=false/\w.frozen? ⟨g,2,none⟩=false:=
 ⟨(aI w g 0 _ _ (0,0) h.row).trans rfl,(aI w g 1 _ _ (0,0) h.row).trans rfl,(aI w g 2 _ _ (0,0) h.row).trans rfl,aP w g 0 _ _ h.row,aP w g 1 _ _ h.row,aP w g 2 _ _ h.row⟩
theorem jh.rest{w:au}{S:Nat->Prop}{B g:Nat}{F:Nat->Nat}{L R q:Nat}{A:Option aw}{c:Nat}(h:jh w S B g F L R q A c)(R':Nat):jh (w.setCell ⟨g,1,none⟩ (ae .u64 (R':Int))) S B g F L R' q A c:=
 ⟨h.base,by simpa[World.setCell]using h.size,h.out,(aO w g 1 _ _ _ h.row).trans (by simp),iB h.own fun j hj=>Below.heap_setCell w _ _ j (fun e=>h.ne (by rw[hj,e])),h.tZ,fun j hj=>by simpa[World.setCell]using h.top j hj⟩
theorem jh.left{w:au}{S:Nat->Prop}{B g:Nat}{F:Nat->Nat}{L R q:Nat}{A:Option aw}{c:Nat}(h:jh w S B g F L R q A c)(q':Nat):jh (w.setCell ⟨g,2,none⟩ (ae ak (q':Int))) S B g F L R q' A c:=
 ⟨h.base,by simpa[World.setCell]using h.size,h.out,(aO w g 2 _ _ _ h.row).trans (by simp),iB h.own fun j hj=>Below.heap_setCell w _ _ j (fun e=>h.ne (by rw[hj,e])),h.tZ,fun j hj=>by simpa[World.setCell]using h.top j hj⟩
theorem jh.less{w:au}{S S':Nat->Prop}{B g:Nat}{F:Nat->Nat}{L R q:Nat}{A:Option aw}{c:Nat}(h:jh w S B g F L R q A c)(hs:∀j,S' j->S j):jh w S' B g F L R q A c:=
 ⟨h.base,h.size,fun k=>h.out (hs _ k),h.row,h.own,fun j hj k=>h.tZ j hj (hs _ k),fun j hj=>h.top j (hs _ hj)⟩
theorem jh.grow{w w':au}{S:Nat->Prop}{B g:Nat}{F:Nat->Nat}{L R q:Nat}{A:Option aw}{c:Nat}(h:jh w S B g F L R q A c)(hb:aS w.heap.size w w'):jh w' (fun j=>S j\/(w.heap.size<=j/\j<w'.heap.size)) B g F L R q A c:=
 ⟨h.base,Nat.le_trans h.size hb.size,fun k=>k.elim h.out fun k=>by have:=h.lt;omega,(hb.block g h.lt).trans h.row,iB h.own fun j hj=>hb.block j (gP h.own j hj).2,fun j hj k=>k.elim (h.tZ j hj) fun k=>by have:=(gP h.own j hj).2;omega,
  fun j hj=>hj.elim (fun k=>Nat.lt_of_lt_of_le (h.top j k) hb.size) fun k=>k.2⟩
theorem jh.after{w w':au}{S:Nat->Prop}{B g:Nat}{F:Nat->Nat}{L R q:Nat}{A:Option aw}{c:Nat}(h:jh w S B g F L R q A c)(hb:aS w.heap.size w w'):jh w' S B g F L R q A c:=(h.grow hb).less fun _ k=>.inl k
theorem jh.Ps{w:au}{S:Nat->Prop}{B g:Nat}{F G:Nat->Nat}{L R q:Nat}{A:Option aw}{c:Nat}(h:jh w S B g F L R q A c)(e:∀j,j<L->F j=G j):jh w S B g G L R q A c:=⟨h.1,h.2,h.3,h.4,by have:=h.5;rwa[rf e]at this,h.6,h.7⟩
theorem jh.grown{w w':au}{S:Nat->Prop}{B g:Nat}{F G:Nat->Nat}{L L' R q:Nat}{A A':Option aw}{c c':Nat}(h:jh w S B g F L R q A c)(ho:w'.ownsRow B 5 1 (af A' L' c') L' (ft L' G))(hb:aS B w w')
  (hk:∀k,k<w.heap.size->(Value.slice A L c).ownBlock≠some k->w'.heap[k]?=w.heap[k]?) (hw:∀j,(Value.slice A' L' c').ownBlock=some j->(Value.slice A L c).ownBlock=some j\/w.heap.size<=j):
  jh (w'.setCell ⟨g,0,none⟩ (af A' L' c')) S B g G L' R q A' c'/\fC S w (w'.setCell ⟨g,0,none⟩ (af A' L' c'))/\aS B w (w'.setCell ⟨g,0,none⟩ (af A' L' c')):=by
 have hg:=(hk g h.lt h.ne).trans h.row
 have ad:(Value.slice A' L' c').ownBlock≠some g:=me ho hg (by kernel_rfl)
 have ah:∀j,(Value.slice A' L' c').ownBlock=some j->¬S j:=fun j hj k=>(hw j hj).elim (fun e=>h.tZ j e k) fun e=>by have:=h.top j k;omega
 refine⟨⟨h.base,Nat.le_trans h.size (by simpa[World.setCell]using hb.size),h.out,(aO w' g 0 _ _ _ hg).trans (by simp),iB ho fun j hj=>Below.heap_setCell w' _ _ j (fun e=>ad (by rw[hj,e])),ah,fun j hj=>Nat.lt_of_lt_of_le (h.top j hj) (by simpa[World.setCell]using hb.size)⟩,?_,hb.setCell h.base _⟩
 exact fun j hj=>(Below.heap_setCell w' _ _ j (fun e=>h.out (by have e:j=g:=e;rwa[e]at hj))).trans (hk j (h.top j hj) fun e=>h.tZ j e hj)
def gq(w:au)(S:Nat->Prop)(B g:Nat)(f:Nat->Nat)(k:Nat):Prop:=Ve f k/\∃A c,jh w S B g f (k/8) (f (k/8)) (k%8) A c
theorem gq.less{w:au}{S S':Nat->Prop}{B g k:Nat}{f:Nat->Nat}(h:gq w S B g f k)(hs:∀j,S' j->S j):gq w S' B g f k:=by
 obtain⟨h1,A,c,h2⟩:=h;exact⟨h1,A,c,h2.less hs⟩
theorem gq.grow{w w':au}{S:Nat->Prop}{B g k:Nat}{f:Nat->Nat}(h:gq w S B g f k)(hb:aS w.heap.size w w'):gq w' (fun j=>S j\/(w.heap.size<=j/\j<w'.heap.size)) B g f k:=by
 obtain⟨h1,A,c,h2⟩:=h;exact⟨h1,A,c,h2.grow hb⟩
theorem gq.after{w w':au}{S:Nat->Prop}{B g k:Nat}{f:Nat->Nat}(h:gq w S B g f k)(hb:aS w.heap.size w w'):gq w' S B g f k:=(h.grow hb).less fun _ k=>.inl k
theorem gq.drew{w:au}{S:Nat->Prop}{B g k:Nat}{f:Nat->Nat}(h:gq w S B g f k):gq w.drew S B g f k:=by
 obtain⟨h1,A,c,h2⟩:=h;exact⟨h1,A,c,h2.drew⟩
theorem gq.lt{w:au}{S:Nat->Prop}{B g k:Nat}{f:Nat->Nat}(h:gq w S B g f k):g<w.heap.size:=by
 obtain⟨h1,A,c,h2⟩:=h;exact h2.lt
theorem gq.top{w:au}{S:Nat->Prop}{B g k:Nat}{f:Nat->Nat}(h:gq w S B g f k):∀j,S j->j<w.heap.size:=by
 obtain⟨h1,A,c,h2⟩:=h;exact h2.top
theorem gq.size{w:au}{S:Nat->Prop}{B g k:Nat}{f:Nat->Nat}(h:gq w S B g f k):B<=w.heap.size:=by
 obtain⟨h1,A,c,h2⟩:=h;exact h2.size
theorem GN(x:Nat×Nat):(j4 x).toArray.all (·.oneCell')=true:=by simp[j4,Value.oneCell']
theorem Bm(x:Nat×Nat):(prog.info? 146).map (·.size)=some (j4 x).toArray.size:=by simp only[j4];kernel_rfl
theorem Pt(x:Nat×Nat):(prog.info? 146).map (·.size)=some (j4 x).length:=by simp only[j4];kernel_rfl
theorem Pu(a b i:Nat)(ha:a<18446744073709551616)(h:b<18446744073709551616)(hb:a<2^i)(hd:2^i∣b):bits .or .u64 (a:Int) (b:Int)=((a+b:Nat):Int):=by
 have hx:a|||b<2^64:=Nat.or_lt_two_pow (by omega) (by omega)
 have e:a|||b=a+b:=by rw[Nat.or_comm,wE b a i hb hd,Nat.add_comm]
 rw[<-e];show IntKind.u64.wrap ((BitVec.ofInt 64 (a:Int)|||BitVec.ofInt 64 (b:Int)).toNat:Int)=_
 rw[BitVec.toNat_or,oq 64 a (by omega),oq 64 b (by omega),IntKind.wrap_u64];omega
def pq(S:Nat->Prop)(A:Option aw)(m:Nat):Prop:=∀b o,0<m->A=some ⟨b,o,none⟩->S b
theorem Pv(w:au)(S:Nat->Prop)(B g:Nat)(f:Nat->Nat)(K:Nat)(A2:Option aw)(m c2:Nat)(P:List (Nat×Nat))(h:gq w S B g f K)(hp:tu w w.heap.size A2 P)(hS:pq S A2 m)(hm:m=P.length)(dc:m<=1000)(bu:∀x∈P,pj x)(hk:K+UQ P<=16000000):
  ax prog 85 #[ag (some ⟨g,0,none⟩),af A2 m c2] w fun e w'=>e=aq (.tuple #[])/\gq w' S B g (fE f K P) (K+UQ P)/\fC S w w'/\aS B w w':=by
 have H:=fa h;have HP:=fa hp;have HS:=fa hS;have HM:=fa hm;have HF:=fa bu;have HK:=fa hk
 clear h hp hS hm bu hk
 go_enter func85,ntmps85
 go_wp2_with fail
 go_loopw [8] (fun iv wr=>∃i:Nat,i<=m/\iv=ae ak (i:Int)/\aR (gq wr S B g (fE f K (P.take i)) (K+UQ (P.take i)))/\aR (fC S w wr)/\aR (aS B w wr)) (fun iv _=>m-(aQ iv).toNat)
 case atStart=>exact⟨0,Nat.zero_le _,rfl,fa H.out,fa (fC.refl _ _),fa fz⟩
 case round=>
  obtain⟨i,hi,rfl,HR,bJ,HB⟩:=hrel;by_cases cC:i<m
  ·have bW:(i:Int)<(m:Int):=by omega
   have a6:i<P.length:=by rw[<-HM.out];exact cC
   obtain⟨b,o,rfl,cD,hc⟩:=HP.out.at a6;have bX:S b:=HS.out b o (by omega) rfl;have bx:=HP.out.range rfl a6;have bK:wr.rangeAt b (o+i*2) (j4 (P.getD i oW)):=fun j v hv=>by rw[bJ.out.cell (p:=⟨b,o+i*2+j,none⟩) bX];exact bx j v hv
   obtain⟨x1,x2⟩:=HF.out _ (LX a6);obtain⟨av,a7⟩:=LW (f:=f) (k:=K) a6;have cE:=D4 P i;have bY:=D4 P (i+1);obtain⟨⟨v,n⟩,ht⟩:∃t,t=P.getD i oW:=⟨_,rfl⟩;rw[<-ht]at bK x1 x2 av a7;dsimp only at x1 x2 av a7;obtain⟨k,hk⟩:=fb (K+UQ (P.take i));obtain⟨G,hG⟩:=fb (fE f K (P.take i));have hr:=HR.out;rw[<-hG,<-hk]at hr av;obtain⟨a8,A,c,hq⟩:=hr;obtain⟨F1,aV⟩:=fb (Vo G k v n);rw[<-aV]at av;have bz:Ve F1 (k+n):=by rw[aV];exact a8.put v n
   have aW:=Bd a8 v n x2;rw[<-aV,Nat.mod_eq_of_lt x1]at aW;have bA:∀j,j<k/8->G j=F1 j:=fun j hj=>by rw[aV];exact(Bc G k v n j hj).symm
   have bZ:=hq.Ps bA;have b0:k+n=K+UQ (P.take (i+1)):=by rw[a7,hk];omega
   have dd:k+n<=16000000:=by have:=HK.out;omega
   have db:v<65536:=by
    have:(2:Nat)^n<=2^16:=Nat.pow_le_pow_right (by omega) x2;have e:(2:Nat)^16=65536:=rfl;omega
   obtain⟨h,hh⟩:=fb (wr.heap.size);obtain⟨W2,a9⟩:=fb (gi wr #[ae .u32 0,ae ak 0] (j4 (v,n)).toArray 146);have al:aS wr.heap.size wr W2:=by rw[a9];exact km _ _ _ _
   have aX:W2.heap[h]?=some (ao (j4 (v,n)).toArray 146 (0,0)):=by rw[a9,hh];exact kO wr _ _ _
   have bf:=bZ.after al;have bB:fC S w W2:=bJ.out.tr (fC.below hq.top al);have b1:aS B w W2:=HB.out.trans (al.mono hq.size);have y0:W2.cell? ⟨h,0,none⟩=some (ae .u32 (v:Int)):=(aI W2 _ 0 _ _ (0,0) aX).trans rfl;have y1:W2.cell? ⟨h,1,none⟩=some (ae ak (n:Int)):=(aI W2 _ 1 _ _ (0,0) aX).trans rfl;obtain⟨z0,z1,z2,e0,e1,e2⟩:=bf.cells;have de:g<h:=by rw[hh];exact hq.lt
   obtain⟨R,hR⟩:=fb (G (k/8));obtain⟨q,bg⟩:=fb (k%8);obtain⟨L,hL⟩:=fb (k/8);rw[<-hR,<-bg,<-hL]at bf;rw[<-hL]at z0;rw[<-hR]at z1;rw[<-bg]at z2;have aT:q<8:=by omega
   have cH:=fa bK;have cI:=fa a9;have bj:=fa bf;have bC:=fa bB;have b2:=fa b1;have HH:=fa hh;have bD:=fa aW;have ah:=fa bz;have cJ:=fa b0;have cK:=fa av;have HR:=fa hR;have bL:=fa bg;have HL:=fa hL;have b3:=fa a8
   clear bK a9 bf bB b1 hh aW bz b0 av hR bg hL aX al bZ bA aV a8 hq a7 ht cE bY hc bx bX cD x1 hk hG;go_wp2_with (first|refine wpList_load_mid rfl _ _ rfl b (o+i*2) rfl (j4 (v,n)) _ cH.out underlying146 rfl (Pt _) ?_|refine aD rfl _ _ _ rfl rfl wr.heap.size (j4 (v,n)).toArray rfl rfl 146 #[ae .u32 0,ae ak 0] (aH wr _) (Bm _) rfl (GN _) ?_;change wpList _ _ _ _ _ (gi wr #[ae .u32 0,ae ak 0] (j4 (v,n)).toArray 146);rw[<-cI.out,<-HH.out])
   go_region;have b4:bits .or .u64 (R:Int) (IntKind.u64.wrap ((v:Int)*2^q))=((kr F1 L:Nat):Int):=by
    have h8:2^q<=2^7:=Nat.pow_le_pow_right (by omega) (by omega);have e7:(2:Nat)^7=128:=rfl;have dg:v*2^q<=65535*128:=Nat.mul_le_mul (by omega) (by omega);have cL:R<2^q:=by rw[HR.out,bL.out];exact b3.out.2.2
    have e:IntKind.u64.wrap ((v:Int)*2^q)=((v*2^q:Nat):Int):=by rw[yO,IntKind.wrap_u64];omega
    rw[e,Pu R (v*2^q) q (by omega) (by omega) cL (Nat.dvd_mul_left _ _),HL.out,bD.out,<-HR.out,<-bL.out]
   rw[b4];have aY:=(bj.out.rest (kr F1 L)).drew;obtain⟨W3,aZ⟩:=fb ((W2.setCell ⟨g,1,none⟩ (ae .u64 ((kr F1 L:Nat):Int))).drew);have bE:fC S w W3:=by rw[aZ];exact(bC.out.tr (fC.set bj.out.out _)).drew
   have b5:aS B w W3:=by rw[aZ];exact(b2.out.setCell bj.out.base _).drew
   have cM:W3.cell? ⟨h,1,none⟩=some (ae ak (n:Int)):=by rw[aZ];exact(World.cell?_setCell_other _ _ _ _ (fun e=>by have:g=h:=congrArg Addr.block e;omega)).trans y1
   rw[<-aZ]at aY⊢;obtain⟨b6,bM,b7,b8,b9,ca⟩:=aY.cells;obtain⟨R3,bN⟩:=fb (kr F1 L);rw[<-bN]at aY bM⊢;have bl:=fa aY;have bF:=fa bE;have cb:=fa b5;have cN:=fa bN
   clear b4 aY bE b5 bN aZ y0 y1 z0 z1 z2 e0 e1 e2 bj bC b2 bD;go_wp2;go_region;have bn:=(bl.out.left (q+n)).drew;rw[Int.natCast_add]at bn;obtain⟨W4,bq⟩:=fb ((W3.setCell ⟨g,2,none⟩ (ae ak ((q:Int)+(n:Int)))).drew);have bG:fC S w W4:=by rw[bq];exact(bF.out.tr (fC.set bl.out.out _)).drew
   have cf:aS B w W4:=by rw[bq];exact(cb.out.setCell bl.out.base _).drew
   rw[<-bq]at bn⊢;have cO:=fa bn;have cg:=fa bG;have cP:=fa cf
   clear bn bG cf bq b6 bM b7 b8 b9 ca cM bl bF cb;go_wp2;go_loopw [] (fun wx=>∃(t:Nat) (A':Option aw) (c':Nat),L<=t/\8*t<=k+n/\aR (jh wx S B g F1 t (kr F1 t) (k+n-8*t) A' c')/\aR (fC S w wx)/\aR (aS B w wx)) (fun wx=>(aQ ((wx.cell? ⟨g,2,none⟩).getD (ae ak 0))).toNat)
   case atStart=>
    refine⟨L,A,c,Nat.le_refl _,by have:=HL.out;omega,fa ?_,cg,cP⟩;have:=cO.out;rw[show k+n-8*L=q+n by have:=HL.out;have:=bL.out;omega,<-cN.out];exact this
   case round=>
    obtain⟨t,At,ct,dh,di,HQ,ch,cj⟩:=hrel;obtain⟨s,hs⟩:=fb (k+n-8*t);have ad:=HQ.out;rw[<-hs]at ad;obtain⟨Rv,a1⟩:=fb (kr F1 t);have bO:=OJ ah.out.1 t;rw[<-a1]at ad bO;obtain⟨z0,z1,z2,e0,e1,e2⟩:=ad.cells;have dj:s<=16000000:=by omega
    have cQ:=fa ad;have bP:=fa hs;have cR:=fa a1
    have cS:=HL.out;by_cases dk:8<=s
    ·have ck:(8:Int)<=(s:Int):=by omega
     have hz:F1 (t+3)=0:=ah.out.2.1 _ (by omega);obtain⟨bQ,bR⟩:=OH ah.out.1 t hz;rw[<-a1]at bQ bR;obtain⟨x,hx⟩:=fb (F1 t);obtain⟨A',c',w',cl,cm,al,br,cn⟩:=GM wr.drew B At t ct F1 (ad.drew).own x hx (by omega) ad.size;obtain⟨bS,a2,bT⟩:=ad.drew.grown cm al br cn;rw[<-hx]at bQ;obtain⟨R5,bU⟩:=fb (kr F1 (t+1));rw[<-bU]at bR;have dm:IntKind.u8.wrap (Rv:Int)=(x:Int):=by rw[IntKind.wrap_u8];omega
     have dn:(Rv:Int)%256=(x:Int):=by omega
     have dp:(Rv:Int)/256=(R5:Int):=by omega
     have cT:8*(t+1)<=k+n:=by omega
     obtain⟨W5,bV⟩:=fb (w'.setCell ⟨g,0,none⟩ (af A' (t+1) c'));have cp:=fa cl;rw[<-bV]at bS a2 bT;have bt:=fa bS;have cq:=fa (ch.out.tr a2);have cU:=fa (cj.out.drew.trans bT);have cV:=fa bV;have cW:=fa bU
     have dq:g<wr.heap.size:=ad.lt;have cX:w'.frozen? ⟨g,0,none⟩=false:=aP w' g 0 _ _ ((br g ad.lt ad.ne).trans ad.row);have cY:w'.cell? ⟨g,0,none⟩=some (af At t ct):=(aI w' g 0 _ _ (0,0) ((br g ad.lt ad.ne).trans ad.row)).trans rfl;have cZ:=fa z2;clear cl bS a2 bT bV bU cm al br cn bQ bR hx hs a1 ad cS hz bO;go_wp2;go_region_law ((refine uI rfl (.tmp 45) (.tmp 51) 22 22 rfl (af At t ct) (af (some ⟨wr.heap.size,0,none⟩) 1 1) rfl rfl (af A' (t+1) c') w' cp.out ?_))
     all_goals(
      rw[<-cV.out];obtain⟨b6,bM,b7,b8,b9,ca⟩:=bt.out.cells;have aU:=bt.out.rest R5;obtain⟨W6,a3⟩:=fb (W5.setCell ⟨g,1,none⟩ (ae .u64 (R5:Int)));rw[<-a3]at aU;have bH:fC S w W6:=by rw[a3];exact cq.out.tr (fC.set bt.out.out _)
      have cr:aS B w W6:=by rw[a3];exact cU.out.setCell bt.out.base _
      obtain⟨_,_,z6,_,_,e6⟩:=aU.cells;have aT:=aU.left (s-8);have cu:((s-8:Nat):Int)=(s:Int)-8:=by omega
      rw[cu]at aT;obtain⟨W7,a4⟩:=fb (W6.setCell ⟨g,2,none⟩ (ae ak ((s:Int)-8)));rw[<-a4]at aT;have bI:fC S w W7:=by rw[a4];exact bH.tr (fC.set aU.out _)
      have cv:aS B w W7:=by rw[a4];exact cr.setCell aU.base _
      obtain⟨_,_,z7,_,_,_⟩:=aT.cells;have c7:=fa aT;have cw:=fa bI;have c8:=fa cv;have cx:=fa a3;have cy:=fa a4;have c9:=fa z7
      clear aU bH cr aT bI cv a3 a4 cu z0 z1 z2 e0 e1 e2 cX cY z7;go_wp2;go_roundw
      case rel=>
       rw[<-cx.out,<-cy.out];exact⟨t+1,A',c',by omega,cT,fa (by rw[<-cW.out,show k+n-8*(t+1)=s-8 by have:=bP.out;omega];exact c7.out),cw,c8⟩
      case measure=>rw[<-cx.out,<-cy.out,cZ.out,c9.out];simp[aQ];omega)
    ·have ck:¬(8:Int)<=(s:Int):=by omega
     have cz:t=(k+n)/8:=by have:=bP.out;omega
     have cA:s=(k+n)%8:=by have:=bP.out;omega
     have a5:gq wr S B g F1 (k+n):=by
      refine⟨ah.out,At,ct,?_⟩;have h1:=cQ.out;rw[cR.out,cz,OI ah.out,cA]at h1;exact h1
     rw[cJ.out,<-cK.out]at a5;have cB:=fa a5;clear a5 cz cA bO ad hs a1;go_wp2;go_roundw
     case rel=>exact⟨i+1,by omega,by go_num,cB,ch,cj⟩
     case measure=>simp[aQ];omega
  ·obtain rfl:i=m:=by omega
   have bW:¬(i:Int)<(i:Int):=by omega
   have hr:=HR.out;rw[HM.out,List.take_length]at hr;have da:=fa hr;clear hr HR;go_wp2;go_end0;exact⟨rfl,da.out,bJ.out,HB.out⟩
section
variable {g h:Nat->Nat} {l m:Nat}
end
theorem GQ{L:Nat}{a:Int}(h:l8 L a=0):L<=131072/\0<=a/\a.toNat<=8*L:=by
 unfold l8 at h;split at h
 ·omega
 ·split at h
  ·omega
  ·omega
theorem GR{G:Nat->Nat}{K code m:Nat}(hb:∀j,j<m->iO G (K+j)=Vn code m/2^j%2)(hc:code<2^m):∀k,k<=m->bvN G K k=code/2^(m-k)
 |0,_=>by
  show 0=_
  rw[Nat.sub_zero,Nat.div_eq_of_lt hc]
 |k+1,h=>by
  have ih:=GR hb hc k (by omega);have h1:=LV code m (m-1-k) (by omega);rw[show m-1-(m-1-k)=k by omega]at h1;simp only[bvN];rw[ih,hb k (by omega),h1,show m-k=(m-(k+1))+1 by omega,show m-1-k=m-(k+1) by omega,Nat.pow_succ,<-Nat.div_div_eq_div_mul];omega
theorem Pw{f:Nat->Nat}{n:Nat}{fh:Int}(h:fD f n fh=0){i:Nat}(hi:i<n)(h0:0<f i){G:Nat->Nat}{L K:Nat}(hb:∀j,j<f i->iO G (K+j)=Vn (gG f n i) (f i)/2^j%2)(hL:K+f i<=8*L):
  UT f n G L K 17 0=(i,K+f i,0):=by
 obtain⟨_,aW,hn,aU,ha,_⟩:=lk h
 have ad:∀j,j<n->f j<=15:=fun j hj=>by have:=aU j hj;omega
 have hc:=wO hi ad ha
 have aV:=GR hb hc
 have av:gG f n i=bvN G K (f i):=by rw[aV (f i) fe,Nat.sub_self];simp
 have al:(UT f n G L K 17 0).2.2=0:=MK (l:=L) hi (ad i hi) h0 av hL (f i) 0 (by omega)
 obtain⟨k,e1,e2,e3⟩:=xu 17 0 al
 obtain⟨c0,c1,c2⟩:=of_decide_eq_true e3
 have hj:(UT f n G L K 17 0).1=i:=by
  rcases Nat.decEq (UT f n G L K 17 0).1 i with aT|he
  ·exfalso;generalize (UT f n G L K 17 0).1=j at aT e2 c1 c2;have aX:=ad j e2;rcases Nat.le_total k (f i)with hle|hle
   ·have hp:=xt G K k (f i-k);rw[show k+(f i-k)=f i by omega,<-av]at hp;have ah:wN (gG f n j) (f j) (gG f n i) (f i)=true:=decide_eq_true ⟨by omega,by omega,by rw[c1,hp,c2]⟩;rw[Dv e2 hi ad aT]at ah;cases ah
   ·have hp:=xt G K (f i) (k-f i);rw[show f i+(k-f i)=k by omega,<-c2,<-av]at hp;have ah:wN (gG f n i) (f i) (gG f n j) (f j)=true:=decide_eq_true ⟨h0,by omega,by rw[c1];exact hp⟩;rw[Dv hi e2 ad (fun e=>aT e.symm)]at ah;cases ah
  ·exact he
 have hk:k=f i:=by rw[<-c1,hj]
 rcases hP:UT f n G L K 17 0 with⟨p1,p2,p3⟩
 rw[hP]at al e1 hj
 simp only at al e1 hj
 rw[al,e1,hj,hk]
def Stn(g:Nat->Nat):Nat->List (Nat×Nat)->Prop
 |_,[]=>True
 |k,x::P=>UR g k x.2=x.1/\Stn g (k+x.2) P
theorem lE{g:Nat->Nat}:∀(P Q:List (Nat×Nat)) (k:Nat),Stn g k (P++Q)↔Stn g k P/\Stn g (k+UQ P) Q
 |[],Q,k=>by simp[Stn,UQ]
 |x::P,Q,k=>by
  simp only[List.cons_append,Stn,UQ];rw[lE P Q,Nat.add_assoc,and_assoc]
theorem Px(g:Nat->Nat)(k:Nat){n j:Nat}(h:j<n):UR g k n/2^j%2=iO g (k+j):=by
 have e:=oY g k j (n-j);have e2:=oY g (k+j) 1 (n-j-1);rw[show 1+(n-j-1)=n-j by omega]at e2;rw[show j+(n-j)=n by omega]at e;have h1:=nj g k j;have h3:UR g (k+j) 1=iO g (k+j):=by simp[UR]
 have:=th g (k+j);rw[e,Nat.add_mul_div_left _ _ (Nat.two_pow_pos j),Nat.div_eq_of_lt h1,e2,h3];omega
theorem vM{F:Nat->Nat}{n:Nat}{fh:Int}(h:fD F n fh=0){i:Nat}(hi:i<n)(h0:0<F i){g:Nat->Nat}{L K:Nat}(hs:UR g K (F i)=Vn (gG F n i) (F i))(hL:K+F i<=8*L):
  UT F n g L K 17 0=(i,K+F i,0):=
 Pw h hi h0 (fun j hj=>by rw[<-Px g K hj,hs]) hL
theorem GU{F F':Nat->Nat}{n:Nat}(e:∀j,j<n->F' j=F j):fG n F'=fG n F:=by
 funext j;unfold fG;split
 ·exact e j (by assumption)
 ·rfl
theorem Bn{F F':Nat->Nat}{n:Nat}(hn:n<=320)(e:∀j,j<n->F' j=F j)(g:Nat->Nat)(L a:Nat):UT F' n g L a 17 0=UT F n g L a 17 0:=by
 rw[<-tK hn,<-tK (f:=F) hn,GU e]
theorem xY{F F':Nat->Nat}:∀n,(∀j,j<n->F' j=F j)->UY F' n=UY F n/\gy F' n=gy F n
 |0,_=>⟨rfl,rfl⟩
 |n+1,e=>by
  obtain⟨h1,h2⟩:=xY n fun j hj=>e j (by omega)
  simp only[UY,gy];rw[h1,h2,e n (by omega)];exact⟨rfl,rfl⟩
theorem Bo{F F':Nat->Nat}{n:Nat}(fh:Int)(e:∀j,j<n->F' j=F j):fD F' n fh=fD F n fh:=by
 have hb:mm F' n fh=mm F n fh:=by
  unfold mm;have:(∃j,j<n/\fh<(F' j:Int))↔(∃j,j<n/\fh<(F j:Int)):=
   ⟨fun⟨j,hj,h⟩=>⟨j,hj,by rw[<-e j hj];exact h⟩,fun⟨j,hj,h⟩=>⟨j,hj,by rw[e j hj];exact h⟩⟩
  simp only[this]
 unfold fD;rw[hb,(xY n e).1,(xY n e).2]
structure sI (k:fP) (F:Nat->Nat) (n:Nat) (G:Nat->Nat) (m:Nat):Prop where
 kind:k.kind≠0
 left:k.left=0
 hn:k.n=n
 hm:k.m=m
 cF:fD F n 15=0
 cG:fD G m 15=0
 eF:∀j,j<n->k.F j=F j
 eG:∀j,j<m->k.G j=G j
structure vN (F:Nat->Nat) (n:Nat) (G:Nat->Nat) (m:Nat) (t:fi):Prop where
 may:fH t=true
 x:t.x<256
 a:iP t<n/\0<F (iP t)
 b:t.n≠0->kl t<m/\0<G (kl t)
theorem Py{n:Int}(hE:nT n=0){g:Nat->Nat}{L K:Nat}(hs:UR g K (iN n).toNat=(jK n).toNat)(hL:K+(iN n).toNat<=8*L):jF false (gv n).toNat g L K=(n,K+(iN n).toNat,0):=by
 obtain⟨p1,p2,p3,p4,p5,p6,p7,p8⟩:=ta hE;have hr:=uN hE;have c1:((gv n).toNat:Int)=gv n:=by
  have:gv n=((257+qm n:Nat):Int):=if_pos hr;omega
 have c2:((jK n).toNat:Int)=jK n:=by omega
 have e1:mC false (gv n).toNat=0:=by show oU (((gv n).toNat:Nat):Int)=0;rw[c1];exact p3
 have e2:kx false (gv n).toNat=(iN n).toNat:=by show(mN (((gv n).toNat:Nat):Int)).toNat=_;rw[c1,p4]
 unfold jF;rw[if_neg (by omega),e2,if_neg (by omega),hs];show(kL (((gv n).toNat:Nat):Int) (((jK n).toNat:Nat):Int),_,kK (((gv n).toNat:Nat):Int) (((jK n).toNat:Nat):Int))=_
 rw[c1,c2,p1,p2]
theorem Pz{n:Int}(hE:ni n=0){g:Nat->Nat}{L K:Nat}(hs:UR g K (jo n).toNat=(jQ n).toNat)(hL:K+(jo n).toNat<=8*L):jF true (gE n).toNat g L K=(n,K+(jo n).toNat,0):=by
 obtain⟨p1,p2,p3,p4,p5,p6,p7,p8⟩:=tb hE;have hr:=wT hE;have c1:((gE n).toNat:Int)=gE n:=by
  have:gE n=((qo n:Nat):Int):=if_pos hr;omega
 have c2:((jQ n).toNat:Int)=jQ n:=by omega
 have e1:mC true (gE n).toNat=0:=by show oV (((gE n).toNat:Nat):Int)=0;rw[c1];exact p3
 have e2:kx true (gE n).toNat=(jo n).toNat:=by show(mO (((gE n).toNat:Nat):Int)).toNat=_;rw[c1,p4]
 unfold jF;rw[if_neg (by omega),e2,if_neg (by omega),hs];show(kM (((gE n).toNat:Nat):Int) (((jQ n).toNat:Nat):Int),_,lp (((gE n).toNat:Nat):Int) (((jQ n).toNat:Nat):Int))=_
 rw[c1,c2,p1,p2]
theorem GV{t:fi}(h:fH t=true):(t.n=0->t=⟨t.x,0,0⟩)/\(t.n≠0->t=⟨0,t.d,t.n⟩):=by
 unfold fH at h;simp only[decide_eq_true_eq]at h;obtain⟨x,d,n⟩:=t;simp only at h⊢;refine⟨fun h0=>?_,fun h0=>?_⟩
 ·subst h0;obtain rfl:d=0:=by omega
  rfl
 ·obtain rfl:x=0:=by omega
  rfl
theorem PA{k:fP}{F:Nat->Nat}{n:Nat}{G:Nat->Nat}{m:Nat}(H:sI k F n G m){t:fi}(T:vN F n G m t){g:Nat->Nat}{L K:Nat}(hS:Stn g K (gT F n G m t))(hL:K+UQ (gT F n G m t)<=8*L):
  fO k g L K=(t,false,K+UQ (gT F n G m t),0):=by
 obtain⟨_,_,hn,_⟩:=lk H.cF
 obtain⟨_,_,hm,_⟩:=lk H.cG
 obtain⟨i1,i2⟩:=T.a
 obtain⟨s1,s2,s3⟩:=mR T.may T.x
 unfold fO
 rw[if_neg H.kind,H.hn,Bn hn H.eF]
 by_cases h0:t.n=0
 ·have eP:gT F n G m t=[iG F n t.x]:=by unfold gT;rw[if_pos h0]
  rw[eP]at hS hL⊢;rw[s2 h0]at i1 i2;have hb:UQ [iG F n t.x]=F t.x:=rfl;rw[hb]at hL⊢;rw[vM H.cF i1 i2 hS.1 hL];unfold sk;rw[if_neg (fun h=>h rfl),if_pos T.x];show((⟨t.x,0,0⟩:fi),false,K+F t.x,(0:Int))=_
  rw[<-(GV T.may).1 h0]
 ·have eP:gT F n G m t=[iG F n (gv t.n).toNat,((jK t.n).toNat,(iN t.n).toNat),iG G m (gE t.d).toNat,((jQ t.d).toNat,(jo t.d).toNat)]:=by unfold gT;rw[if_neg h0]
  obtain⟨ah,al,ad,aV⟩:=s3 h0;obtain⟨j1,j2⟩:=T.b h0;have ea:iP t=(gv t.n).toNat:=by unfold iP;rw[if_neg h0]
  have eb:kl t=(gE t.d).toNat:=rfl;rw[ea]at i1 i2 ad;rw[eb]at j1 j2;rw[eP]at hS hL⊢;have hb:UQ [iG F n (gv t.n).toNat,((jK t.n).toNat,(iN t.n).toNat),iG G m (gE t.d).toNat,((jQ t.d).toNat,(jo t.d).toNat)]=F (gv t.n).toNat+((iN t.n).toNat+(G (gE t.d).toNat+((jo t.d).toNat+0))):=rfl;rw[hb]at hL⊢;have l1:K+F (gv t.n).toNat<=8*L:=by omega
  have l2:K+F (gv t.n).toNat+(iN t.n).toNat<=8*L:=by omega
  have l3:K+F (gv t.n).toNat+(iN t.n).toNat+G (gE t.d).toNat<=8*L:=by omega
  have l4:K+F (gv t.n).toNat+(iN t.n).toNat+G (gE t.d).toNat+(jo t.d).toNat<=8*L:=by omega
  have n1:¬(gv t.n).toNat<256:=by omega
  have n2:¬(gv t.n).toNat=256:=by omega
  have e5:K+F (gv t.n).toNat+(iN t.n).toNat+G (gE t.d).toNat+(jo t.d).toNat=K+(F (gv t.n).toNat+((iN t.n).toNat+(G (gE t.d).toNat+((jo t.d).toNat+0)))):=by omega
  obtain⟨q1,q2,q3,q4,_⟩:=hS;have av:UR g (K+F (gv t.n).toNat) (iN t.n).toNat=(jK t.n).toNat:=q2;have aT:UR g (K+F (gv t.n).toNat+(iN t.n).toNat) (G (gE t.d).toNat)=Vn (gG G m (gE t.d).toNat) (G (gE t.d).toNat):=q3;have aU:UR g (K+F (gv t.n).toNat+(iN t.n).toNat+G (gE t.d).toNat) (jo t.d).toNat=(jQ t.d).toNat:=q4;rw[vM H.cF i1 i2 q1 l1];unfold sk;rw[if_neg (fun h=>h rfl),if_neg n1,if_neg n2];rw[Py ah av l2];unfold vz;rw[if_neg (fun h=>h rfl),H.hm,Bn hm H.eG];rw[vM H.cG j1 j2 aT l3];unfold vy;rw[if_neg (fun h=>h rfl),Pz al aU l4];have eD:vw t.n (t.d,K+F (gv t.n).toNat+(iN t.n).toNat+G (gE t.d).toNat+(jo t.d).toNat,0)=(⟨0,t.d,t.n⟩,false,K+F (gv t.n).toNat+(iN t.n).toNat+G (gE t.d).toNat+(jo t.d).toNat,0):=rfl;rw[eD,<-(GV T.may).2 h0,e5]
theorem PB{k:fP}{F:Nat->Nat}{n:Nat}{G:Nat->Nat}{m:Nat}(H:sI k F n G m)(ad:256<n/\0<F 256){g:Nat->Nat}{L K:Nat}(hS:Stn g K [iG F n 256])(hL:K+F 256<=8*L):
  fO k g L K=(nW,true,K+F 256,0):=by
 obtain⟨_,_,hn,_⟩:=lk H.cF
 unfold fO
 rw[if_neg H.kind,H.hn,Bn hn H.eF,vM H.cF ad.1 ad.2 hS.1 hL]
 unfold sk
 rw[if_neg (fun h=>h rfl),if_neg (by show¬(256:Nat)<256;omega),if_pos rfl]
theorem Bp{g:Nat->Nat}{L ff a b:Nat}{k:fP}{out:List Nat}(ha:a<=8*L)(h:fS g L a=(k,b,0)):iU g L ff none out a=iU g L ff (some k) out b:=by
 rw[Fc ha,h,if_neg (fun h=>h rfl)]
theorem GX{g:Nat->Nat}{L ff a b:Nat}{k:fP}{t:fi}{out:List Nat}(ha:a<=8*L)(h:fO k g L a=(t,false,b,0))(hd:t.d<=(out.length:Int))(hl:out.length+il t<=ff):
  iU g L ff (some k) out a=iU g L ff (some (rq k)) (fV out t) b:=by
 rw[Af ha,h,if_neg (fun h=>h rfl),if_neg (show¬(false=true)from Bool.false_ne_true),if_neg (by show¬((out.length:Int)<t.d);omega),if_neg (by show¬(ff<out.length+il t);omega)]
theorem GY{g:Nat->Nat}{L ff a b:Nat}{k:fP}{t:fi}{out:List Nat}(ha:a<=8*L)(h:fO k g L a=(t,true,b,0)):
  iU g L ff (some k) out a=if k.last=true then(out,b,0)else iU g L ff none out b:=by
 rw[Af ha,h,if_neg (fun h=>h rfl),if_pos rfl]
def Vx:List Nat->List fi->Prop
 |_,[]=>True
 |out,t::l=>t.d<=(out.length:Int)/\Vx (fV out t) l
theorem GZ:∀(l:List fi) (out:List Nat),out.length<=(l.foldl fV out).length
 |[],_=>Nat.le_refl _
 |t::l,out=>by
  have:=GZ l (fV out t);rw[rV]at this;simp only[List.foldl_cons];omega
theorem PD{k:fP}(h:k.left=0):rq k=k:=by
 obtain⟨a,b,c,d,e,f,g⟩:=k;simp only at h;subst h;rfl
theorem G0{k:fP}{F:Nat->Nat}{n:Nat}{G:Nat->Nat}{m:Nat}(H:sI k F n G m){g:Nat->Nat}{L ff:Nat}:∀(l:List fi) (out:List Nat) (K:Nat),(∀t∈l,vN F n G m t)->Stn g K (l.flatMap (gT F n G m))->K+UQ (l.flatMap (gT F n G m))<=8*L->Vx out l->(l.foldl fV out).length<=ff->
  iU g L ff (some k) out K=iU g L ff (some k) (l.foldl fV out) (K+UQ (l.flatMap (gT F n G m)))
 |[],out,K,_,_,_,_,_=>rfl
 |t::l,out,K,hT,hS,hL,hP,hl=>by
  rw[List.flatMap_cons]at hS hL⊢;rw[gm]at hL⊢;obtain⟨S1,S2⟩:=(lE _ _ _).1 hS;have hlen:=GZ l (fV out t);rw[rV]at hlen;simp only[List.foldl_cons]at hl⊢;rw[GX (by omega) (PA H (hT t List.mem_cons_self) S1 (by omega)) hP.1 (by omega),PD H.left];rw[G0 H l (fV out t) _ (fun u hu=>hT u (List.mem_cons_of_mem _ hu)) S2 (by omega) hP.2 hl,Nat.add_assoc]
theorem G3{k:fP}{F:Nat->Nat}{n:Nat}{G:Nat->Nat}{m:Nat}(H:sI k F n G m)(ad:256<n/\0<F 256){g:Nat->Nat}{L ff:Nat}(l:List fi)(out:List Nat)(K:Nat)(hT:∀t∈l,vN F n G m t)(hS:Stn g K (ix F n G m l))(hL:K+UQ (ix F n G m l)<=8*L)(hP:Vx out l)(hl:(l.foldl fV out).length<=ff):
  iU g L ff (some k) out K=if k.last=true then(l.foldl fV out,K+UQ (ix F n G m l),0)else iU g L ff none (l.foldl fV out) (K+UQ (ix F n G m l)):=by
 unfold ix at hS hL⊢
 obtain⟨S1,S2⟩:=(lE _ _ _).1 hS
 rw[gm]at hL⊢
 have hb:UQ [iG F n 256]=F 256:=rfl
 rw[hb]at hL⊢
 rw[G0 H l out K hT S1 (by omega) hP hl,GY (by omega) (PB H ad S2 (by omega)),Nat.add_assoc]
def ua(last:Bool)(n:Nat):fP:=⟨0,last,n,jE,0,jE,0⟩
theorem PE(last:Bool)(n:Nat){x:Nat}{g:Nat->Nat}{L K:Nat}(hS:UR g K 8=x)(hL:K+8<=8*L):fO (ua last (n+1)) g L K=(⟨x,0,0⟩,false,K+8,0):=by
 show tM (n+1) g L K=_
 unfold tM;rw[if_neg (by omega),if_neg (by omega),hS]
theorem PF(last:Bool){g:Nat->Nat}{L K:Nat}:fO (ua last 0) g L K=(nW,true,K,0):=by
 rfl
theorem G4{g:Nat->Nat}{L ff:Nat}(last:Bool):∀(raw out:List Nat) (K:Nat),Stn g K (raw.map fun x=>(x,8))->K+8*raw.length<=8*L->out.length+raw.length<=ff->
  iU g L ff (some (ua last raw.length)) out K=if last=true then(out++raw,K+8*raw.length,0)else iU g L ff none (out++raw) (K+8*raw.length)
 |[],out,K,_,hL,_=>by
  rw[List.append_nil];exact GY (by omega) (PF last)
 |x::raw,out,K,hS,hL,hl=>by
  simp only[List.length_cons]at hL hl⊢;obtain⟨S1,S2⟩:=hS;have e:fV out ⟨x,0,0⟩=out++[x]:=by unfold fV;rw[if_pos rfl]
  rw[GX (by omega) (PE last raw.length S1 (by omega)) (by show(0:Int)<=_;omega) (by show out.length+1<=ff;omega),e];rw[show rq (ua last (raw.length+1))=ua last raw.length from rfl,G4 last raw (out++[x]) (K+8) S2 (by omega) (by simp only[List.length_append,List.length_cons,List.length_nil];omega),List.append_assoc,show K+8+8*raw.length=K+8*(raw.length+1) by omega];rfl
def pr(last:Bool):Nat:=if last then 1 else 0
theorem Bq(last:Bool):pr last<2:=by unfold pr;split<;>omega
theorem Br(last:Bool)(k:Nat):decide ((pr last+2*k)%2=1)=last:=by
 cases last
 ·exact decide_eq_false (by show¬((0+2*k)%2=1);omega)
 ·exact decide_eq_true (by show(1+2*k)%2=1;omega)
theorem Bt{g:Nat->Nat}{K b k:Nat}(h1:UR g K 1=b)(h2:UR g (K+1) 2=k):UR g K 3=b+2*k:=by
 have:=oY g K 1 2;rw[h1,h2]at this;exact this
theorem PG{g:Nat->Nat}{L K:Nat}(last:Bool){P:List (Nat×Nat)}(hS:Stn g K ([(pr last,1),(1,2)]++P))(hL:K+3<=8*L):fS g L K=(⟨1,last,0,iH,288,iZ,32⟩,K+3,0):=by
 have h3:=Bt hS.1 hS.2.1;have hb:=Bq last;unfold fS;rw[if_neg (by omega),h3];unfold sj;rw[if_neg (by omega),if_neg (by omega),if_pos (by omega),Br]
theorem PH{g:Nat->Nat}{L K n:Nat}(last:Bool){P:List (Nat×Nat)}(hn:n<=65535)(hS:Stn g K ([(pr last,1),(0,2)]++(List.replicate (jV (K%8)) (0,1)++[(n,16),(65535-n,16)]++P)))(hL:K+3+jV (K%8)+32<=8*L):
  fS g L K=(ua last n,K+3+jV (K%8)+32,0):=by
 have h3:=Bt hS.1 hS.2.1
 have hb:=Bq last
 have S2:=((lE _ _ _).1 hS).2
 have S3:=((lE _ _ _).1 ((lE _ _ _).1 S2).1).2
 rw[tD]at S3
 have e3:UQ [(pr last,1),(0,2)]=3:=rfl
 rw[e3]at S3
 have q1:UR g (K+3+jV (K%8)) 16=n:=S3.1
 have q2:UR g (K+3+jV (K%8)+16) 16=65535-n:=S3.2.1
 have q3:=oY g (K+3+jV (K%8)) 16 16
 rw[q1,q2,show 16+16=32 by rfl,show(2:Nat)^16=65536 by rfl]at q3
 have hp:(K+3+7)/8*8=K+3+jV (K%8):=by unfold jV;omega
 unfold fS
 rw[if_neg (by omega),h3]
 unfold sj
 rw[if_neg (by omega),if_neg (by omega),if_neg (by omega),Br,hp]
 unfold nx
 rw[if_neg (by omega),q3]
 unfold tL
 rw[if_neg (by omega),show(n+65536*(65535-n))%65536=n by omega]
 rfl
theorem iz.fr{S:Nat->Prop}{w w':au}{base:Nat}{v:ay}{s:List Int}(h:iz w base v s)(k:Fr S w w')(hS:∀j,S j->j<base):iz w' base v s:=
 iB h fun j hj=>k.block j (gP h j hj).2 fun hs=>by have:=hS j hs;have:=(gP h j hj).1;omega
theorem xZ:(prog.info? 26).map (fun i=>(i.zero,i.size))=some (some (ai (fJ (fun _=>0) (af none 0 0))),17):=by kernel_rfl
theorem jT{Y:Array ay}(h:Y.size=17):(prog.info? 26).map (·.size)=some Y.size:=by rw[h];exact oZ
theorem qA(w:au)(p:Nat)(A:Option aw)(l c:Nat)(s:Rz)(h:fx w p A l c s)(B:Option aw)(n cB:Nat)(f:Nat->Nat)(hB:fB w w.heap.size B n f)(hn:n<=1000000)(fh:Int):
  ax prog 95 #[ag (some ⟨p,0,none⟩),af B n cB,ae ak fh] w fun e w'=>∃u,e=aq (ai (fJ (ib f n fh) u))/\fx w' p A l c (hH f n fh s)/\iz w' w.heap.size u (gZ f n fh)/\Fr (At p) w w':=by
 have hp:=h.lt
 obtain⟨Z,hZ⟩:=fb (fJ (fun _=>0) (af none 0 0))
 obtain⟨k,hk⟩:=fb (w.heap.size)
 obtain⟨W1,al⟩:=fb (w.alloc (ao Z 26))
 have av:aS k w W1:=by rw[al,hk];exact fz.alloc fe _
 have aZ:W1.heap.size=k+1:=by rw[al,hk];simp
 have z1:fg W1 k Z 26:=by rw[al,hk];exact fg.new w _ _
 have h1:fx W1 p A l c s:=fg.below h av (by omega)
 have HC:=fa (NS W1 B n cB f fh ((hB.below (hk▸av) fe).more (by omega)) hn)
 have a1:aR (Z.size=17):=fa (by rw[hZ,jl])
 have bD:∀u:au,(zeroValue 26).run prog u=.ok (ai Z) u:=by rw[hZ];exact(zero_of_info xZ).1
 have HG:aR (hH f n fh s=ig s (fD f n fh==0) 132):=fa rfl
 obtain⟨E,hE⟩:=fb (fD f n fh)
 rw[<-hE]at HC HG
 have a9:=fa al;have HK:=fa hk;have bf:=fa av;have aT:=fa aZ;have bg:=fa z1;have bj:=fa h1;have HP:=fa hp
 clear h hB hZ al hk av aZ z1 h1 hp hE
 go_enter func95,ntmps95
 go_wp2_with (first|(rw[<-a9.out,<-HK.out])|fail)
 refine HC.out.mono ?_
 rintro e w2 ⟨u,rfl,o2,aU⟩
 obtain⟨Y,hY⟩:=fb (fJ (ib f n fh) u)
 rw[<-hY]
 have one:=o2.one
 have ah:aR (Y.size=17):=fa (by rw[hY,jl])
 have a2:aR (Y.all (·.oneCell')=true):=fa (by rw[hY];exact l7 _ _ one)
 obtain⟨s2,aX⟩:=fb (w2.heap.size)
 obtain⟨W3,aV⟩:=fb (gi w2 Z Y 26)
 have aY:aS w2.heap.size w2 W3:=by rw[aV];exact km _ _ _ _
 have y3:fg W3 s2 Y 26:=by rw[aV,aX];exact kO w2 Z Y _
 have a3:k+1<=w2.heap.size:=by have:=aU.size;rw[aT.out]at this;exact this
 have ad:aS W1.heap.size W1 W3:=aU.trans (aY.mono aU.size)
 have a4:fx W3 p A l c s:=fg.below bj.out ad (by rw[aT.out];have:=HP.out;rw[<-HK.out]at this;omega)
 have bl:aR (fg W3 k Z 26):=fa (fg.below bg.out ad (by rw[aT.out];omega))
 have bn:aR (iz W3 (k+1) u (gZ f n fh)):=fa (by rw[aT.out]at o2;exact mS o2 aY)
 have bq:aR (Fr (At p) w W3):=fa ((Fr.of (HK.out▸bf.out)).trans (Fr.of ad))
 have br:=fa (nE W3 p A l c s a4 (E==0) 132)
 have bt:=fa aV;have a5:=fa aX;have bu:=fa y3;have bx:=fa hY;have bz:=fa a3
 clear hY aX aV aY y3 a3 ad a4 o2 aU one
 go_wp2_with (first
  |(refine aD rfl _ _ _ rfl rfl w2.heap.size Y rfl rfl 26 Z (aH w2 _) (jT ah.out) (by rw[a1.out,ah.out]) a2.out ?_;change wpList _ _ _ _ _ (gi w2 Z Y 26);rw[<-bt.out,<-a5.out])
  |fail)
 refine br.out.mono ?_
 rintro e w4 ⟨rfl,r4,f4⟩
 have a6:¬At p s2:=by show¬s2=p;have:=bz.out;have:=a5.out;have:=HP.out;rw[<-HK.out]at this;omega
 have aW:¬At p k:=by show¬k=p;have:=HP.out;rw[<-HK.out]at this;omega
 have bA:=fa (bu.out.fr f4 a6)
 have a7:=fa (bl.out.fr f4 aW)
 have a8:=fa (bn.out.fr f4 (fun j (hj:j=p)=>by have:=HP.out;rw[<-HK.out]at this;omega))
 have bB:=fa r4;have bC:=fa (bq.out.trans f4)
 clear r4 f4 a6 aW
 go_wp2_with (first
  |(refine aF rfl _ _ rfl s2 rfl _ Y (0,0) _ bA.out underlying26 rfl (jT ah.out) ?_)
  |(refine aD rfl _ _ _ rfl rfl k Y rfl rfl 26 Z a7.out (jT ah.out) (by rw[a1.out,ah.out]) a2.out ?_)
  |fail)
 have aW:p≠k:=by have:=HP.out;rw[<-HK.out]at this;omega
 refine bodyPost_ret (v:=ai Y) (results_cell_row rfl _ _ k _ _ (0,0) _ rfl (setRow_heap _ _ _ _ _ _ a7.out) underlying26 rfl (jT ah.out)) rfl ⟨u,by rw[bx.out],?_,?_,?_⟩
 ·rw[HG.out];exact fg.gV bB.out aW _
 ·rw[<-HK.out];exact lZ (iB a8.out fun j hj=>setRow_other _ _ _ _ (by have:=(gP a8.out j hj).1;omega)) (by omega)
 ·exact bC.out.from (Fr.row w4 k Y) fun j hj=>.inr (by rw[<-HK.out];exact Nat.le_of_eq hj.symm)
theorem PI:(prog.info? 208).map (fun i=>(i.zero,i.size))=some (some (ai #[ae ak 0,ae ak 0]),2):=by kernel_rfl
theorem PJ(w:au)(y x:Nat)(hy:y<=320)(hx:x<=1000):
  ax prog 138 #[ai #[ae ak (y:Int),ae ak (x:Int)]] w fun e w'=>e=aq (ae ak (gM (y:Int) (x:Int):Int))/\aS w.heap.size w w':=by
 obtain⟨T,hT⟩:∃T:Nat,T=gM (y:Int) (x:Int):=⟨_,rfl⟩
 rw[<-hT]
 unfold gM at hT
 by_cases ad:y=16
 ·subst ad;rw[if_pos (.inl rfl)]at hT;have e1:(3:Int)+(x:Int)=(T:Int):=by omega
  clear hT;go_enter func138,ntmps138
  go_wp2;go_ret;exact⟨by first|rfl|go_num,fz.alloc fe _⟩
 by_cases ah:y=17
 ·subst ah;rw[if_pos (.inr rfl)]at hT;have e1:(3:Int)+(x:Int)=(T:Int):=by omega
  clear hT ad;go_enter func138,ntmps138
  go_wp2;go_ret;exact⟨by first|rfl|go_num,fz.alloc fe _⟩
 rw[if_neg (by omega)]at hT
 by_cases al:y=18
 ·subst al;rw[if_pos (show((18:Nat):Int)=18 from rfl)]at hT;have e1:(11:Int)+(x:Int)=(T:Int):=by omega
  clear hT ad ah;go_enter func138,ntmps138
  go_wp2;go_ret;exact⟨by first|rfl|go_num,fz.alloc fe _⟩
 rw[if_neg (by omega)]at hT
 subst hT
 have q1:((y:Int)==16)=false:=beq_eq_false_iff_ne.2 (by omega)
 have q2:((y:Int)==17)=false:=beq_eq_false_iff_ne.2 (by omega)
 have q3:((y:Int)==18)=false:=beq_eq_false_iff_ne.2 (by omega)
 clear ad ah al
 go_enter func138,ntmps138
 go_wp2
 go_ret
 exact⟨by first|rfl|go_num,fz.alloc fe _⟩
theorem PK(y:Nat):iR (y:Int)=((fI (y:Int):Nat):Int):=by
 unfold iR;split
 ·rfl
 ·unfold fI;rw[if_neg (by omega),if_neg (by omega),if_neg (by omega)];rfl
theorem PL(y x:Int):prog.built 208 [(0,ae ak y),(1,ae ak x)]=some #[ae ak y,ae ak x]:=by kernel_rfl
theorem pv{Y:Array ay}(h:Y.size=2):(prog.info? 208).map (·.size)=some Y.size:=by rw[h];exact(zero_of_info PI).2
theorem PN(w:au)(p:Nat)(A:Option aw)(l c:Nat)(g:Nat->Nat)(s:Rz)(h:fx w p A l c s)(S:Nat->Prop)(hS:S p)(hg:jN S w A l g)(hl:l<=1000000)(hs:s.1<=8*l)(F:Nat->Nat)(ct:Nat->Int)(u:ay)(hu:u.oneCell'=true)(ht:s.2=0->pd S w F ct u):
  ax prog 137 #[ag (some ⟨p,0,none⟩),ai (fJ ct u)] w fun e w'=>e=aq (ai #[ae ak (iV F g l s:Int),ae ak (mY F g l s:Int)])/\fx w' p A l c (o8 F g l s)/\Fr (At p) w w':=by
 have hp:=h.lt
 obtain⟨k,hk⟩:=fb (w.heap.size)
 obtain⟨T,hT⟩:=fb (fJ ct u)
 rw[<-hT]
 obtain⟨W1,ah⟩:=fb ((w.alloc (ao T 26)).alloc (ao #[ae ak 0,ae ak 0] 208))
 have aT:aS k w W1:=by rw[ah,hk];exact(fz.alloc fe _).alloc (by simp) _
 have a3:W1.heap.size=k+2:=by rw[ah,hk];simp
 have t1:fg W1 k T 26:=by rw[ah,hk];exact(fg.new w _ _).old _
 have z1:fg W1 (k+1) #[ae ak 0,ae ak 0] 208:=by rw[ah,hk];have:=fg.new (w.alloc (ao T 26)) #[ae ak 0,ae ak 0] 208;rwa[World.size_alloc]at this
 have fW:Fr S w W1:=Fr.of (hk▸aT)
 have br:aR (T.size=17):=fa (by rw[hT,jl])
 have HC:=AP W1 p A l c g s (fg.below h aT (by omega)) (hg.fr fW).1 hl hs S F ct u hu (fun e=>(ht e).fr fW)
 rw[<-hT]at HC
 have a4:¬At p k:=by show¬k=p;omega
 have aV:¬At p (k+1):=by show¬k+1=p;omega
 have hy:jM (UT F 320 g l s.1 17 0) s=iV F g l s:=rfl
 have a5:jf (UT F 320 g l s.1 17 0) s=mX F g l s:=rfl
 rw[hy,a5]at HC
 have hx:mY F g l s=fT g l (fI (iV F g l s:Int)) (mX F g l s):=rfl
 have aW:o8 F g l s=fR l (fI (iV F g l s:Int)) (mX F g l s):=rfl
 have a6:(mX F g l s).1<=8*l:=rr hs
 have h7:=xS (iV F g l s:Int)
 have aU:iR (iV F g l s:Int)=_:=PK _
 obtain⟨y,aX⟩:=fb (iV F g l s)
 obtain⟨s1,al⟩:=fb (mX F g l s)
 rw[<-aX,<-al]at HC hx aW
 rw[<-aX]at aU h7⊢
 rw[<-al]at a6
 rw[hx,aW]
 obtain⟨n,hn⟩:=fb (fI (y:Int))
 rw[<-hn]at aU h7⊢
 have ad:=fa fun V=>Gr V (y:Int)
 rw[aU]at ad
 obtain⟨bE,a7⟩:=fb (ll (y:Int))
 rw[<-a7]at ad
 have a8:=fa HC;have bt:=fa ah;have HK:=fa hk;have bu:=fa t1;have bx:=fa z1;have bz:=fa (Fr.of (S:=At p) (hk▸aT));have bA:=fa (hg.fr fW);have bK:=fa a3
 have aY:aR (¬At p k/\¬At p (k+1)):=fa ⟨a4,aV⟩
 have bB:aR (∀j,At p j->S j):=fa fun j (e:j=p)=>e▸hS
 clear h hg hT ah hk aT a3 t1 z1 fW HC a4 aV hy a5 hx aW aX al hn aU a7 hp hu ht hS
 go_enter func137,ntmps137
 go_wp2_with (first
  |(rw[<-bt.out,<-HK.out])
  |(refine aF rfl _ _ rfl k rfl _ T (0,0) _ bu.out underlying26 rfl (jT br.out) ?_)
  |fail)
 refine a8.out.mono ?_
 rintro e w2 ⟨rfl,r2,f2⟩
 have aZ:=fa r2;have bC:=fa (bz.out.trans f2);have a1:=fa (bx.out.fr f2 aY.out.2);have a9:=fa (bA.out.fr (f2.mono bB.out));have bL:=fa f2.size
 clear r2 f2
 go_wp2_with fail
 refine(ad.out w2).mono ?_
 rintro e w3 ⟨rfl,av⟩
 have bf:=fa (fg.below aZ.out av aZ.out.lt:fx w3 p A l c s1);have bD:=fa (bC.out.on av);have bg:=fa (a1.out.below av a1.out.lt);have bj:=fa (a9.out.fr (Fr.of av))
 have bl:=fa (xM w3 p A l c g s1 bf.out bj.out.1 hl a6 n (by omega))
 clear av ad a8 aZ a9 a1
 go_wp2_with fail
 refine bl.out.mono ?_
 rintro e w4 ⟨rfl,r4,f4⟩
 obtain⟨x,hx⟩:=fb (fT g l n s1)
 rw[<-hx]
 have bF:=fa r4;have bG:=fa (bD.out.trans f4);have bn:=fa (bg.out.fr f4 aY.out.2)
 have bq:aR (prog.built 208 [(0,ae ak (y:Int)),(1,ae ak (x:Int))]=some #[ae ak (y:Int),ae ak (x:Int)]):=fa (PL _ _)
 obtain⟨Y,hY⟩:∃Y:Array ay,Y=#[ae ak (y:Int),ae ak (x:Int)]:=⟨_,rfl⟩
 rw[<-hY]at bq
 have bH:=fa hY;have bI:=fa hx
 have a2:aR (Y.size=2):=fa (by rw[hY];rfl)
 have bJ:aR (Y.all (·.oneCell')=true):=fa (by rw[hY];simp[Value.oneCell'])
 clear r4 f4 bl hx hY bg bf bj
 go_wp2_with (first
  |(refine wpList_buildTo rfl 208 #[(0,.tmp 16),(1,.tmp 19)] rfl (some 20) rfl Y ?_ ?_;focus(simpa[Act.eval]using bq.out))
  |(refine aD rfl _ _ _ rfl rfl (k+1) Y rfl rfl 208 #[ae ak 0,ae ak 0] bn.out (pv a2.out) (by rw[a2.out];rfl) bJ.out ?_)
  |fail)
 refine bodyPost_ret (v:=ai Y) (results_cell_row rfl _ _ (k+1) _ _ (0,0) _ rfl (setRow_heap _ _ _ _ _ _ bn.out) underlying208 rfl (pv a2.out)) rfl ⟨by rw[bH.out,bI.out],?_,?_⟩
 ·exact fg.gV bF.out (fun e=>aY.out.2 e.symm) _
 ·exact bG.out.from (Fr.row w4 (k+1) Y) fun j hj=>.inr (by rw[<-HK.out];have:j=k+1:=hj;omega)
theorem PO(a:Nat):((a:Int)+7)/8*8=(((a+7)/8*8:Nat):Int):=by omega
theorem PQ(w:au)(p:Nat)(A:Option aw)(l c:Nat)(g:Nat->Nat)(s:Rz)(h:fx w p A l c s)(S:Nat->Prop)(hS:S p)(hg:jN S w A l g)(hl:l<=1000000)(hs:s.1<=8*l):
  ax prog 53 #[ag (some ⟨p,0,none⟩)] w fun e w'=>e=aq (ae ak (o7 g l s:Int))/\fx w' p A l c (oF g l s)/\Fr (At p) w w':=by
 have c1:=h.a
 have f1:=h.free 1
 have aX:aR (∀j,At p j->S j):=fa fun j (e:j=p)=>e▸hS
 have ha:=PO s.1
 have ad:sn s=((s.1+7)/8*8,s.2):=rfl
 obtain⟨b,hb⟩:=fb ((s.1+7)/8*8)
 rw[<-hb]at ha ad
 have al:b<=8*l:=by omega
 have aY:s.1<=8000000:=by omega
 obtain⟨W1,ah⟩:=fb (w.setCell ⟨p,1,none⟩ (ae ak (b:Int)))
 have r1:fx W1 p A l c (b,s.2):=by rw[ah];exact h.AA b
 have av:aR (Fr (At p) w W1):=fa (by rw[ah];exact Fr.cell _ _ _ _)
 have aT:=fa (hg.fr (av.out.mono aX.out))
 have aU:=fa (qw W1 p A l c g (b,s.2) r1 aT.out.1 hl al 16 16 rfl (by omega))
 have hV:o7 g l s=fT g l 16 (b,s.2):=by unfold o7;rw[ad]
 have aZ:oF g l s=ig (fR l 16 (fR l 16 (b,s.2))) (decide ((fT g l 16 (fR l 16 (b,s.2)):Int)=65535-(fT g l 16 (b,s.2):Int))) 131:=by unfold oF;rw[hV,ad]
 rw[hV,aZ]
 obtain⟨x,hx⟩:=fb (fT g l 16 (b,s.2))
 obtain⟨s2,aV⟩:=fb (fR l 16 (b,s.2))
 rw[<-hx,<-aV]at aU⊢
 have h2:s2.1<=8*l:=by rw[aV];exact ld al
 have a9:x<65536:=by rw[hx];exact mF _ _ _ _
 obtain⟨y,hy⟩:=fb (fT g l 16 s2)
 have bf:y<65536:=by rw[hy];exact mF _ _ _ _
 rw[<-hy]
 have HY:=fa hy;have a5:=fa ah
 obtain⟨a,e⟩:=s
 have bg:w.cell? ⟨p,1,none⟩=some (ae ak (a:Int)):=c1
 have bj:((a:Int)+7)/8*8=(b:Int):=ha
 have a8:a<=8000000:=aY
 clear h hg c1 ha ad hb al aY r1 hV aZ hx aV hy ah hs hS
 go_enter func53,ntmps53
 go_wp2_with fail
 rw[<-a5.out]
 refine aU.out.mono ?_
 rintro e w2 ⟨rfl,r2,f2⟩
 have a1:=fa r2;have a2:=fa (av.out.trans f2);have a3:=fa (aT.out.fr (f2.mono aX.out))
 have aW:=fa (qw w2 p A l c g s2 a1.out a3.out.1 hl h2 16 16 rfl (by omega))
 rw[<-HY.out]at aW
 clear r2 f2 aU aT av
 go_wp2_with fail
 refine aW.out.mono ?_
 rintro e w3 ⟨rfl,r3,f3⟩
 have HW:=fa (nE w3 p A l c _ r3 (decide ((y:Int)=65535-(x:Int))) 131)
 have a4:=fa (a2.out.trans f3)
 clear r3 f3 aW a3 a2 a1
 go_wp2_with fail
 refine HW.out.mono ?_
 rintro e w4 ⟨rfl,r4,f4⟩
 have a6:=fa r4;have a7:=fa (a4.out.trans f4)
 clear r4 f4 HW a4
 go_wp2
 go_ret
 exact⟨rfl,a6.out,a7.out⟩
theorem sJ{fn:Func}{p q:Tmp}(h:fn.results=#[.cell p 26,.cell q 26])(tmps:Array ay)(w:au)(g g2:Nat)(X Y:Array ay)(hX:X.size=17)(hY:Y.size=17)(hp:tmps.getD p undef=ag (some ⟨g,0,none⟩))(hq:tmps.getD q undef=ag (some ⟨g2,0,none⟩))
  (ht:fg w g X 26) (ad:fg w g2 Y 26):
  (results fn tmps).run prog w=.ok (.tuple #[ai X,ai Y]) w:=by
 have ah:tmps[p]?.getD undef=ag (some ⟨g,0,none⟩):=by simpa using hp
 have al:tmps[q]?.getD undef=ag (some ⟨g2,0,none⟩):=by simpa using hq
 have hl:=run_loadVar_row (P:=prog) w g 26 26 _ (0,0) _ ht underlying26 rfl (jT hX)
 have av:=run_loadVar_row (P:=prog) w g2 26 26 _ (0,0) _ ad underlying26 rfl (jT hY)
 simp[results,h,ah,al,asAddr,hl,av]
theorem G5:prog.built 36 []=some #[ae .u8 0,ae ak 0,ae ak 0]:=by kernel_rfl
theorem G6(x:Nat):prog.built 36 [(0,ae .u8 (x:Int))]=some #[ae .u8 (x:Int),ae ak 0,ae ak 0]:=by kernel_rfl
theorem PR(d n:Int):prog.built 36 [(1,ae ak d),(2,ae ak n)]=some #[ae .u8 0,ae ak d,ae ak n]:=by kernel_rfl
theorem ub(x:Nat)(d n:Int):(#[ae .u8 (x:Int),ae ak d,ae ak n]:Array ay).all (·.oneCell')=true:=by simp[Value.oneCell']
theorem G7{f:Nat->Nat}{n:Nat}:∀m,n<=m->(∀i,n<=i->i<m->f i=0)->UY f m=UY f n/\gy f m=gy f n
 |0,h,_=>by rw[show n=0 by omega];exact⟨rfl,rfl⟩
 |m+1,h,e=>by
  rcases Nat.eq_or_lt_of_le h with g|g
  ·rw[g];exact⟨rfl,rfl⟩
  ·obtain⟨h1,h2⟩:=G7 m (by omega) fun i a b=>e i a (by omega)
   simp only[UY,gy];rw[e m (by omega) (by omega),if_neg (by omega),if_neg (by omega),h1,h2];exact⟨rfl,rfl⟩
theorem G8{f:Nat->Nat}{n m:Nat}{fh:Int}(h:fD f m fh=0)(hn:n<=m)(e:∀i,n<=i->i<m->f i=0):fD f n fh=0:=by
 obtain⟨h1,h2,h3,h4,h5,h6⟩:=lk h;obtain⟨s1,s2⟩:=G7 m hn e;rw[s1,s2]at h6;rw[s1]at h5;unfold fD;rw[if_neg (by omega),if_neg (by omega),zl (fun j hj=>h4 j (by omega)),if_neg (by decide)];unfold oT;rw[if_neg (by omega),if_pos h6]
theorem Bu{c:Nat->Nat}{n fh:Nat}(h1:1<=fh)(h2:fh<=15)(hn:n<=320)(ad:n<=2^fh)(hc:∀i,c i<=1073741824):fD (lM c n fh) n (fh:Int)=0:=by
 have h:=(zn (wX h1 h2 hn ad hc)).2.1;rwa[mQ]at h
theorem Bv{f:Nat->Nat}{least n i:Nat}(h:Vj f least n<=i)(hi:i<n):f i=0:=by
 rcases Nat.eq_zero_or_pos (f i)with g|g
 ·exact g
 ·have:=uQ f least n i hi (by omega);omega
theorem uc(l:List fi)(hl:l.length<=1000000):fD (ja l) (nA l) 15=0/\fD (jb l) (nB l) 15=0/\fD (kW l) 19 7=0:=by
 obtain⟨_,_,_,_,a1,a2,b1,b2,_⟩:=lO l hl;have h1:fD (ja l) 286 15=0:=Bu (c:=iC l) (n:=286) (fh:=15) (by omega) (by omega) (by omega) (by decide) (fun i=>by have:=tj l i;omega);have h2:fD (jb l) 30 15=0:=Bu (c:=iq l) (n:=30) (fh:=15) (by omega) (by omega) (by omega) (by decide) (fun i=>by have:=rZ l i;omega);have h3:fD (kW l) 19 7=0:=Bu (c:=j0 (ju l)) (n:=19) (fh:=7) (by omega) (by omega) (by omega) (by decide) (fun i=>by have:=rb (ju l) i;have:=(oz l hl).2;omega);exact⟨G8 h1 a2 fun i g1 g2=>Bv g1 g2,G8 h2 b2 fun i g1 g2=>Bv g1 g2,h3⟩
theorem PS:∀j,j<19->∃i,i<19/\gU i=j:=by
 have:∀j:Fin 19,∃i:Fin 19,gU i.1=j.1:=by decide
 intro j hj;obtain⟨i,hi⟩:=this ⟨j,hj⟩;exact⟨i.1,i.2,hi⟩
theorem G9{f:Nat->Nat}{g:Nat->Nat}{a:Nat}:∀n,Stn g a ((List.range n).map fun i=>(f (gU i),3))->∀j,((∃i,i<n/\gU i=j)->shR g a n j=f j)/\((∀i,i<n->gU i≠j)->shR g a n j=0)
 |0,_,j=>⟨fun⟨i,h,_⟩=>absurd h (by omega),fun _=>rfl⟩
 |n+1,hS,j=>by
  rw[List.range_succ,List.map_append]at hS;obtain⟨S1,S2⟩:=(lE _ _ _).1 hS;have hb:∀n,UQ ((List.range n).map fun i=>(f (gU i),3))=3*n:=by
   intro n;induction n with
   |zero=>rfl
   |succ n ih=>
    rw[List.range_succ,List.map_append,gm,ih];simp only[List.map_cons,List.map_nil,UQ];omega
  rw[hb]at S2;have e:UR g (a+3*n) 3=f (gU n):=S2.1;obtain⟨i1,i2⟩:=G9 n S1 j;simp only[shR,fK];by_cases h:j=gU n
  ·rw[if_pos h,e,h];exact⟨fun _=>rfl,fun h2=>absurd rfl (h2 n (by omega))⟩
  ·rw[if_neg h];refine⟨fun⟨i,hi,h3⟩=>i1 ⟨i,?_,h3⟩,fun h3=>i2 fun i hi=>h3 i (by omega)⟩;rcases Nat.eq_or_lt_of_le (Nat.le_of_lt_succ hi)with g|g
   ·exact absurd (g▸h3).symm h
   ·exact g
theorem PT{f:Nat->Nat}{g:Nat->Nat}{a n:Nat}(hS:Stn g a ((List.range n).map fun i=>(f (gU i),3)))(hz:∀i,n<=i->i<19->f (gU i)=0):∀j,j<19->shR g a n j=f j:=fun j hj=>by
 obtain⟨i1,i2⟩:=G9 n hS j;obtain⟨i,hi,e⟩:=PS j hj;by_cases h:i<n
 ·exact i1 ⟨i,h,e⟩
 ·have h0:=hz i (by omega) hi;rw[e]at h0;by_cases h2:∃i,i<n/\gU i=j
  ·exact i1 h2
  ·rw[i2 fun i hi e=>h2 ⟨i,hi,e⟩,h0]
theorem PU(s x:Int):1<=gM s x:=by unfold gM;split;omega;split<;>omega
theorem Ha{F:Nat->Nat}(hF:fD F 19 7=0){g:Nat->Nat}{L n:Nat}:∀(rs:List (Int×Int)) (out res:List Nat) (K k:Nat),(∀r∈rs,0<=r.1/\r.1<=18/\0<F r.1.toNat/\0<=r.2)->Vq n rs out=(0,res)->
  Stn g K (rs.flatMap (gS F))->K+UQ (rs.flatMap (gS F))<=8*L->n<=out.length+k->mB F g L n k K out=(res,K+UQ (rs.flatMap (gS F)),0)
 |[],out,res,K,k,_,h,_,_,_=>by
  simp only[Vq]at h;split at h
  ·rename_i e;have e2:out=res:=congrArg Prod.snd h;subst e2;cases k with
   |zero=>rfl
   |succ k=>rw[xv,if_pos (by omega)];rfl
  ·have:=congrArg Prod.fst h;simp at this
 |(s,x)::rs,out,res,K,k,hr,h,hS,hL,hk=>by
  simp only[Vq]at h;split at h
  ·have:=congrArg Prod.fst h;simp at this
  ·rename_i c1;split at h
   ·have:=congrArg Prod.fst h;simp at this
   ·rename_i c2;obtain⟨r1,r2,r3,r4⟩:=hr (s,x) List.mem_cons_self;simp only at r1 r2 r3 r4;have ht:=PU s x;rw[List.flatMap_cons]at hS hL⊢;rw[gm]at hL⊢;obtain⟨S1,S2⟩:=(lE _ _ _).1 hS;have eb:(iR s).toNat=fI s:=by unfold iR;rw[if_pos ⟨r1,r2⟩];exact Int.toNat_natCast _
    have hb:UQ (gS F (s,x))=F s.toNat+fI s:=by
     show F s.toNat+((iR s).toNat+0)=_
     rw[eb];rfl
    rw[hb]at hL⊢ S2;have q1:UR g K (F s.toNat)=Vn (gG F 19 s.toNat) (F s.toNat):=S1.1;have q2:UR g (K+F s.toNat) (iR s).toNat=x.toNat:=S1.2.1;rw[eb]at q2;obtain⟨k',rfl⟩:∃k',k=k'+1:=⟨k-1,by omega⟩;have l1:K+F s.toNat<=8*L:=by omega
    have l2:¬8*L<K+F s.toNat+fI s:=by omega
    have c3:¬n<=out.length:=by omega
    have es:((s.toNat:Nat):Int)=s:=by omega
    have ex:((x.toNat:Nat):Int)=x:=by omega
    rw[xv,if_neg c3,vM hF (by omega) r3 q1 l1];unfold vv;rw[if_neg (fun h=>h rfl)];simp only[es];rw[if_neg l2,q2,ex,if_neg c2];have ih:=Ha (g:=g) (L:=L) (n:=n) hF rs (out++List.replicate (gM s x) (nS s out)) res (K+F s.toNat+fI s) k' (fun r h=>hr r (List.mem_cons_of_mem _ h)) h (by rwa[<-Nat.add_assoc]at S2) (by omega) (by rw[List.length_append,List.length_replicate];omega);rw[ih];simp only[Nat.add_assoc]
theorem Hb{n:Nat}{s:Int}(h0:0<=s):∀(rs:List (Int×Int)) (out res:List Nat),(∀r∈rs,r.1=s)->Vq n rs out=(0,res)->
  (16<s->(∀x∈out,x=0)->∀x∈res,x=0)/\(s<16->(∀x∈out,x=s.toNat)->∀x∈res,x=s.toNat)
 |[],out,res,_,h=>by
  simp only[Vq]at h;split at h
  ·have e2:out=res:=congrArg Prod.snd h;subst e2;exact⟨fun _ h=>h,fun _ h=>h⟩
  ·have:=congrArg Prod.fst h;simp at this
 |(s',x)::rs,out,res,hr,h=>by
  obtain rfl:s'=s:=hr _ List.mem_cons_self;simp only[Vq]at h;split at h
  ·have:=congrArg Prod.fst h;simp at this
  ·split at h
   ·have:=congrArg Prod.fst h;simp at this
   ·obtain⟨i1,i2⟩:=Hb h0 rs _ res (fun r ad=>hr r (List.mem_cons_of_mem _ ad)) h;refine⟨fun g ho=>i1 g fun y hy=>?_,fun g ho=>i2 g fun y hy=>?_⟩
    ·rcases List.mem_append.1 hy with hy|hy
     ·exact ho y hy
     ·rw[(List.mem_replicate.1 hy).2];unfold nS;rw[if_neg (by omega),if_neg (by omega)]
    ·rcases List.mem_append.1 hy with hy|hy
     ·exact ho y hy
     ·rw[(List.mem_replicate.1 hy).2];unfold nS;rw[if_neg (by omega),if_pos g]
theorem Hc{f:Nat->Nat}{n x:Nat}:∀d a,a+d=n->(∀j,a<=j->j<n->f j=x)->Vi x (iY f n a)=d
 |0,a,h,_=>by rw[DD (by omega)];rfl
 |d+1,a,h,e=>by
  rw[zq (by omega) (e a (by omega) (by omega)),Hc d (a+1) (by omega) fun j h1 h2=>e j (by omega) h2]
theorem PV{f:Nat->Nat}{n:Nat}(ah:∀i,i<n->f i<=15)(hn:5<=n){i:Nat}(hi:i<n)(h0:f i≠0)(s:Int):∃r∈ki f n 0,r.1≠s:=by
 rcases Classical.em (∃r∈ki f n 0,r.1≠s)with g|g
 ·exact g
 ·exfalso;have hs:∀r∈ki f n 0,r.1=s:=fun r hr=>Classical.byContradiction fun h=>g ⟨r,hr,h⟩
  obtain⟨c1,c2,c3⟩:=zr (f:=f) (n:=n) (a:=0) (by omega) ah;have hd:iY f n 0=(List.range n).map f:=rfl;have av:=(zp n n none (iY f n 0) [] (by rw[qZ];omega) (xg ah) rfl (by rw[qZ];simp)).1;have aV:ofR n none (iY f n 0)=ki f n 0:=rfl;rw[aV,List.nil_append]at av;have aW:f i∈iY f n 0:=by rw[hd];exact List.mem_map.2 ⟨i,List.mem_range.2 hi,rfl⟩
  have aT:(lL f n 0).1∈ki f n 0:=by rw[c1];exact List.mem_cons_self
  have hb:=Eb ah _ aT;rw[hs _ aT]at hb;obtain⟨k1,k2⟩:=Hb hb.1 _ _ _ hs av;by_cases aU:s=16
  ·have e:=(s9 (mq f 0) (f 0) (mo f n 0) (ah 0 (by omega)) (uM (by omega)).1).2.2.2.2.1;have e2:=e ((hs _ aT).trans aU);cases e2
  ·by_cases aX:16<s
   ·exact h0 (k1 aX (fun x hx=>by cases hx) _ aW)
   ·have ad:∀j,j<n->f j=s.toNat:=fun j hj=>k2 (by omega) (fun x hx=>by cases hx) _ (by rw[hd];exact List.mem_map.2 ⟨j,List.mem_range.2 hj,rfl⟩)
    have al:s.toNat≠0:=by rw[<-ad i hi];exact h0
    have e1:(lL f n 0).2=1:=by
     unfold lL iX;rw[ad 0 (by omega)];rw[if_neg (fun h=>al h.1),if_neg (fun h=>al h.1),if_neg (fun h=>by have:=h.2.1;cases this)]
    rw[e1]at c1;obtain⟨d1,_,_⟩:=zr (f:=f) (n:=n) (a:=0+1) (by omega) ah;have aY:(lL f n (0+1)).1∈ki f n 0:=by rw[c1,d1];exact List.mem_cons_of_mem _ List.mem_cons_self
    have hl:mo f n (0+1)=n-1:=by
     unfold mo;rw[ad (0+1) (by omega),Hc (n-2) (0+1+1) (by omega) fun j h1 h2=>ad j h2];omega
    have e2:(lL f n (0+1)).1.1=16:=by
     unfold lL iX;rw[ad (0+1) (by omega),hl];have hp:mq f (0+1)=some s.toNat:=by
      unfold mq;rw[if_neg (by omega)];exact congrArg some (ad 0 (by omega))
     rw[if_neg (fun h=>al h.1),if_neg (fun h=>al h.1),if_pos ⟨al,hp,by omega⟩]
    exact aU ((hs _ aY).symm.trans e2)
theorem Bw{f:Nat->Nat}:∀n i j,i<j->j<n->0<f i->0<f j->2<=gy f n
 |0,_,_,_,h,_,_=>absurd h (by omega)
 |n+1,i,j,ad,hj,hi,h=>by
  have one:∀n i,i<n->0<f i->1<=gy f n:=by
   intro n;induction n with
   |zero=>intro i h _;omega
   |succ n ih=>
    intro i hn hf;simp only[gy];rcases Nat.eq_or_lt_of_le (Nat.le_of_lt_succ hn)with e|e
    ·subst e;rw[if_pos hf];omega
    ·have:=ih i e hf;omega
  simp only[gy];rcases Nat.eq_or_lt_of_le (Nat.le_of_lt_succ hj)with e|e
  ·subst e;have:=one j i ad hi;rw[if_pos h];omega
  ·have:=Bw n i j ad e hi h;omega
theorem PW{l:List (Int×Int)}{r:Int×Int}(h:r∈l)(h0:0<=r.1):0<j0 l r.1.toNat:=List.countP_pos_iff.2 ⟨r,h,by
 have:((r.1.toNat:Nat):Int)=r.1:=by omega
 simp[this]⟩
theorem PX(l:List fi)(hl:l.length<=1000000):(∀r∈ju l,0<kW l r.1.toNat)/\UY (kW l) 19=32768:=by
 obtain⟨d1,d2,d3,d4,a1,a2,b1,b2,h1,h2⟩:=lO l hl;obtain⟨hr,aV⟩:=oz l hl;obtain⟨_,_,r3,_⟩:=tp (c:=j0 (ju l)) (n:=19) (fh:=7) (by omega) (by omega) (by omega) (by decide) (fun i=>by have:=rb (ju l) i;omega);have ad:∀r∈ju l,0<kW l r.1.toNat:=fun r hm=>by
  obtain⟨g1,g2,_⟩:=hr r hm;exact(r3 r.1.toNat (by omega)).2 (PW hm g1)
 have av:=uR l hl;have aT:lN l 256≠0:=by
  have:=h1 256 (by omega) (zA l);unfold lN cat;rw[if_pos this.1];omega
 have ht:=fun s=>PV (f:=lN l) (n:=nA l+nB l) (fun i _=>av i) (by omega) (i:=256) (by omega) aT s
 obtain⟨u,hu,_⟩:=ht 0;obtain⟨v,hv,aW⟩:=ht u.1;have ah:u∈ju l:=hu;have al:v∈ju l:=hv;obtain⟨p1,p2,_⟩:=hr u ah;obtain⟨q1,q2,_⟩:=hr v al;have aU:2<=gy (kW l) 19:=by
  rcases Nat.lt_or_ge u.1.toNat v.1.toNat with g|g
  ·exact Bw 19 _ _ g (by omega) (ad u ah) (ad v al)
  ·exact Bw 19 _ _ (show v.1.toNat<u.1.toNat by omega) (by omega) (ad v al) (ad u ah)
 obtain⟨_,_,_,_,_,c6⟩:=lk (uc l hl).2.2;refine⟨ad,?_⟩;rcases c6 with c|c|c
 ·exact c
 ·omega
 ·omega
def p9(l:List fi):List Nat:=(List.range (nA l+nB l)).map (lN l)
def x7(last:Bool)(res:List Nat)(n m:Nat):fP:=⟨2,last,0,fc res,n,fc (res.drop n),m⟩
theorem PY(last:Bool){res:List Nat}{n m:Nat}{F G:Nat->Nat}(cF:fD F n 15=0)(cG:fD G m 15=0)(eF:∀j,j<n->fc res j=F j)(eG:∀j,j<m->fc (res.drop n) j=G j):sI (x7 last res n m) F n G m:=
 ⟨(fun h=>by cases h),rfl,rfl,rfl,cF,cG,eF,eG⟩
theorem Hd(l:List fi){i:Nat}(h:i<nA l+nB l):fc (p9 l) i=lN l i:=by
 unfold fc p9;rw[List.getD_eq_getElem?_getD];simp[h]
theorem vO{f h:Nat->Nat}{n j:Nat}(hj:j<n):cat f n h j=f j:=if_pos hj
theorem ya{f h:Nat->Nat}{n j:Nat}:cat f n h (j+n)=h j:=(if_neg (by omega)).trans (by rw[Nat.add_sub_cancel])
theorem He(l:List fi){j:Nat}(hj:j<nA l):fc (p9 l) j=ja l j:=
 (Hd l (Nat.lt_of_lt_of_le hj (Nat.le_add_right _ _))).trans (vO hj)
theorem Hf(l:List fi){j:Nat}(hj:j<nB l):fc ((p9 l).drop (nA l)) j=jb l j:=
 (vA _ _ _).trans ((Hd l (Nat.lt_of_lt_of_eq (Nat.add_lt_add_right hj _) (Nat.add_comm _ _))).trans ya)
theorem PZ(last:Bool)(l:List fi)(hl:l.length<=1000000):sI (x7 last (p9 l) (nA l) (nB l)) (ja l) (nA l) (jb l) (nB l):=
 PY last (uc l hl).1 (uc l hl).2.1 (fun _ hj=>He l hj) (fun _ hj=>Hf l hj)
theorem Hg{F R:Nat->Nat}(e:∀j,j<19->F j=R j):∀rs:List (Int×Int),(∀r∈rs,0<=r.1/\r.1<=18)->rs.flatMap (gS F)=rs.flatMap (gS R)
 |[],_=>rfl
 |r::rs,h=>by
  obtain⟨g1,g2⟩:=h r List.mem_cons_self;have eP:gS F r=gS R r:=by
   unfold gS iG;have:gG F 19 r.1.toNat=gG R 19 r.1.toNat:=by
    rw[<-z8 F (show 19<=320 by omega) (show r.1.toNat<19 by omega),<-z8 R (show 19<=320 by omega) (show r.1.toNat<19 by omega),GU e]
   rw[e _ (show r.1.toNat<19 by omega),this]
  rw[List.flatMap_cons,List.flatMap_cons,eP,Hg e rs fun u hu=>h u (List.mem_cons_of_mem _ hu)]
theorem Bx(f:Nat->Nat):∀n,UQ ((List.range n).map fun i=>(f i,3))=3*n
 |0=>rfl
 |n+1=>by
  rw[List.range_succ,List.map_append,gm,Bx f n];simp only[List.map_cons,List.map_nil,UQ];omega
theorem P0{g:Nat->Nat}{L K:Nat}(last:Bool){R:Nat->Nat}{NA NB NR:Nat}{rs:List (Int×Int)}{res:List Nat}{P:List (Nat×Nat)}
  (hS:Stn g K ([(pr last,1),(2,2)]++([(NA-257,5),(NB-1,5),(NR-4,4)]++((List.range NR).map fun i=>(R (gU i),3))++rs.flatMap (gS R)++P)))
  (a1:257<=NA) (a2:NA<=286) (b1:1<=NB) (b2:NB<=30) (r1:4<=NR) (r2:NR<=19)
  (hz:∀i,NR<=i->i<19->R (gU i)=0) (al:fD R 19 7=0) (av:UY R 19=32768)
  (ad:∀r∈rs,0<=r.1/\r.1<=18/\0<R r.1.toNat/\0<=r.2) (aT:Vq (NA+NB) rs []=(0,res))
  (aU:fc res 256≠0) (cA:fD (fc res) NA 15=0) (cB:fD (fc (res.drop NA)) NB 15=0)
  (hL:K+3+(14+3*NR+UQ (rs.flatMap (gS R)))<=8*L):
  fS g L K=(x7 last res NA NB,K+3+(14+3*NR+UQ (rs.flatMap (gS R))),0):=by
 have h3:=Bt hS.1 hS.2.1
 have hb:=Bq last
 have S2:=((lE _ _ _).1 ((lE _ _ _).1 hS).2).1
 have e3:UQ [(pr last,1),(2,2)]=3:=rfl
 rw[e3]at S2
 obtain⟨S3,S6⟩:=(lE _ _ _).1 S2
 obtain⟨S4,S5⟩:=(lE _ _ _).1 S3
 rw[gm]at S6
 have aV:UQ [(NA-257,5),(NB-1,5),(NR-4,4)]=14:=rfl
 rw[aV,Bx]at S6
 rw[aV]at S5
 have q1:UR g (K+3) 5=NA-257:=S4.1
 have q2:UR g (K+3+5) 5=NB-1:=S4.2.1
 have q3:UR g (K+3+5+5) 4=NR-4:=S4.2.2.1
 clear hS S2 S3 S4
 have hv:UR g (K+3) 14=(NA-257)+32*(NB-1)+1024*(NR-4):=by
  have n1:=oY g (K+3) 5 9;have n2:=oY g (K+3+5) 5 4;rw[show 5+4=9 by rfl,q2,q3]at n2;rw[show 5+9=14 by rfl,q1,n2]at n1;rw[n1,show(2:Nat)^5=32 by rfl];omega
 have m1:UR g (K+3) 14%32+257=NA:=by rw[hv];omega
 have m2:UR g (K+3) 14/32%32+1=NB:=by rw[hv];omega
 have m3:UR g (K+3) 14/1024+4=NR:=by rw[hv];omega
 have ah:∀j,j<19->shR g (K+3+14) NR j=R j:=PT (f:=R) S5 hz
 have eF:=Hg (F:=shR g (K+3+14) NR) ah rs fun r hr=>⟨(ad r hr).1,(ad r hr).2.1⟩
 have aW:fD (shR g (K+3+14) NR) 19 7=0:=by rw[Bo 7 ah];exact al
 have l1:K+3+14+3*NR+UQ (rs.flatMap (gS R))<=8*L:=by omega
 have S7:Stn g (K+3+14+3*NR) (rs.flatMap (gS R)):=by rw[show K+3+14+3*NR=K+3+(14+3*NR) by omega];exact S6
 have hlen:mB (shR g (K+3+14) NR) g L (NA+NB) (NA+NB) (K+3+14+3*NR) []=(res,K+3+14+3*NR+UQ (rs.flatMap (gS R)),0):=by
  rw[<-eF]at S7 l1⊢;exact Ha aW rs [] res _ _ (fun r hr=>⟨(ad r hr).1,(ad r hr).2.1,by rw[ah _ (by have:=(ad r hr).2.1;have:=(ad r hr).1;omega)];exact(ad r hr).2.2.1,(ad r hr).2.2.2⟩) aT S7 l1 (by show _<=0+_;omega)
 have k1:¬8*L<K+3:=by omega
 have k2:¬8*L<K+3+14:=by omega
 have k3:¬8*L<K+3+14+3*NR:=by omega
 have k4:K+3+14+3*NR+UQ (rs.flatMap (gS R))=K+3+(14+3*NR+UQ (rs.flatMap (gS R))):=by omega
 clear S5 S6 S7 l1 hL
 unfold fS
 rw[if_neg k1,h3]
 unfold sj
 rw[if_neg (by omega),if_pos (by omega),Br]
 unfold kq
 rw[if_neg k2]
 unfold xB
 rw[m1,m2,m3,if_neg (by omega),if_neg k3]
 unfold xA
 rw[if_neg (by rw[aW,(xY 19 ah).1,av];omega),hlen]
 unfold xx
 rw[if_neg (fun h=>h rfl)]
 unfold xw
 rw[if_neg (by rintro(h|h|h);exact aU h;exact h cA;exact h cB),k4]
 rfl
theorem P1{g:Nat->Nat}{L K:Nat}(last:Bool){l:List fi}(hl:l.length<=1000000){P:List (Nat×Nat)}(hS:Stn g K ([(pr last,1),(2,2)]++(jC l++P)))(hL:K+3+UQ (jC l)<=8*L):
  fS g L K=(x7 last (p9 l) (nA l) (nB l),K+3+UQ (jC l),0):=by
 obtain⟨_,_,_,_,a1,a2,b1,b2,hA,_⟩:=lO l hl
 obtain⟨w1,w2⟩:=PX l hl
 have al:=(uc l hl).2.2
 have cF:=(uc l hl).1
 have cG:=(uc l hl).2.1
 have av:∀j,j<nA l->fc (p9 l) j=ja l j:=fun _ hj=>He l hj
 have aT:∀j,j<nB l->fc ((p9 l).drop (nA l)) j=jb l j:=fun _ hj=>Hf l hj
 have ad:=hA 256 (by decide) (zA l)
 have ah:=(zp (nA l+nB l) (nA l+nB l) none (iY (lN l) (nA l+nB l) 0) [] (by rw[qZ];exact Nat.le_refl _) (xg fun i _=>uR l hl i) rfl (by rw[qZ,List.length_nil,Nat.zero_add,Nat.sub_zero])).1
 have aU:ofR (nA l+nB l) none (iY (lN l) (nA l+nB l) 0)=ju l:=rfl
 have hd:iY (lN l) (nA l+nB l) 0=p9 l:=rfl
 rw[aU,hd,List.nil_append]at ah
 have hb:UQ (jC l)=14+3*nR l+UQ ((ju l).flatMap (gS (kW l))):=by
  unfold jC;rw[gm,gm,Bx];rfl
 rw[hb]at hL⊢
 exact P0 last (R:=kW l) (NA:=nA l) (NB:=nB l) (NR:=nR l) (rs:=ju l) (res:=p9 l) (P:=P) hS a1 a2 b1 b2 (tq (mr l) 4 19) (ra (mr l) 4 19 (by decide))
  (fun i h1 h2=>Bv (f:=mr l) h1 h2) al w2 (fun r hm=>⟨((oz l hl).1 r hm).1,((oz l hl).1 r hm).2.1,w1 r hm,((oz l hl).1 r hm).2.2.1⟩) ah
  (by rw[av 256 ad.1];exact Nat.pos_iff_ne_zero.1 ad.2) (by rw[Bo 15 av];exact cF) (by rw[Bo 15 aT];exact cG) hL
end Go.Proofs.YtgokdgcmkcmjeaaGreat
