/-
  Words and walks.
-/
import Derived.Test.YtokpcpjnihinfaaGreatpnac
import Derived.Test.YtokpcpjnihinfaaGreatpnad
import Derived.Test.YtokpcpjnihinfaaGreatpnag
import Derived.Test.YtokpcpjnihinfaaGreatpnaj
import Derived.Test.YtokpcpjnihinfaaGreatpnak
import Derived.Test.YtokpcpjnihinfaaGreatpnay
import Derived.Test.YtokpcpjnihinfaaGreatpnba
set_option maxRecDepth 100000
set_option maxHeartbeats 16000000
namespace Go.Proofs.YtokpcpjnihinfaaGreat
open Go.RowKit Go.ChangeShapes Go.WideShapes Go.ChangeAt Go.Joins Go.Deep
structure Opx where
 fl:Bool
 A:Option Addr
 c:Nat
 L:List Nat
def opx0:Opx:=⟨false,none,0,[]⟩
structure OpR (w:World) (B:Nat) (A:Option Addr) (n c:Nat) (q:Nat→Opx):Prop where
 nn:n≤c
 cm:c≤maxLen
 rows:0<n→∃b o,A=some ⟨b,o,none⟩∧b<B∧∀i,i<n→w.cell? ⟨b,o+i*2,none⟩=some (.bool (q i).fl)∧w.cell? ⟨b,o+i*2+1,none⟩=some (.slice (q i).A (q i).L.length (q i).c)
 txt:∀i,i<n→ByR w B (q i).A (q i).L.length (q i).c (lst (q i).L)
theorem OpR.below{w w':World}{B B' n c:Nat}{A:Option Addr}{q:Nat→Opx}(h:OpR w B A n c q)(hb:Below B' w w')(hB:B≤B'):OpR w' B A n c q:=
 ⟨h.nn,h.cm,fun h0=>by
  obtain⟨b,o,e,hlt,hc⟩:=h.rows h0
  have hcell:∀k,w'.cell? ⟨b,k,none⟩=w.cell? ⟨b,k,none⟩:=fun k=>hb.cell (p:=⟨b,k,none⟩) (by show b<B';omega)
  exact⟨b,o,e,hlt,fun i hi=>⟨(hcell _).trans (hc i hi).1,(hcell _).trans (hc i hi).2⟩⟩,fun i hi=>(h.txt i hi).below hb hB⟩
theorem cellsOp:Tryz.prog.cellsOf 57=2:=by kernel_rfl
theorem cellsBol12:Tryz.prog.cellsOf 4=1:=by kernel_rfl
theorem cellsByt12:Tryz.prog.cellsOf 22=1:=by kernel_rfl
theorem open_ops{H:Type}{enc:TypeId×Value→H}{W:World}{base:Nat}{sp:Nat→Bool}{hd:Bool}{a:Option Addr}{len cap:Nat}{d:DataW H}{p:List MemPlace}
  (h:∃fuel,DataW.trod enc Tryz.prog W base sp hd fuel 54 (Value.slice a len cap).cells.toList=some (d,p)):∃q,OpR W W.heap.size a len cap q:=by
 obtain⟨fuel,hf⟩:=h
 rcases open_slice Tryz.underlying54 hf with⟨hcs,_⟩|⟨x,len',cap',m,n,D,Pl,hcs,hb,hl,hm,hmm,_,hx⟩
 ·simp[Value.cells]at hcs
  obtain⟨rfl,rfl,rfl⟩:=hcs
  exact⟨fun _=>opx0,Nat.le_refl _,by unfold maxLen;omega,fun h=>absurd h (by omega),fun i hi=>absurd hi (by omega)⟩
 ·simp[Value.cells]at hcs
  obtain⟨rfl,rfl,rfl⟩:=hcs
  have hlm:len≤m:=by rw[hmm];split<;>omega
  have each:∀i,i<m→∃q:Opx,(W.cell? (x.add (i*2))=some (.bool q.fl)∧W.cell? (x.add (i*2+1))=some (.slice q.A q.L.length q.c))∧ByR W W.heap.size q.A q.L.length q.c (lst q.L):=by
   intro i hi
   obtain⟨cs',h1,h2⟩:=hx i hi
   rw[cellsOp]at h1
   obtain⟨_,hlen,hcell⟩:=World.cells?_some h1
   obtain⟨y0,y1,k,_,_,g0,g1⟩:=trod_struct2 Tryz.underlying57 h2
   match cs',hlen with
   |[v0,v1],_=>
    have e0:=hcell 0 (by omega)
    have e1:=hcell 1 (by omega)
    rw[add_add]at e0 e1
    simp at e0 e1
    replace g0:DataW.trod enc Tryz.prog W base sp hd k 4 (List.take (Tryz.prog.cellsOf 4) [v0,v1])=some y0:=g0
    replace g1:DataW.trod enc Tryz.prog W base sp hd k 22 (List.take (Tryz.prog.cellsOf 22) [v1])=some y1:=g1
    rw[cellsBol12]at g0
    rw[cellsByt12]at g1
    replace g0:DataW.trod enc Tryz.prog W base sp hd k 4 [v0]=some y0:=g0
    replace g1:DataW.trod enc Tryz.prog W base sp hd k 22 [v1]=some y1:=g1
    obtain⟨z,q0,_⟩:=DataW.trod_bool Tryz.underlying4 g0
    obtain⟨A1,l1,c1,q1⟩:=slice_form Tryz.underlying22 g1
    simp only[List.cons.injEq,and_true]at q0 q1
    subst q0;subst q1
    obtain⟨f,hf1⟩:=open_byr (a:=A1) (len:=l1) (cap:=c1) (d:=y1.1) (p:=y1.2) ⟨k,g1⟩
    obtain⟨L,rfl,hL⟩:=byr_list hf1
    exact⟨⟨z,A1,c1,L⟩,⟨e0,e1⟩,hL⟩
  haveI:Inhabited Opx:=⟨opx0⟩
  obtain⟨q,hq⟩:=choose_lt each
  refine⟨q,hl,hm,fun hn=>?_,fun i hi=>(hq i (by omega)).2⟩
  obtain⟨b,off,spot⟩:=x
  have h0:=(hq 0 (by omega)).1.1
  have hspot:spot=none:=by simpa[Addr.add]using World.cell?_spot h0
  subst hspot
  have hlt:b<W.heap.size:=by
   rcases Nat.lt_or_ge b W.heap.size with h|h
   ·exact h
   ·simp[Addr.add,World.cell?,Array.getElem?_eq_none h]at h0
  have hadd:∀j,(⟨b,off,none⟩:Addr).add j=⟨b,off+j,none⟩:=fun j=>by unfold Addr.add;split<;>simp_all
  refine⟨b,off,rfl,hlt,fun i hi=>?_⟩
  obtain⟨c0,c1⟩:=(hq i (by omega)).1
  rw[hadd]at c0 c1
  exact⟨c0,c1⟩
def longN(q:Nat→Opx):Nat→Nat
 |0=>0
 |k+1=>longN q k+10+Nat.min (q k).L.length 10000
theorem longN_le(q:Nat→Opx):∀k,longN q k≤10010*k
 |0=>Nat.le_refl _
 |k+1=>by have:=longN_le q k;have:Nat.min (q k).L.length 10000≤10000:=Nat.min_le_right _ _;simp only[longN];omega
theorem longN_ge(q:Nat→Opx):∀k,10*k≤longN q k
 |0=>Nat.le_refl _
 |k+1=>by have:=longN_ge q k;simp only[longN];omega
def sumQ(q:Nat→Opx):Nat→Nat
 |0=>0
 |k+1=>sumQ q k+(q k).L.length
theorem long_sum(q:Nat→Opx):∀k,longN q k≤400→10*k+sumQ q k=longN q k
 |0,_=>rfl
 |k+1,h=>by
  simp only[longN,sumQ]at h⊢
  have h1:Nat.min (q k).L.length 10000=(q k).L.length:=by
   rcases Nat.le_total (q k).L.length 10000 with h2|h2
   ·exact Nat.min_eq_left h2
   ·have:Nat.min (q k).L.length 10000=10000:=Nat.min_eq_right h2
    omega
  rw[h1]at h⊢
  have:=long_sum q k (by omega)
  omega
theorem short_is{q:Nat→Opx}{n:Nat}(h:longN q (Nat.min n 100)≤400):n≤40∧10*n+sumQ q n≤400:=by
 have hn:n≤40:=by
  have h1:=longN_ge q (Nat.min n 100)
  rcases Nat.le_total n 100 with h2|h2
  ·have:Nat.min n 100=n:=Nat.min_eq_left h2
   omega
  ·have:Nat.min n 100=100:=Nat.min_eq_right h2
   omega
 have e:Nat.min n 100=n:=Nat.min_eq_left (by omega)
 rw[e]at h
 have:=long_sum q n h
 exact⟨hn,by omega⟩
theorem sumQ_le(q:Nat→Opx):∀{k n:Nat},k≤n→sumQ q k≤sumQ q n:=fun{k n} h=>by
 induction h with
 |refl=>exact Nat.le_refl _
 |step _ ih=>exact Nat.le_trans ih (by simp only[sumQ];omega)
theorem rlong12_any(w:World)(A:Option Addr)(n c:Nat)(q:Nat→Opx)(hr:OpR w w.heap.size A n c q):
  Calls Tryz.prog 27 #[.slice A n c] w fun e w'=>e=.returned (.bool (decide (400<longN q (Nat.min n 100))))∧Below w.heap.size w w':=by
 have hn:=hr.nn
 have hm:n≤9223372036854775807:=Nat.le_trans hr.nn (Nat.le_trans hr.cm (by unfold maxLen;omega))
 have HR:=Lib.hid hr
 clear hr
 obtain⟨m,hmm⟩:∃m,m=Nat.min n 100:=⟨_,rfl⟩
 have hm1:m≤n:=by rw[hmm];exact Nat.min_le_left _ _
 have hm2:m≤100:=by rw[hmm];exact Nat.min_le_right _ _
 have hm3:m=n∨m=100:=by
  rcases Nat.le_total n 100 with h|h
  ·exact .inl (by rw[hmm];exact Nat.min_eq_left h)
  ·exact .inr (by rw[hmm];exact Nat.min_eq_right h)
 rw[←hmm]
 clear hmm
 go_enter Tryz.func27,Tryz.ntmps27
 go_wp2
 go_loop [3,4] (fun t i=>∃k:Nat,k≤m∧i=.int .i64 (k:Int)∧t=.int .i64 (longN q k:Int)) (fun _ i=>m-(intOf i).toNat)
 case atStart=>exact⟨0,Nat.zero_le _,rfl,rfl⟩
 case round=>
  obtain⟨k,hk,rfl,rfl⟩:=hrel
  by_cases hlt:k<m
  ·obtain⟨b,o,rfl,hbl,hc⟩:=HR.out.rows (by omega)
   have h1:(k:Int)<(n:Int):=by omega
   have h2:(k:Int)<100:=by omega
   have h3:(0:Int)≤(k:Int):=by omega
   have c1:=(hc k (by omega)).2
   have hl:=longN_le q k
   obtain⟨ln,hln⟩:∃ln,ln=(q k).L.length:=⟨_,rfl⟩
   rw[←hln]at c1
   have hsuc:longN q (k+1)=longN q k+10+Nat.min ln 10000:=by rw[hln];rfl
   have HSUC:=Lib.hid hsuc
   clear hsuc hln
   by_cases hmin:ln<10000
   ·have hmi:(if(ln:Int)<10000 then(ln:Int)else 10000)=(ln:Int):=if_pos (by omega)
    have hmj:Nat.min ln 10000=ln:=Nat.min_eq_left (by omega)
    go_wp2
    go_round
    case rel=>exact⟨k+1,by omega,by go_num,by rw[HSUC.out,hmj];go_num⟩
    case measure=>simp[intOf];omega
   ·have hmj:Nat.min ln 10000=10000:=Nat.min_eq_right (by omega)
    have hmi:(if(ln:Int)<10000 then(ln:Int)else 10000)=10000:=if_neg (by omega)
    go_wp2
    go_round
    case rel=>exact⟨k+1,by omega,by go_num,by rw[HSUC.out,hmj];go_num⟩
    case measure=>simp[intOf];omega
  ·obtain rfl:k=m:=by omega
   have hz:¬((k:Int)<(n:Int)∧(k:Int)<100):=by omega
   have hl:=longN_le q k
   rcases hm3 with h|h
   ·have h1:¬(k:Int)<(n:Int):=by omega
    clear HR
    go_wp2
    go_ret
    exact⟨by go_num,Below.refl _ _⟩
   ·by_cases h1:(k:Int)<(n:Int)
    ·have h2:¬(k:Int)<100:=by omega
     clear HR
     go_wp2
     go_ret
     exact⟨by go_num,Below.refl _ _⟩
    ·clear HR
     go_wp2
     go_ret
     exact⟨by go_num,Below.refl _ _⟩
end Go.Proofs.YtokpcpjnihinfaaGreat
namespace Go.Proofs.YtokpcpjnihinfaaGreat
open Go.RowKit Go.ChangeShapes Go.WideShapes Go.ChangeAt Go.Joins
structure SzInv (q:Nat→Opx) (k O Na Fl:Nat) (s h m:Int) (z:Bool) (p:Prs):Prop where
 g:GoodP p
 es:p.s=s
 em:p.m=m
 na:Na≤sumQ q k
 fl:Fl≤k
 bt:∃Bt,O+(p.k.toNat+7)/8+p.wait.length≤Na+5*(Fl+Bt)∧Bt*m.toNat+p.wait.length≤Na
theorem SzInv.beg(q:Nat→Opx){s h m:Int}{z:Bool}(hm:mayS s h m=true):SzInv q 0 0 0 0 s h m z (begP s h m z):=
 ⟨beg_good z hm,rfl,rfl,Nat.le_refl _,Nat.le_refl _,0,by simp[begP],by simp[begP]⟩
theorem SzInv.wr{q:Nat→Opx}{k O Na Fl:Nat}{s h m:Int}{z:Bool}{p:Prs}(H:SzInv q k O Na Fl s h m z p)(hb:BytesP (q k).L):SzInv q (k+1) (O+(writeP p (q k).L).2.length) (Na+(q k).L.length) Fl s h m z (writeP p (q k).L).1:=by
 obtain⟨g1,e1,e2,e3,e4,B,b1,b2⟩:=write_good H.g hb
 obtain⟨Bt,t1,t2⟩:=H.bt
 have em:p.m.toNat=m.toNat:=by rw[H.em]
 rw[em]at b1 b2
 refine⟨g1,e2.trans H.es,e1.trans H.em,by have:=H.na;simp only[sumQ];omega,by have:=H.fl;omega,Bt+B,by omega,?_⟩
 rw[Nat.add_mul];omega
theorem SzInv.flush{q:Nat→Opx}{k O Na Fl:Nat}{s h m:Int}{z:Bool}{p:Prs}(H:SzInv q k O Na Fl s h m z p):SzInv q (k+1) (O+(flushedP p).2.length) Na (Fl+1) s h m z (flushedP p).1:=by
 obtain⟨g1,g2,g3,g4,g5⟩:=flushed_good H.g
 obtain⟨Bt,t1,t2⟩:=H.bt
 refine⟨g1,H.es,g4.trans H.em,by have:=H.na;simp only[sumQ];omega,by have:=H.fl;omega,Bt,?_,?_⟩
 ·rw[g2,g3];simp;omega
 ·rw[g3];simp;omega
theorem SzInv.fin{q:Nat→Opx}{k O Na Fl:Nat}{s h m:Int}{z:Bool}{p:Prs}(H:SzInv q k O Na Fl s h m z p)(ln:Nat)(hl:ln≤(p.k.toNat+7)/8+5+p.wait.length):O+ln≤Na+5*(Fl+Na/m.toNat+1):=by
 obtain⟨Bt,t1,t2⟩:=H.bt
 have hm:=mayS_rng H.g.sty
 have em:=H.em
 have h1:Bt≤Na/m.toNat:=(Nat.le_div_iff_mul_le (by omega)).2 (by omega)
 omega
theorem SzInv.le{q:Nat→Opx}{k O Na Fl:Nat}{s h m:Int}{z:Bool}{p:Prs}(H:SzInv q k O Na Fl s h m z p):O≤6*Na+5*Fl:=by
 obtain⟨Bt,t1,t2⟩:=H.bt
 have hm:=mayS_rng H.g.sty
 have em:=H.em
 have h3:Bt≤Bt*m.toNat:=Nat.le_mul_of_pos_right _ (by omega)
 omega
theorem size12_walk(HA:PAllCon)(HN:PNewCon)(HW:PWriteCon)(HF:PFlushCon)(HE:PFinishCon)(s h m:Int)(z:Bool)(A:Option Addr)(n c:Nat)(q:Nat→Opx)(w:World)
  (_hus: -9223372036854775808≤s∧s≤9223372036854775807) (_huh: -9223372036854775808≤h∧h≤9223372036854775807) (hum: -9223372036854775808≤m∧m≤9223372036854775807) (hr:OpR w w.heap.size A n c q):
  Calls Tryz.prog 7 #[.agg #[.int .i64 s,.int .i64 h,.int .i64 m,.bool z],.slice A n c] w fun e w'=>e=.returned (.bool true)∧Below w.heap.size w w':=by
 obtain⟨Z,hZ⟩:∃Z,Z=prsA (begP 0 0 0 false) none 0 none 0 none 0:=⟨_,rfl⟩
 have hz:=(zero_of_info zero_prs).1
 rw[←hZ]at hz
 have HZS:Hid (Z.size=9):=Lib.hid (by rw[hZ];rfl)
 have HZN:Hid (NoB Z):=Lib.hid (by rw[hZ];exact noB_prs _ _ _ _ _ _ _)
 have HAL:=Lib.hid (alive12_any HA);have HNN:=Lib.hid HN;have HWW:=Lib.hid HW;have HFF:=Lib.hid HF;have HEE:=Lib.hid HE
 have HOP:Hid (∀V,Below w.heap.size w V→OpR V w.heap.size A n c q):=Lib.hid fun V hV=>hr.below hV (Nat.le_refl _)
 have HLG:Hid (∀V,Below w.heap.size w V→Calls Tryz.prog 27 #[.slice A n c] V fun e w'=>e=.returned (.bool (decide (400<longN q (Nat.min n 100))))∧Below V.heap.size V w'):=Lib.hid fun V hV=>rlong12_any V A n c q (by
  have h1:=hr.below hV (Nat.le_refl _)
  exact⟨h1.nn,h1.cm,fun h0=>by obtain⟨b,o,e,hl,hc⟩:=h1.rows h0;exact⟨b,o,e,by have:=hV.size;omega,hc⟩,fun i hi=>(h1.txt i hi).more hV.size⟩)
 have hnc:=Nat.le_trans hr.nn hr.cm
 have hnm:n≤9223372036854775807:=Nat.le_trans hnc (by unfold maxLen;omega)
 obtain⟨W0,hW0⟩:∃W,W=w.alloc (.cells #[.int .i64 s,.int .i64 h,.int .i64 m,.bool z] 27):=⟨_,rfl⟩
 have HB0:Hid (Below w.heap.size w W0):=Lib.hid (by rw[hW0];exact(Below.refl _ _).alloc (Nat.le_refl _) _)
 have HS0:Hid (BoxC W0 w.heap.size #[.int .i64 s,.int .i64 h,.int .i64 m,.bool z] 27):=Lib.hid (by rw[hW0];exact BoxC.new w _ _)
 have HW0:=Lib.hid hW0
 clear HA HN HW HF HE hr hZ hW0 hnc
 go_enter Tryz.func7,Tryz.ntmps7
 go_wp2_with (first|(rw[←HW0.out])|fail)
 refine(HAL.out W0).mono ?_
 rintro e W1 ⟨rfl,hb1⟩
 have HB1:Hid (Below w.heap.size w W1):=Lib.hid (HB0.out.trans (hb1.mono HB0.out.size))
 have HS1:Hid (BoxC W1 w.heap.size #[.int .i64 s,.int .i64 h,.int .i64 m,.bool z] 27):=Lib.hid (HS0.out.below hb1 HS0.out.lt)
 clear hb1
 have hlg:=HLG.out W1 HB1.out
 by_cases hlong:400<longN q (Nat.min n 100)
 ·rw[decide_eq_true hlong]at hlg
  have HLX:=Lib.hid hlg
  clear hlg hlong
  go_wp2_with fail
  refine HLX.out.mono ?_
  rintro e W2 ⟨rfl,hb2⟩
  have HB2:Hid (Below w.heap.size w W2):=Lib.hid (HB1.out.trans (hb2.mono HB1.out.size))
  clear hb2
  go_wp2
  go_ret
  exact⟨rfl,HB2.out⟩
 ·rw[decide_eq_false hlong]at hlg
  have HLX:=Lib.hid hlg
  obtain⟨hn40,hsum⟩:=short_is (Nat.le_of_not_lt hlong)
  clear hlg hlong
  go_wp2_with fail
  refine HLX.out.mono ?_
  rintro e W2 ⟨rfl,hb2⟩
  have HB2:Hid (Below w.heap.size w W2):=Lib.hid (HB1.out.trans (hb2.mono HB1.out.size))
  have HS2:Hid (BoxC W2 w.heap.size #[.int .i64 s,.int .i64 h,.int .i64 m,.bool z] 27):=Lib.hid (HS1.out.below hb2 HS1.out.lt)
  clear hb2
  have hnw:=HNN.out W2 s h m z
  obtain⟨p0,hp0⟩:∃p,p=begV s h m z:=⟨_,rfl⟩
  obtain⟨e0,he0⟩:∃e,e=begE s h m:=⟨_,rfl⟩
  rw[←hp0,←he0]at hnw
  have HNW:=Lib.hid hnw
  clear hnw
  have hcase:(mayS s h m=false∧e0=8)∨(mayS s h m=true∧e0=0∧p0=begP s h m z):=by
   cases hm:mayS s h m with
   |false=>exact .inl ⟨rfl,by rw[he0];unfold begE;rw[hm];rfl⟩
   |true=>exact .inr ⟨rfl,by rw[he0];unfold begE;rw[hm];rfl,by rw[hp0];unfold begV;rw[hm];rfl⟩
  clear hp0 he0
  go_wp2_with (first
   |(refine wpList_load_row rfl _ _ rfl w.heap.size rfl _ _ (0,0) _ HS2.out Tryz.underlying27 rfl szSty12 ?_)
   |fail)
  refine HNW.out.mono ?_
  rintro e w3 ⟨A3a,k3a,A3b,k3b,A3c,k3c,rfl,r3,hb3⟩
  obtain⟨Y3,hY3⟩:∃Y,Y=prsA p0 A3a k3a A3b k3b A3c k3c:=⟨_,rfl⟩
  have HY3S:Hid (Y3.size=9):=Lib.hid (by rw[hY3];rfl)
  have HY3O:Hid (Y3.all (·.oneCell')=true):=Lib.hid (by rw[hY3];exact prsA_one ..)
  obtain⟨W3,hW3⟩:∃W,W=mkV w3 Z Y3 32:=⟨_,rfl⟩
  have hx3:BoxC W3 w3.heap.size Y3 32:=by rw[hW3];exact mkV_row _ _ _ _
  have bw3:Below w3.heap.size w3 W3:=by rw[hW3];exact mkV_below _ _ _ _
  have bu3:Below W2.heap.size W2 W3:=hb3.trans (bw3.mono hb3.size)
  have HB3:Hid (Below w.heap.size w W3):=Lib.hid (HB2.out.trans (bu3.mono HB2.out.size))
  have HS3:Hid (BoxC W3 w.heap.size #[.int .i64 s,.int .i64 h,.int .i64 m,.bool z] 27):=Lib.hid (HS2.out.below bu3 HS2.out.lt)
  have HR3:Hid (PrsR W3 W3.heap.size p0 A3a k3a A3b k3b A3c k3c):=Lib.hid (r3.on bw3)
  have hgp:w.heap.size<w3.heap.size:=by have:=HS2.out.lt;have:=hb3.size;omega
  have HW3:=Lib.hid hW3;have HY3E:=Lib.hid hY3;have HX3:=Lib.hid hx3
  rw[←hY3]
  clear hW3 hx3 bw3 bu3 hb3 r3 hY3
  rcases hcase with⟨_,rfl⟩|⟨hmay,rfl,rfl⟩
  ·go_wp2_with (first
    |(refine wpList_store_rowTo rfl _ _ _ rfl rfl w3.heap.size Y3 rfl rfl 32 Z (heap_alloc_new w3 _) (by rw[HY3S.out];exact szPrs) (by rw[HZS.out,HY3S.out]) HY3O.out ?_;rw[show(w3.alloc (.cells Z 32)).setRow w3.heap.size Y3=mkV w3 Z Y3 32 from rfl,←HW3.out])
    |fail)
   go_ret
   exact⟨rfl,HB3.out⟩
  ·obtain⟨gp,hgpe⟩:∃g,g=w3.heap.size:=⟨_,rfl⟩
   have HGP:=Lib.hid hgpe
   have HMAY:=Lib.hid hmay
   clear hmay
   go_wp2_with (first
    |(refine wpList_store_rowTo rfl _ _ _ rfl rfl w3.heap.size Y3 rfl rfl 32 Z (heap_alloc_new w3 _) (by rw[HY3S.out];exact szPrs) (by rw[HZS.out,HY3S.out]) HY3O.out ?_;rw[show(w3.alloc (.cells Z 32)).setRow w3.heap.size Y3=mkV w3 Z Y3 32 from rfl,←HW3.out])
    |fail)
   rw[←hgpe]at hgp⊢
   clear hgpe
   go_loopw [8,9,10,11] (fun ov av fv iv wr=>∃(k O Na Fl:Nat) (p:Prs) (Ah:Option Addr) (hc:Nat) (Aw:Option Addr) (wc:Nat) (Ap:Option Addr) (pc:Nat),k≤n∧ov=.int .i64 (O:Int)∧av=.int .i64 (Na:Int)∧fv=.int .i64 (Fl:Int)∧iv=.int .i64 (k:Int)∧Hid (SzInv q k O Na Fl s h m z p)∧Hid (BoxC wr w.heap.size #[.int .i64 s,.int .i64 h,.int .i64 m,.bool z] 27)∧Hid (BoxC wr gp (prsA p Ah hc Aw wc Ap pc) 32)∧Hid (PrsR wr wr.heap.size p Ah hc Aw wc Ap pc)∧Hid (Below w.heap.size w wr)) (fun _ _ _ iv _=>n-(intOf iv).toNat)
   case atStart=>exact⟨0,0,0,0,begP s h m z,A3a,k3a,A3b,k3b,A3c,k3c,Nat.zero_le _,rfl,rfl,rfl,rfl,Lib.hid (SzInv.beg q HMAY.out),HS3,Lib.hid (by rw[HGP.out,←HY3E.out];exact HX3.out),HR3,HB3⟩
   case round=>
    obtain⟨k,O,Na,Fl,p,Ah,hc,Aw,wc,Ap,pc,hk,rfl,rfl,rfl,rfl,HI,HSB,HXB0,HPR,HBW⟩:=hrel
    clear HS3 HX3 HR3 HB3 HS2 HB2 HS1 HB1 HS0 HB0
    obtain⟨X,hX⟩:∃X,X=prsA p Ah hc Aw wc Ap pc:=⟨_,rfl⟩
    have HXB:Hid (BoxC wr gp X 32):=Lib.hid (by rw[hX];exact HXB0.out)
    have HXS:Hid (X.size=9):=Lib.hid (by rw[hX];rfl)
    have HXN:Hid (NoB X):=Lib.hid (by rw[hX];exact noB_prs _ _ _ _ _ _ _)
    have HXE:=Lib.hid hX
    clear hX HXB0
    have hna:Na≤400:=by have:=HI.out.na;have:=sumQ_le q hk;omega
    have hfl:Fl≤40:=by have:=HI.out.fl;omega
    have hO:O≤10000:=by have:=HI.out.le;omega
    have hpl:p.hist.length≤1000000∧p.wait.length≤1000000:=by
     have h1:=mayS_rng HI.out.g.sty;have h2:=HI.out.g.hist;have h3:=HI.out.g.wait
     omega
    by_cases hlt:k<n
    ·have hlti:(k:Int)<(n:Int):=by omega
     have hk0:(0:Int)≤(k:Int):=by omega
     have HOPw:=HOP.out wr HBW.out
     obtain⟨b,o,rfl,hbl,hcell⟩:=HOPw.rows (by omega)
     obtain⟨c0,c1⟩:=hcell k hlt
     have htx:=HOPw.txt k hlt
     clear HOPw hcell
     have hsm:(q k).L.length≤400:=by have:=sumQ_le q (show k+1≤n from hlt);simp only[sumQ]at this;omega
     obtain⟨fk,hfk⟩:∃f,f=(q k).fl:=⟨_,rfl⟩
     rw[←hfk]at c0
     clear hfk
     cases fk with
     |true=>
      clear c1 htx
      obtain⟨R,hR⟩:∃R,R=flushedP p:=⟨_,rfl⟩
      obtain⟨ln,hln⟩:∃l,l=R.2.length:=⟨_,rfl⟩
      have hI2:=HI.out.flush
      rw[←hR,←hln]at hI2
      have hg:=flushed_good HI.out.g
      rw[←hR]at hg
      have hO2:O+ln≤10000:=by have:=hI2.le;omega
      have hcl:Calls Tryz.prog 13 #[.agg X] wr fun e w'=>OutN wr w' e R.1 ln R.2 0:=by
       have h1:=HFF.out wr p Ah hc Aw wc Ap pc HPR.out hpl.1 hpl.2
       rw[HI.out.g.ask,←HXE.out,←hR]at h1
       exact h1.mono fun e w' h=>out_n h R.1 ln R.2 rfl hln
      have HCL:=Lib.hid hcl;have HI2:=Lib.hid hI2;have HG:=Lib.hid hg
      clear hcl hI2 hg hR hln hpl
      go_wp2_with (first
       |(refine wpList_load_row rfl _ _ rfl (gp) rfl _ X (0,0) _ HXB.out Tryz.underlying32 rfl (by rw[HXS.out];exact szPrs) ?_)
       |fail)
      refine HCL.out.mono ?_
      rintro e w4 ⟨A4a,k4a,A4b,k4b,A4c,k4c,A4d,k4d,rfl,r4,-,hb4⟩
      obtain⟨Y4,hY4⟩:∃Y,Y=prsA R.1 A4a k4a A4b k4b A4c k4c:=⟨_,rfl⟩
      have HY4S:Hid (Y4.size=9):=Lib.hid (by rw[hY4];rfl)
      have HY4O:Hid (Y4.all (·.oneCell')=true):=Lib.hid (by rw[hY4];exact prsA_one ..)
      have HY4N:Hid (NoB Y4):=Lib.hid (by rw[hY4];exact noB_prs _ _ _ _ _ _ _)
      have HY4E:=Lib.hid hY4
      obtain⟨W4,hW4⟩:∃W,W=mkV w4 Z Y4 32:=⟨_,rfl⟩
      have hx4:BoxC W4 w4.heap.size Y4 32:=by rw[hW4];exact mkV_row _ _ _ _
      have bw4:Below w4.heap.size w4 W4:=by rw[hW4];exact mkV_below _ _ _ _
      have bu4:Below wr.heap.size wr W4:=hb4.trans (bw4.mono hb4.size)
      have HR4:Hid (PrsR W4 W4.heap.size R.1 A4a k4a A4b k4b A4c k4c):=Lib.hid (r4.on bw4)
      have HW4:=Lib.hid hW4;have HX4:=Lib.hid hx4;have HBU4:=Lib.hid bu4
      rw[←hY4]
      clear hW4 hb4 r4 bw4 bu4 hY4 hx4
      have c7:W4.cell? ⟨w4.heap.size,7,none⟩=some (.int .i64 0):=by rw[HX4.out.cell,HY4E.out,←HG.out.2.1];rfl
      have c5:W4.cell? ⟨w4.heap.size,5,none⟩=some (.slice A4b 0 k4b):=by
       rw[HX4.out.cell,HY4E.out]
       show some (Value.slice A4b R.1.wait.length k4b)=_
       rw[HG.out.2.2.1];rfl
      obtain⟨W5,hW5⟩:∃W,W=W4.setRow gp Y4:=⟨_,rfl⟩
      have HXB4:Hid (BoxC W4 gp X 32):=Lib.hid (HXB.out.below HBU4.out HXB.out.lt)
      have hne:gp≠w.heap.size:=by omega
      have r5:PrsR W5 W5.heap.size R.1 A4a k4a A4b k4b A4c k4c:=by
       rw[hW5,size_setRow]
       exact⟨HR4.out.hist.rowBox HXB4.out HXN.out Y4,HR4.out.wait.rowBox HXB4.out HXN.out Y4,HR4.out.pen.rowBox HXB4.out HXN.out Y4⟩
      have s5:BoxC W5 w.heap.size #[.int .i64 s,.int .i64 h,.int .i64 m,.bool z] 27:=by rw[hW5];exact(HSB.out.below HBU4.out HSB.out.lt).rowO (Ne.symm hne) Y4
      have x5:BoxC W5 gp (prsA R.1 A4a k4a A4b k4b A4c k4c) 32:=by rw[hW5,←HY4E.out];exact HXB4.out.row Y4
      have b5:Below w.heap.size w W5:=by rw[hW5];exact below_rowC (HBW.out.trans (HBU4.out.mono HBW.out.size)) (Nat.le_of_lt hgp) Y4
      have R5:=Lib.hid r5;have S5:=Lib.hid s5;have X5:=Lib.hid x5;have B5:=Lib.hid b5;have HW5:=Lib.hid hW5
      clear r5 s5 x5 b5 hW5 hne
      go_wp2_with (first
       |(refine wpList_store_rowTo rfl _ _ _ rfl rfl w4.heap.size Y4 rfl rfl 32 Z (heap_alloc_new w4 _) (by rw[HY4S.out];exact szPrs) (by rw[HZS.out,HY4S.out]) HY4O.out ?_;rw[show(w4.alloc (.cells Z 32)).setRow w4.heap.size Y4=mkV w4 Z Y4 32 from rfl,←HW4.out])
       |(refine wpList_load_row rfl _ _ rfl (w4.heap.size) rfl _ Y4 (0,0) _ HX4.out Tryz.underlying32 rfl (by rw[HY4S.out];exact szPrs) ?_)
       |(refine wpList_store_rowTo rfl _ _ _ rfl rfl gp Y4 rfl rfl 32 X HXB4.out (by rw[HY4S.out];exact szPrs) (by rw[HXS.out,HY4S.out]) HY4O.out ?_;rw[←HW5.out])
       |fail)
      go_roundw
      case rel=>exact⟨k+1,O+ln,Na,Fl+1,R.1,A4a,k4a,A4b,k4b,A4c,k4c,hlt,by go_num,rfl,by go_num,by go_num,HI2,S5,X5,R5,B5⟩
      case measure=>simp[intOf];omega
     |false=>
      obtain⟨At,lt,ct,Lt,hqk⟩:∃At lt ct Lt,(q k).A=At∧(q k).L.length=lt∧(q k).c=ct∧(q k).L=Lt:=⟨_,_,_,_,rfl,rfl,rfl,rfl⟩
      obtain⟨q1,q2,q3,q4⟩:=hqk
      rw[q1,q2,q3]at c1 htx
      rw[q4]at htx
      rw[q2]at hsm
      have hlL:lt=Lt.length:=by rw[←q4,q2]
      obtain⟨R,hR⟩:∃R,R=writeP p Lt:=⟨_,rfl⟩
      obtain⟨ln,hln⟩:∃l,l=R.2.length:=⟨_,rfl⟩
      have hbt:BytesP Lt:=bytes_of (hlL▸htx)
      have hI2:=HI.out.wr (by rw[q4];exact hbt)
      rw[q4,←hlL,←hR,←hln]at hI2
      have hna2:Na+lt≤400:=by have:=hI2.na;have:=sumQ_le q (show k+1≤n from hlt);omega
      have hO2:O+ln≤10000:=by have:=hI2.le;omega
      have HC1:Hid (∀V,Below wr.heap.size wr V→V.cell? ⟨b,o+k*2+1,none⟩=some (.slice At lt ct)):=Lib.hid fun V hV=>(hV.cell (p:=⟨b,o+k*2+1,none⟩) (by show b<_;have:=HBW.out.size;omega)).trans c1
      have HCX:Hid (∀V,Below wr.heap.size wr V→Calls Tryz.prog 12 #[.agg X,.slice At lt ct] V fun e w'=>OutN V w' e R.1 ln R.2 0):=Lib.hid fun V hV=>by
       have h1:=HWW.out V p Ah hc Aw wc Ap pc At ct Lt (HPR.out.on hV) (hlL▸((htx.more HBW.out.size).below hV (Nat.le_refl _)).more hV.size) hpl.1 hpl.2 (by omega)
       have e1:wrtEP p Lt.length=0:=by unfold wrtEP;rw[HI.out.g.ask];simp;omega
       rw[e1,←hlL,←HXE.out,←hR]at h1
       exact h1.mono fun e w' h=>out_n h R.1 ln R.2 rfl hln
      have HRG:Hid (∀V,BoxC V gp X 32→V.rangeAt gp 0 X.toList):=Lib.hid fun V hx=>rangeMid hx 0 _ fun i hi=>by rw[Nat.zero_add,Array.getElem?_toList]
      have HI2:=Lib.hid hI2
      clear htx q1 q2 q3 q4 hR hln hbt hI2 hpl hlL
      go_wp2_with fail
      refine wp_region_tabg 12 [9,10] (tabT [fun v _=>v=.agg X,fun v _=>v=.slice (some ⟨b,o,none⟩) n c,fun v _=>v=.int .i64 (k:Int),fun v _=>v=.pointer (some ⟨b,o+k*2,none⟩),fun v _=>v=.pointer (some ⟨b,o+k*2+1,none⟩),fun v _=>v=.slice At lt ct,fun v W=>∃A1 k1 A2 k2 A3 k3 A4 k4,v=.tuple #[.agg (prsA R.1 A1 k1 A2 k2 A3 k3),.slice A4 ln k4,.int .i64 0]∧PrsR W W.heap.size R.1 A1 k1 A2 k2 A3 k3,fun v W=>∃A1 k1 A2 k2 A3 k3 A4 k4,v=.tuple #[.agg (prsA R.1 A1 k1 A2 k2 A3 k3),.slice A4 ln k4,.int .i64 0]∧PrsR W W.heap.size R.1 A1 k1 A2 k2 A3 k3,fun v W=>∃A1 k1 A2 k2 A3 k3,v=.agg (prsA R.1 A1 k1 A2 k2 A3 k3)∧PrsR W W.heap.size R.1 A1 k1 A2 k2 A3 k3,fun v W=>∃A4 k4,v=.slice A4 ln k4,fun v _=>v=.int .i64 0,fun v W=>∃ad,v=.pointer (some ⟨ad,0,none⟩)∧BoxC W ad Z 32∧wr.heap.size≤ad]) wr (Below.refl _ _) (by kernel_rfl) (by kernel_rfl) (List.forall_mem_cons.2 ⟨⟨_,_,rfl,rfl,rfl,(fun _ _ _ _ h=>h),fun aa wv hb ha hS=>by obtain⟨a,b1,c1,d,e1,f,g,h1,h2,h3⟩:=(hS 7 75 (by kernel_rfl) rfl).here;exact⟨.slice g ln h1,fun w'=>by (unfold execOp;simp only[h2];go_simp),fun W hW=>⟨g,h1,rfl⟩⟩⟩,(List.forall_mem_cons.2 ⟨⟨_,_,rfl,rfl,rfl,(fun _ _ _ _ h=>h),fun aa wv hb ha hS=>by obtain⟨a,b1,c1,d,e1,f,g,h1,h2,h3⟩:=(hS 7 75 (by kernel_rfl) rfl).here;exact⟨.int .i64 0,fun w'=>by (unfold execOp;simp only[h2];go_simp),up_eq rfl⟩⟩,(fun _ h=>by cases h)⟩)⟩) ?_ ?_
      case refine_1=>
       simp only[List.take_succ_cons,List.take_zero]
       refine TabAll.cons (fun aa wv hb ha hS Kk Qq hK=>tab_row (tab_free rfl) _ _ rfl gp 0 ((ha 6 (by kernel_rfl)).trans rfl) X.toList _ (HRG.out wv (HXB.out.below hb HXB.out.lt)) Tryz.underlying32 rfl (by rw[Array.length_toList,HXS.out];exact szPrs) (up_eq (by rw[Array.toArray_toList])) hK) ?_
       refine TabAll.cons (fun aa wv hb ha hS Kk Qq hK=>tab_move (tab_free rfl) _ rfl (up_eq ((ha 1 (by kernel_rfl)).trans rfl)) hK) ?_
       refine TabAll.cons (fun aa wv hb ha hS Kk Qq hK=>tab_move (tab_free rfl) _ rfl (up_eq ((ha 11 (by kernel_rfl)).trans rfl)) hK) ?_
       refine TabAll.cons (fun aa wv hb ha hS Kk Qq hK=>by have e1:=(show aa.eval (.tmp 77)=.slice (some ⟨b,o,none⟩) n c from(hS 1 77 (by kernel_rfl) rfl).here);have e2:=(show aa.eval (.tmp 78)=.int .i64 (k:Int)from(hS 2 78 (by kernel_rfl) rfl).here);exact tab_val (tab_free rfl) (.pointer (some ⟨b,o+k*2,none⟩)) (by unfold execOp;simp only[e1,e2];go_simp) (up_eq rfl) hK) ?_
       refine TabAll.cons (fun aa wv hb ha hS Kk Qq hK=>tab_field (tab_free rfl) _ _ _ rfl _ (.pointer (some ⟨b,o+k*2+1,none⟩)) (show aa.eval (.tmp 79)=.pointer (some ⟨b,o+k*2,none⟩)from(hS 3 79 (by kernel_rfl) rfl).here) (by go_simp) (up_eq rfl) hK) ?_
       refine TabAll.cons (fun aa wv hb ha hS Kk Qq hK=>tab_load (tab_free rfl) _ _ rfl _ (.slice At lt ct) (show aa.eval (.tmp 80)=.pointer (some ⟨b,o+k*2+1,none⟩)from(hS 4 80 (by kernel_rfl) rfl).here) (by have hc:wv.cell? ⟨b,o+k*2+1,none⟩=some (.slice At lt ct):=(HC1.out wv hb);go_simp) (up_eq rfl) hK) ?_
       refine TabAll.cons (fun aa wv hb ha hS Kk Qq hK=>tab_call (tab_free rfl) 12 _ _ rfl (enters_of Tryz.func12 (by kernel_rfl) rfl) #[.agg X,.slice At lt ct] (by simp[(show aa.eval (.tmp 76)=.agg X from(hS 0 76 (by kernel_rfl) rfl).here),(show aa.eval (.tmp 81)=.slice At lt ct from(hS 5 81 (by kernel_rfl) rfl).here)]) (HCX.out wv hb) (fun ee w' ⟨a,b,c,d,e1,f,g,h,h1,h2,h3,h4⟩=>⟨_,h1,h4,fun W hW=>⟨a,b,c,d,e1,f,g,h,rfl,h2.on hW⟩⟩) hK) ?_
       refine TabAll.cons (fun aa wv hb ha hS Kk Qq hK=>tab_move (tab_free rfl) _ rfl (hS 6 82 (by kernel_rfl) rfl) hK) ?_
       refine TabAll.cons (fun aa wv hb ha hS Kk Qq hK=>by obtain⟨a,b1,c1,d,e1,f,g,h1,h2,h3⟩:=(hS 7 75 (by kernel_rfl) rfl).here;exact tab_extract (tab_free rfl) _ _ rfl _ (.agg (prsA R.1 a b1 c1 d e1 f)) h2 (by go_simp) (fun W hW=>⟨a,b1,c1,d,e1,f,rfl,h3.on hW⟩) hK) ?_
       refine TabAll.cons (fun aa wv hb ha hS Kk Qq hK=>by obtain⟨a,b1,c1,d,e1,f,g,h1,h2,h3⟩:=(hS 7 75 (by kernel_rfl) rfl).here;exact tab_extract (tab_free rfl) _ _ rfl _ (.slice g ln h1) h2 (by go_simp) (fun W hW=>⟨g,h1,rfl⟩) hK) ?_
       refine TabAll.cons (fun aa wv hb ha hS Kk Qq hK=>by obtain⟨a,b1,c1,d,e1,f,g,h1,h2,h3⟩:=(hS 7 75 (by kernel_rfl) rfl).here;exact tab_extract (tab_free rfl) _ _ rfl _ (.int .i64 0) h2 (by go_simp) (up_eq rfl) hK) ?_
       refine TabAll.cons (fun aa wv hb ha hS Kk Qq hK=>by have hzz:=hz;exact tab_make (w':=wv.alloc (.cells Z 32)) (tab_free rfl) (.pointer (some ⟨wv.heap.size,0,none⟩)) (by go_simp) ((Below.refl _ _).alloc (Nat.le_refl _) _) (fun W hW=>⟨_,rfl,(BoxC.new wv Z 32).below hW (by simp),hb.size⟩) hK) ?_
       exact TabAll.nil
      intro vals w5 hb5 hv
      obtain⟨A4a,k4a,A4b,k4b,A4c,k4c,e83,r4⟩:=(hv 8 83 rfl).here
      obtain⟨A4d,k4d,e84⟩:=(hv 9 84 rfl).here
      have e85:vals 85=.int .i64 0:=(hv 10 85 rfl).here
      obtain⟨ad,e15,bx4,hl4⟩:=(hv 11 15 rfl).here
      obtain⟨Y4,hY4⟩:∃Y,Y=prsA R.1 A4a k4a A4b k4b A4c k4c:=⟨_,rfl⟩
      rw[←hY4]at e83
      have HY4S:Hid (Y4.size=9):=Lib.hid (by rw[hY4];rfl)
      have HY4O:Hid (Y4.all (·.oneCell')=true):=Lib.hid (by rw[hY4];exact prsA_one ..)
      have HY4E:=Lib.hid hY4
      obtain⟨W4,hW4⟩:∃W,W=w5.setRow ad Y4:=⟨_,rfl⟩
      have hx4:BoxC W4 ad Y4 32:=by rw[hW4];exact bx4.row Y4
      have bu4:Below wr.heap.size wr W4:=by rw[hW4];exact below_rowC hb5 hl4 Y4
      have r4':PrsR W4 W4.heap.size R.1 A4a k4a A4b k4b A4c k4c:=by
       rw[hW4,size_setRow]
       exact⟨r4.hist.rowBox bx4 HZN.out Y4,r4.wait.rowBox bx4 HZN.out Y4,r4.pen.rowBox bx4 HZN.out Y4⟩
      obtain⟨W5,hW5⟩:∃W,W=W4.setRow gp Y4:=⟨_,rfl⟩
      have HXB4:Hid (BoxC W4 gp X 32):=Lib.hid (HXB.out.below bu4 HXB.out.lt)
      have hne:gp≠w.heap.size:=by omega
      have r5:PrsR W5 W5.heap.size R.1 A4a k4a A4b k4b A4c k4c:=by
       rw[hW5,size_setRow]
       exact⟨r4'.hist.rowBox HXB4.out HXN.out Y4,r4'.wait.rowBox HXB4.out HXN.out Y4,r4'.pen.rowBox HXB4.out HXN.out Y4⟩
      have s5:BoxC W5 w.heap.size #[.int .i64 s,.int .i64 h,.int .i64 m,.bool z] 27:=by rw[hW5];exact(HSB.out.below bu4 HSB.out.lt).rowO (Ne.symm hne) Y4
      have x5:BoxC W5 gp (prsA R.1 A4a k4a A4b k4b A4c k4c) 32:=by rw[hW5,←hY4];exact HXB4.out.row Y4
      have b5:Below w.heap.size w W5:=by rw[hW5];exact below_rowC (HBW.out.trans (bu4.mono HBW.out.size)) (Nat.le_of_lt hgp) Y4
      have d1:W5.cell? ⟨b,o+k*2+1,none⟩=some (.slice At lt ct):=by
       rw[(b5.cell (p:=⟨b,o+k*2+1,none⟩) hbl)]
       rw[←(HBW.out.cell (p:=⟨b,o+k*2+1,none⟩) hbl)];exact c1
      have R5:=Lib.hid r5;have S5:=Lib.hid s5;have X5:=Lib.hid x5;have B5:=Lib.hid b5;have HW5:=Lib.hid hW5;have HW4:=Lib.hid hW4
      have HX4:=Lib.hid hx4;have HBX4:=Lib.hid bx4
      clear r5 s5 x5 b5 hW5 hne hW4 hx4 bx4 bu4 r4 r4' hl4 hb5 hv hY4 c1 c0
      simp only[List.take_succ_cons,List.take_zero,List.drop_succ_cons,List.drop_zero,List.map_cons,List.map_nil,putL,Act.put,List.setIfInBounds_toArray,List.set_cons_zero,List.set_cons_succ,e83,e84,e85,e15]
      clear e83 e84 e85 e15
      go_wp2_with (first
       |(refine wpList_store_rowTo rfl _ _ _ rfl rfl ad Y4 rfl rfl 32 Z HBX4.out (by rw[HY4S.out];exact szPrs) (by rw[HZS.out,HY4S.out]) HY4O.out ?_;rw[←HW4.out])
       |(refine wpList_load_row rfl _ _ rfl (ad) rfl _ Y4 (0,0) _ HX4.out Tryz.underlying32 rfl (by rw[HY4S.out];exact szPrs) ?_)
       |(refine wpList_store_rowTo rfl _ _ _ rfl rfl gp Y4 rfl rfl 32 X HXB4.out (by rw[HY4S.out];exact szPrs) (by rw[HXS.out,HY4S.out]) HY4O.out ?_;rw[←HW5.out])
       |fail)
      go_roundw
      case rel=>exact⟨k+1,O+ln,Na+lt,Fl,R.1,A4a,k4a,A4b,k4b,A4c,k4c,hlt,by go_num,by go_num,rfl,by go_num,HI2,S5,X5,R5,B5⟩
      case measure=>simp[intOf];omega
    ·obtain rfl:k=n:=by omega
     have hlti:¬(k:Int)<(k:Int):=by omega
     obtain⟨R,hR⟩:∃R,R=finP p:=⟨_,rfl⟩
     obtain⟨ln,hln⟩:∃l,l=R.2.length:=⟨_,rfl⟩
     obtain⟨f1,f2,_,f4⟩:=fin_good HI.out.g
     rw[←hR]at f2 f4
     rw[←hln]at f4
     have hfin:=HI.out.fin ln f4
     have hcl:Calls Tryz.prog 14 #[.agg X] wr fun e w'=>OutN wr w' e R.1 ln R.2 0:=by
      have h1:=HEE.out wr p Ah hc Aw wc Ap pc HPR.out hpl.1 hpl.2
      rw[HI.out.g.ask,←HXE.out,←hR]at h1
      exact h1.mono fun e w' h=>out_n h R.1 ln R.2 rfl hln
     have hms:=mayS_rng HI.out.g.sty
     rw[HI.out.em]at hms
     obtain⟨mN,rfl⟩:∃mN:Nat,m=(mN:Int):=⟨m.toNat,by omega⟩
     rw[Int.toNat_natCast]at hfin
     obtain⟨D,hD⟩:∃D,D=Na/mN:=⟨_,rfl⟩
     have hDn:D≤Na:=by rw[hD];exact Nat.div_le_self _ _
     have hm0:¬(mN:Int)=0:=by omega
     have hDi:(Na:Int)/(mN:Int)=(D:Int):=by rw[hD];rfl
     have hDt:(Na:Int).tdiv (mN:Int)=(D:Int):=by rw[hD];rfl
     rw[←hD]at hfin
     have hle:((O:Int)+(ln:Int))≤((Na:Int)+5*((Fl:Int)+(D:Int)+1)):=by omega
     have HCL:=Lib.hid hcl;have HF2:=Lib.hid f2
     clear hcl f1 f2 f4 hR hln hpl hms hD
     go_wp2_with (first
      |(refine wpList_load_row rfl _ _ rfl (gp) rfl _ X (0,0) _ HXB.out Tryz.underlying32 rfl (by rw[HXS.out];exact szPrs) ?_)
      |fail)
     refine HCL.out.mono ?_
     rintro e w4 ⟨A4a,k4a,A4b,k4b,A4c,k4c,A4d,k4d,rfl,r4,-,hb4⟩
     obtain⟨Y4,hY4⟩:∃Y,Y=prsA R.1 A4a k4a A4b k4b A4c k4c:=⟨_,rfl⟩
     have HY4S:Hid (Y4.size=9):=Lib.hid (by rw[hY4];rfl)
     have HY4O:Hid (Y4.all (·.oneCell')=true):=Lib.hid (by rw[hY4];exact prsA_one ..)
     have HY4N:Hid (NoB Y4):=Lib.hid (by rw[hY4];exact noB_prs _ _ _ _ _ _ _)
     have HY4E:=Lib.hid hY4
     obtain⟨W4,hW4⟩:∃W,W=mkV w4 Z Y4 32:=⟨_,rfl⟩
     have hx4:BoxC W4 w4.heap.size Y4 32:=by rw[hW4];exact mkV_row _ _ _ _
     have bw4:Below w4.heap.size w4 W4:=by rw[hW4];exact mkV_below _ _ _ _
     have bu4:Below wr.heap.size wr W4:=hb4.trans (bw4.mono hb4.size)
     have HR4:Hid (PrsR W4 W4.heap.size R.1 A4a k4a A4b k4b A4c k4c):=Lib.hid (r4.on bw4)
     have HW4:=Lib.hid hW4;have HX4:=Lib.hid hx4;have HBU4:=Lib.hid bu4
     rw[←hY4]
     clear hW4 hb4 r4 bw4 bu4 hY4 hx4
     have c8:W4.cell? ⟨w4.heap.size,8,none⟩=some (.bool true):=by rw[HX4.out.cell,HY4E.out,←HF2.out];rfl
     have HS4:=HSB.out.below HBU4.out HSB.out.lt
     have c2:W4.cell? ⟨w.heap.size,2,none⟩=some (.int .i64 (mN:Int)):=HS4.cell.trans rfl
     have HB4:=Lib.hid (HBW.out.trans (HBU4.out.mono HBW.out.size))
     clear HS4
     go_wp2_with (first
      |(refine wpList_store_rowTo rfl _ _ _ rfl rfl w4.heap.size Y4 rfl rfl 32 Z (heap_alloc_new w4 _) (by rw[HY4S.out];exact szPrs) (by rw[HZS.out,HY4S.out]) HY4O.out ?_;rw[show(w4.alloc (.cells Z 32)).setRow w4.heap.size Y4=mkV w4 Z Y4 32 from rfl,←HW4.out])
      |fail)
     go_ret
     exact⟨by go_num,HB4.out⟩
end Go.Proofs.YtokpcpjnihinfaaGreat
