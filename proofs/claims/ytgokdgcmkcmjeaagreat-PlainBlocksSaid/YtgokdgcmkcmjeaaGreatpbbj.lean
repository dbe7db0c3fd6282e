/-
  Words and walks.
-/
import Derived.Sort.QuietIn
import Derived.Test.YtgokdgcmkcmjeaaGreatpbab
import Derived.Test.YtgokdgcmkcmjeaaGreatpbai
import Derived.Test.YtgokdgcmkcmjeaaGreatpbak
import Derived.Test.YtgokdgcmkcmjeaaGreatpbal
import Derived.Test.YtgokdgcmkcmjeaaGreatpbar
import Derived.Test.YtgokdgcmkcmjeaaGreatpbat
import Derived.Test.YtgokdgcmkcmjeaaGreatpbaw
import Derived.Test.YtgokdgcmkcmjeaaGreatpbbi
set_option maxRecDepth 100000
set_option maxHeartbeats 16000000
namespace Go.Proofs.YtgokdgcmkcmjeaaGreat
open Go.RowKit
def blkI(kd:Nat)(last:Bool)(left:Int)(c1 c2:Nat→Int)(v1 v2:Value):Array Value:=(.int .u8 (kd:Int)::.bool last::.int .i64 left::(trL c1 v1++trL c2 v2)).toArray
theorem blkI_size(k:Nat)(b:Bool)(l:Int)(c1 c2:Nat→Int)(v1 v2:Value):(blkI k b l c1 c2 v1 v2).size=37:=by simp[blkI,trL,cntV]
theorem blkT_I(k:Nat)(b:Bool)(l:Nat)(c1 c2:Nat→Int)(v1 v2:Value):blkT k b l c1 c2 v1 v2=blkI k b (l:Int) c1 c2 v1 v2:=rfl
def emptyT(c:Nat→Int)(s:List Int):Bool:=sameT c (fun _=>0) s []
def MayI(kd:Nat)(left:Int)(c1:Nat→Int)(s1:List Int)(c2:Nat→Int)(s2:List Int):Prop:=
 (kd=0∧0≤left∧left≤65535∧emptyT c1 s1=true∧emptyT c2 s2=true)∨((kd=1∨kd=2)∧left=0∧(∃f,IsTree c1 s1 f)∧∃f,IsTree c2 s2 f)
theorem szTreeA(c:Nat→Int)(v:Value):(Tryz.prog.info? 26).map (·.size)=some (trL c v).length:=by
 rw[show(trL c v).length=17 by simp[trL,cntV]];kernel_rfl
theorem blkI_range{w:World}{b:Nat}{kd:Nat}{last:Bool}{left:Int}{c1 c2:Nat→Int}{v1 v2:Value}(h:BoxC w b (blkI kd last left c1 c2 v1 v2) 28):w.rangeAt b 3 (trL c1 v1)∧w.rangeAt b 20 (trL c2 v2):=by
 have hl:∀(c:Nat→Int) (v:Value),(trL c v).length=17:=fun c v=>by simp[trL,cntV]
 constructor
 ·intro j u hu
  have hj:j<17:=by rw[←hl c1 v1];exact(List.getElem?_eq_some_iff.1 hu).1
  rw[cell_of_row w b _ _ _ (0,0) h]
  show(blkI kd last left c1 c2 v1 v2)[3+j]?=some u
  unfold blkI
  rw[List.getElem?_toArray,Nat.add_comm 3 j]
  show((trL c1 v1++trL c2 v2):List Value)[j]?=some u
  rw[List.getElem?_append_left (by rw[hl];exact hj)];exact hu
 ·intro j u hu
  have hj:j<17:=by rw[←hl c2 v2];exact(List.getElem?_eq_some_iff.1 hu).1
  rw[cell_of_row w b _ _ _ (0,0) h]
  show(blkI kd last left c1 c2 v1 v2)[20+j]?=some u
  unfold blkI
  rw[List.getElem?_toArray,show 20+j=(j+17)+3 by omega]
  show((trL c1 v1++trL c2 v2):List Value)[j+17]?=some u
  rw[List.getElem?_append_right (by rw[hl];omega),hl,Nat.add_sub_cancel];exact hu
theorem built_treeZ:Tryz.prog.built 26 []=some (trL (fun _=>0) (.slice none 0 0)).toArray:=by kernel_rfl
theorem pempty_any(w:World)(c:Nat→Int)(v:Value)(s:List Int)(hv:RdS w w.heap.size v s)(hs:s.length≤1000000):
  Calls Tryz.prog 73 #[.agg (trL c v).toArray] w fun e w'=>e=.returned (.bool (emptyT c s))∧Below w.heap.size w w':=by
 obtain⟨b,hb⟩:∃b,b=w.heap.size:=⟨_,rfl⟩
 obtain⟨X,hX⟩:∃X,X=(trL c v).toArray:=⟨_,rfl⟩
 rw[←hX]
 have hXS:X.size=17:=by rw[hX];exact trA_size c v
 obtain⟨W1,hW1⟩:∃W1,W1=w.alloc (.cells X 26):=⟨_,rfl⟩
 have hb1:Below b w W1:=by rw[hW1,hb];exact(Below.refl _ _).alloc (Nat.le_refl _) _
 have x1:BoxC W1 b X 26:=by rw[hW1,hb];exact BoxC.new w _ _
 have hS:=tsame_any W1 c (fun _=>0) v (.slice none 0 0) s [] ((hv.below (hb▸hb1) (Nat.le_refl _)).more (hb▸hb1.size)) ⟨none,0,rfl,⟨rfl,fun h=>absurd h (by decide)⟩,fun _=>rfl,Nat.le_refl _,Nat.zero_le _⟩ hs (by decide)
 rw[show trA c v=X from hX.symm]at hS
 obtain⟨Z,hZ⟩:∃Z,Z=trA (fun _=>0) (.slice none 0 0):=⟨_,rfl⟩
 rw[←hZ]at hS
 have HZB:Hid (Tryz.prog.built 26 []=some Z):=Lib.hid (by rw[hZ];exact built_treeZ)
 have HS:=Lib.hid hS;have HX1:=Lib.hid x1;have HXS:=Lib.hid hXS;have HB1:Hid (Below w.heap.size w W1):=Lib.hid (hb▸hb1);have HW1:=Lib.hid hW1;have HB:=Lib.hid hb
 unfold emptyT
 obtain⟨r,hr⟩:∃r,r=sameT c (fun _=>0) s []:=⟨_,rfl⟩
 rw[←hr]at HS⊢
 clear hS x1 hXS hb1 hW1 hb hZ hX hv hs hr
 go_enter Tryz.func73,Tryz.ntmps73
 go_wp2_with (first
  |(rw[←HW1.out,←HB.out])
  |(refine wpList_buildTo rfl 26 #[] rfl (some 4) rfl Z ?_ ?_;focus(simpa[Act.eval]using HZB.out))
  |(refine wpList_load_row rfl _ _ rfl b rfl _ X (0,0) _ HX1.out Tryz.underlying26 rfl (szTree17 HXS.out) ?_)
  |fail)
 refine HS.out.mono ?_
 rintro e w2 ⟨rfl,hb2⟩
 have HB2:=Lib.hid (HB1.out.trans (hb2.mono HB1.out.size))
 clear hb2
 go_wp2
 go_ret
 exact⟨rfl,HB2.out⟩
theorem wpList_load_mid_on{P:Program}{ops:Array Oper}{rest:List Oper}{op:Oper}{a:Act}{w:World}{Q:Exit→Act→World→Prop}(hw:Region.wanted op (yielded ops a.tmps)=true)(ty:TypeId)(x:Operand)(ho:op.op=.load ty x)
  (b o:Nat) (hx:a.eval x=.pointer (some ⟨b,o,none⟩)) (cs:List Value) (d:TypeDesc) (hc:w.rangeAt b o cs)
  (hu:P.underlying ty=some d) (hd:d.isRow=true) (hi:(P.info? ty).map (·.size)=some cs.length)
  (h:wpList P ops Q rest (a.put op.dst (.agg cs.toArray)) w):wpList P ops Q (op::rest) a w:=
 wpList_on hw fun _ hK=>wp_load_mid ty x ho b o hx cs d hc hu hd hi (hK _ _ h)
theorem emptyF{c:Nat→Int}{s:List Int}(h:¬emptyT c s=true):emptyT c s=false:=by simpa using h
theorem pmay_any(w:World)(kd:Nat)(last:Bool)(left:Int)(c1 c2:Nat→Int)(v1 v2:Value)(s1 s2:List Int)(h1:RdS w w.heap.size v1 s1)(h2:RdS w w.heap.size v2 s2)(n1:s1.length≤1000000)(n2:s2.length≤1000000)(r:Bool)(hr:r=true↔MayI kd left c1 s1 c2 s2):
  Calls Tryz.prog 33 #[.agg (blkI kd last left c1 c2 v1 v2)] w fun e w'=>e=.returned (.bool r)∧Below w.heap.size w w':=by
 obtain⟨b,hb⟩:∃b,b=w.heap.size:=⟨_,rfl⟩
 obtain⟨X,hX⟩:∃X,X=blkI kd last left c1 c2 v1 v2:=⟨_,rfl⟩
 rw[←hX]
 obtain⟨W1,hW1⟩:∃W1,W1=w.alloc (.cells X 28):=⟨_,rfl⟩
 have hb1:Below b w W1:=by rw[hW1,hb];exact(Below.refl _ _).alloc (Nat.le_refl _) _
 have hsz:b<W1.heap.size:=by rw[hW1,World.size_alloc,hb];omega
 have x1:BoxC W1 b X 28:=by rw[hW1,hb];exact BoxC.new w _ _
 have a0:W1.cell? ⟨b,0,none⟩=some (.int .u8 (kd:Int)):=x1.cell.trans (by rw[hX];rfl)
 have a2:W1.cell? ⟨b,2,none⟩=some (.int .i64 left):=x1.cell.trans (by rw[hX];rfl)
 have hRA:∀W,Below W1.heap.size W1 W→W.rangeAt b 3 (trL c1 v1):=fun W hW=>(blkI_range (hX▸x1.below hW hsz)).1
 have hRB:∀W,Below W1.heap.size W1 W→W.rangeAt b 20 (trL c2 v2):=fun W hW=>(blkI_range (hX▸x1.below hW hsz)).2
 have hE1:=pempty_any W1 c1 v1 s1 ((h1.below (hb▸hb1) (Nat.le_refl _)).more (hb▸hb1.size)) n1
 have hE2:=fun W (hW:Below W1.heap.size W1 W)=>pempty_any W c2 v2 s2 ((((h2.below (hb▸hb1) (Nat.le_refl _)).more (hb▸hb1.size)).below hW (Nat.le_refl _)).more hW.size) n2
 have hC1:=tchk_any W1 c1 v1 s1 ((h1.below (hb▸hb1) (Nat.le_refl _)).more (hb▸hb1.size)) n1
 have hC2:=fun W (hW:Below W1.heap.size W1 W)=>tchk_any W c2 v2 s2 ((((h2.below (hb▸hb1) (Nat.le_refl _)).more (hb▸hb1.size)).below hW (Nat.le_refl _)).more hW.size) n2
 have HB1:Hid (Below w.heap.size w W1):=Lib.hid (hb▸hb1)
 have HE1:=Lib.hid hE1;have HE2:=Lib.hid hE2;have HC1:=Lib.hid hC1;have HC2:=Lib.hid hC2;have HW1:=Lib.hid hW1;have HB:=Lib.hid hb;have HRA:=Lib.hid (hRA W1 (Below.refl _ _));have HRB:=Lib.hid hRB
 clear hX hW1 hb1 hsz x1 hRA hRB hE1 hE2 hC1 hC2 hb h1 h2 n1 n2
 by_cases k0:kd=0
 ·have d0:((kd:Int)==0)=true:=by rw[k0];rfl
  by_cases y1:0≤left
  ·have e1:decide (0≤left)=true:=decide_eq_true y1
   by_cases y2:left≤65535
   ·have e2:decide (left≤65535)=true:=decide_eq_true y2
    by_cases y3:emptyT c1 s1=true
    ·rw[y3]at HE1
     obtain⟨q,hq⟩:∃q,q=emptyT c2 s2:=⟨_,rfl⟩
     rw[←hq]at HE2
     have hrq:r=q:=Bool.eq_iff_iff.2 ⟨fun h=>by
      rcases hr.1 h with⟨_,_,_,_,h5⟩|⟨h1,_⟩
      ·rw[hq];exact h5
      ·omega,fun h=>hr.2 (.inl ⟨k0,y1,y2,y3,by rw[←hq];exact h⟩)⟩
     subst hrq
     clear hr k0 y1 y2 y3 hq HC1 HC2
     go_enter Tryz.func33,Tryz.ntmps33
     go_wp2_with (first
      |(rw[←HW1.out,←HB.out])
      |(refine wpList_load_mid_on (by rfl) _ _ rfl b 3 rfl (trL c1 v1) _ HRA.out Tryz.underlying26 rfl (szTreeA _ _) ?_)
      |fail)
     refine HE1.out.mono ?_
     rintro e w2 ⟨rfl,hb2⟩
     have HB2:=Lib.hid (HB1.out.trans (hb2.mono HB1.out.size))
     have HRB2:=Lib.hid (HRB.out w2 hb2)
     have HE22:=HE2.out w2 hb2
     have HE3:=Lib.hid HE22
     clear hb2 HE2 HRB HE22
     go_wp2_with (first
      |(refine wpList_load_mid_on (by rfl) _ _ rfl b 20 rfl (trL c2 v2) _ HRB2.out Tryz.underlying26 rfl (szTreeA _ _) ?_)
      |fail)
     refine HE3.out.mono ?_
     rintro e w3 ⟨rfl,hb3⟩
     have HB3:=Lib.hid (HB2.out.trans (hb3.mono HB2.out.size))
     clear hb3 HE3 HB2
     go_wp2
     go_ret
     exact⟨rfl,HB3.out⟩
    ·have y3':=emptyF y3
     rw[y3']at HE1
     have hrq:r=false:=Bool.eq_false_iff.2 fun h=>by
      rcases hr.1 h with⟨_,_,_,h4,_⟩|⟨h1,_⟩
      ·exact y3 h4
      ·omega
     subst hrq
     clear hr k0 y1 y2 y3 y3' HC1 HC2
     go_enter Tryz.func33,Tryz.ntmps33
     go_wp2_with (first
      |(rw[←HW1.out,←HB.out])
      |(refine wpList_load_mid_on (by rfl) _ _ rfl b 3 rfl (trL c1 v1) _ HRA.out Tryz.underlying26 rfl (szTreeA _ _) ?_)
      |fail)
     refine HE1.out.mono ?_
     rintro e w2 ⟨rfl,hb2⟩
     have HB2:=Lib.hid (HB1.out.trans (hb2.mono HB1.out.size))
     clear hb2
     go_wp2
     go_ret
     exact⟨rfl,HB2.out⟩
   ·have e2:decide (left≤65535)=false:=decide_eq_false y2
    have hrq:r=false:=Bool.eq_false_iff.2 fun h=>by
     rcases hr.1 h with⟨_,_,h4,_⟩|⟨h1,_⟩
     ·exact y2 h4
     ·omega
    subst hrq
    clear hr k0 y1 y2
    go_enter Tryz.func33,Tryz.ntmps33
    go_wp2_with (first|(rw[←HW1.out,←HB.out])|fail)
    go_ret
    exact⟨rfl,HB1.out⟩
  ·have e1:decide (0≤left)=false:=decide_eq_false y1
   have hrq:r=false:=Bool.eq_false_iff.2 fun h=>by
    rcases hr.1 h with⟨_,h4,_⟩|⟨h1,_⟩
    ·exact y1 h4
    ·omega
   subst hrq
   clear hr k0 y1
   go_enter Tryz.func33,Tryz.ntmps33
   go_wp2_with (first|(rw[←HW1.out,←HB.out])|fail)
   go_ret
   exact⟨rfl,HB1.out⟩
 have d0:((kd:Int)==0)=false:=beq_eq_false_iff_ne.2 (by omega)
 by_cases k1:kd=1∨kd=2
 ·have d1:((kd:Int)==1)=true∧kd=1∨((kd:Int)==1)=false∧((kd:Int)==2)=true:=by
   rcases k1 with rfl|rfl
   ·exact .inl ⟨rfl,rfl⟩
   ·exact .inr ⟨rfl,rfl⟩
  by_cases y1:left=0
  ·subst y1
   have e1:((0:Int)==0)=true:=rfl
   by_cases y2:∃f,IsTree c1 s1 f
   ·have c1k:Calls Tryz.prog 74 #[.agg (trL c1 v1).toArray] W1 fun e w'=>e=.returned (.int .i64 0)∧Below W1.heap.size W1 w':=HC1.out.mono fun e w' h=>⟨by
     rcases h.1 with h3|h3
     ·exact h3.2
     ·exact absurd y2.choose_spec (h3.1 _),h.2⟩
    have HC1':=Lib.hid c1k
    obtain⟨q,hq⟩:∃q:Bool,(q=true↔∃f,IsTree c2 s2 f):=by
     rcases Classical.em (∃f,IsTree c2 s2 f)with h|h
     ·exact⟨true,by simp[h]⟩
     ·exact⟨false,by simp[h]⟩
    obtain⟨x,hx⟩:∃x:Int,x=if q=true then 0 else 8:=⟨_,rfl⟩
    have hxq:(x==0)=q:=by rw[hx];cases q<;>rfl
    have c2k:∀W,Below W1.heap.size W1 W→Calls Tryz.prog 74 #[.agg (trL c2 v2).toArray] W fun e w'=>e=.returned (.int .i64 x)∧Below W.heap.size W w':=fun W hW=>(HC2.out W hW).mono fun e w' h=>⟨by
     rcases h.1 with h3|h3
     ·rw[hx,if_pos (hq.2 h3.1)];exact h3.2
     ·rw[hx,if_neg (fun h4=>(h3.1 _) (hq.1 h4).choose_spec)];exact h3.2,h.2⟩
    have HC2':=Lib.hid c2k
    have hrq:r=q:=Bool.eq_iff_iff.2 ⟨fun h=>by
     rcases hr.1 h with⟨h1,_⟩|⟨_,_,_,h5⟩
     ·omega
     ·exact hq.2 h5,fun h=>hr.2 (.inr ⟨k1,rfl,y2,hq.1 h⟩)⟩
    subst hrq
    clear hr k0 k1 y2 hq hx c1k c2k HC1 HC2 HE1 HE2
    rcases d1 with⟨d1,_⟩|⟨d1,d2⟩
    ·go_enter Tryz.func33,Tryz.ntmps33
     go_wp2_with (first
      |(rw[←HW1.out,←HB.out])
      |(refine wpList_load_mid_on (by rfl) _ _ rfl b 3 rfl (trL c1 v1) _ HRA.out Tryz.underlying26 rfl (szTreeA _ _) ?_)
      |fail)
     refine HC1'.out.mono ?_
     rintro e w2 ⟨rfl,hb2⟩
     have HB2:=Lib.hid (HB1.out.trans (hb2.mono HB1.out.size))
     have HRB2:=Lib.hid (HRB.out w2 hb2)
     have HE22:=HC2'.out w2 hb2
     have HE3:=Lib.hid HE22
     clear hb2 HC2' HRB HE22
     go_wp2_with (first
      |(refine wpList_load_mid_on (by rfl) _ _ rfl b 20 rfl (trL c2 v2) _ HRB2.out Tryz.underlying26 rfl (szTreeA _ _) ?_)
      |fail)
     refine HE3.out.mono ?_
     rintro e w3 ⟨rfl,hb3⟩
     have HB3:=Lib.hid (HB2.out.trans (hb3.mono HB2.out.size))
     clear hb3 HE3 HB2
     go_wp2
     go_ret
     exact⟨rfl,HB3.out⟩
    ·go_enter Tryz.func33,Tryz.ntmps33
     go_wp2_with (first
      |(rw[←HW1.out,←HB.out])
      |(refine wpList_load_mid_on (by rfl) _ _ rfl b 3 rfl (trL c1 v1) _ HRA.out Tryz.underlying26 rfl (szTreeA _ _) ?_)
      |fail)
     refine HC1'.out.mono ?_
     rintro e w2 ⟨rfl,hb2⟩
     have HB2:=Lib.hid (HB1.out.trans (hb2.mono HB1.out.size))
     have HRB2:=Lib.hid (HRB.out w2 hb2)
     have HE22:=HC2'.out w2 hb2
     have HE3:=Lib.hid HE22
     clear hb2 HC2' HRB HE22
     go_wp2_with (first
      |(refine wpList_load_mid_on (by rfl) _ _ rfl b 20 rfl (trL c2 v2) _ HRB2.out Tryz.underlying26 rfl (szTreeA _ _) ?_)
      |fail)
     refine HE3.out.mono ?_
     rintro e w3 ⟨rfl,hb3⟩
     have HB3:=Lib.hid (HB2.out.trans (hb3.mono HB2.out.size))
     clear hb3 HE3 HB2
     go_wp2
     go_ret
     exact⟨rfl,HB3.out⟩
   ·have c1k:Calls Tryz.prog 74 #[.agg (trL c1 v1).toArray] W1 fun e w'=>e=.returned (.int .i64 8)∧Below W1.heap.size W1 w':=HC1.out.mono fun e w' h=>⟨by
     rcases h.1 with h3|h3
     ·exact absurd h3.1 y2
     ·exact h3.2,h.2⟩
    have HC1':=Lib.hid c1k
    have hx8:((8:Int)==0)=false:=rfl
    have hrq:r=false:=Bool.eq_false_iff.2 fun h=>by
     rcases hr.1 h with⟨h1,_⟩|⟨_,_,h4,_⟩
     ·omega
     ·exact y2 h4
    subst hrq
    clear hr k0 k1 y2 c1k HC1 HC2 HE1 HE2
    rcases d1 with⟨d1,_⟩|⟨d1,d2⟩
    ·go_enter Tryz.func33,Tryz.ntmps33
     go_wp2_with (first
      |(rw[←HW1.out,←HB.out])
      |(refine wpList_load_mid_on (by rfl) _ _ rfl b 3 rfl (trL c1 v1) _ HRA.out Tryz.underlying26 rfl (szTreeA _ _) ?_)
      |fail)
     refine HC1'.out.mono ?_
     rintro e w2 ⟨rfl,hb2⟩
     have HB2:=Lib.hid (HB1.out.trans (hb2.mono HB1.out.size))
     clear hb2
     go_wp2
     go_ret
     exact⟨rfl,HB2.out⟩
    ·go_enter Tryz.func33,Tryz.ntmps33
     go_wp2_with (first
      |(rw[←HW1.out,←HB.out])
      |(refine wpList_load_mid_on (by rfl) _ _ rfl b 3 rfl (trL c1 v1) _ HRA.out Tryz.underlying26 rfl (szTreeA _ _) ?_)
      |fail)
     refine HC1'.out.mono ?_
     rintro e w2 ⟨rfl,hb2⟩
     have HB2:=Lib.hid (HB1.out.trans (hb2.mono HB1.out.size))
     clear hb2
     go_wp2
     go_ret
     exact⟨rfl,HB2.out⟩
  ·have e1:(left==0)=false:=beq_eq_false_iff_ne.2 y1
   have hrq:r=false:=Bool.eq_false_iff.2 fun h=>by
    rcases hr.1 h with⟨h1,_⟩|⟨_,h4,_⟩
    ·omega
    ·exact y1 h4
   subst hrq
   clear hr k0 k1 y1
   rcases d1 with⟨d1,_⟩|⟨d1,d2⟩
   ·go_enter Tryz.func33,Tryz.ntmps33
    go_wp2_with (first|(rw[←HW1.out,←HB.out])|fail)
    go_ret
    exact⟨rfl,HB1.out⟩
   ·go_enter Tryz.func33,Tryz.ntmps33
    go_wp2_with (first|(rw[←HW1.out,←HB.out])|fail)
    go_ret
    exact⟨rfl,HB1.out⟩
 ·have d1:((kd:Int)==1)=false:=beq_eq_false_iff_ne.2 (by omega)
  have d2:((kd:Int)==2)=false:=beq_eq_false_iff_ne.2 (by omega)
  have hrq:r=false:=Bool.eq_false_iff.2 fun h=>by
   rcases hr.1 h with⟨h1,_⟩|⟨h4,_⟩
   ·omega
   ·exact k1 h4
  subst hrq
  clear hr k0 k1
  go_enter Tryz.func33,Tryz.ntmps33
  go_wp2_with (first|(rw[←HW1.out,←HB.out])|fail)
  go_ret
  exact⟨rfl,HB1.out⟩
def chkI(r:Bool):Int:=if r=true then 0 else 8
theorem pcheck13_any(w:World)(kd:Nat)(last:Bool)(left:Int)(c1 c2:Nat→Int)(v1 v2:Value)(s1 s2:List Int)(h1:RdS w w.heap.size v1 s1)(h2:RdS w w.heap.size v2 s2)(n1:s1.length≤1000000)(n2:s2.length≤1000000)(r:Bool)(hr:r=true↔MayI kd left c1 s1 c2 s2):
  Calls Tryz.prog 13 #[.agg (blkI kd last left c1 c2 v1 v2)] w fun e w'=>e=.returned (.int .i64 (chkI r))∧Below w.heap.size w w':=by
 obtain⟨b,hb⟩:∃b,b=w.heap.size:=⟨_,rfl⟩
 obtain⟨X,hX⟩:∃X,X=blkI kd last left c1 c2 v1 v2:=⟨_,rfl⟩
 have hXS:X.size=37:=by rw[hX];exact blkI_size ..
 obtain⟨W1,hW1⟩:∃W1,W1=w.alloc (.cells X 28):=⟨_,rfl⟩
 have hb1:Below b w W1:=by rw[hW1,hb];exact(Below.refl _ _).alloc (Nat.le_refl _) _
 have x1:BoxC W1 b X 28:=by rw[hW1,hb];exact BoxC.new w _ _
 have hM:=pmay_any W1 kd last left c1 c2 v1 v2 s1 s2 ((h1.below (hb▸hb1) (Nat.le_refl _)).more (hb▸hb1.size)) ((h2.below (hb▸hb1) (Nat.le_refl _)).more (hb▸hb1.size)) n1 n2 r hr
 rw[←hX]at hM⊢
 have HB1:Hid (Below w.heap.size w W1):=Lib.hid (hb▸hb1)
 have HM:=Lib.hid hM;have HX1:=Lib.hid x1;have HXS:=Lib.hid hXS;have HW1:=Lib.hid hW1;have HB:=Lib.hid hb
 clear hM hX hW1 hb1 x1 hb h1 h2 n1 n2 hXS hr
 cases r
 all_goals(
  go_enter Tryz.func13,Tryz.ntmps13
  go_wp2_with (first
   |(rw[←HW1.out,←HB.out])
   |(refine wpList_load_row rfl _ _ rfl b rfl _ X (0,0) _ HX1.out Tryz.underlying28 rfl (szBlkT X HXS.out) ?_)
   |fail)
  refine HM.out.mono ?_
  rintro e w2 ⟨rfl,hb2⟩
  have HB2:=Lib.hid (HB1.out.trans (hb2.mono HB1.out.size))
  clear hb2
  go_wp2
  go_ret
  exact⟨rfl,HB2.out⟩)
end Go.Proofs.YtgokdgcmkcmjeaaGreat
namespace Go.Proofs.YtgokdgcmkcmjeaaGreat
open Go.RowKit
def offK(l:List Oper)(k:Nat)(t:Tmp):Bool:=(List.range l.length).all fun j=>match (l[j]?).bind (·.dst)with
 |some d=>d !=t||j==k||Region.waitsFor .any l.toArray j k
 |none=>true
theorem offK_is{l:List Oper}{k:Nat}{t:Tmp}(h:offK l k t=true){j:Nat}{d:Tmp}(hd:(l[j]?).bind (·.dst)=some d)(e:d=t):j=k∨Region.waitsFor .any l.toArray j k=true:=by
 have hj:j<l.length:=by
  cases hl:l[j]? with
  |none=>rw[hl]at hd;cases hd
  |some y=>exact(List.getElem?_eq_some_iff.1 hl).1
 have h1:=List.all_eq_true.1 h j (List.mem_range.2 hj)
 rw[hd]at h1
 simp only[Bool.or_eq_true,bne_iff_ne,ne_eq,beq_iff_eq]at h1
 rcases h1 with(h1|h1)|h1
 ·exact absurd e h1
 ·exact .inl h1
 ·exact .inr h1
def TwStepK(P:Program)(l:List Oper)(T:Nat→Value→Prop)(a0:Act)(W0 W1:World)(s k:Nat)(o:Oper):Prop:=
 ∀(a:Act) (w:World),(w=W0∨(w=W1∧k≠s∧Region.waitsFor .any l.toArray s k=false))→(∀t,offK l k t=true→a.eval (.tmp t)=a0.eval (.tmp t))→(∀j d,Region.waitsFor .any l.toArray k j=true→(l[j]?).bind (·.dst)=some d→T j (a.eval (.tmp d)))→
  ∀(K:Act→World→Prop) (Q:Exit→Act→World→Prop),(∀v,T k v→K (a.put o.dst v) (if k=s then W1 else w))→if Region.wanted o (yielded l.toArray a.tmps)=true then Oper.wp P o a w K Q else K (a.put o.dst undef) w
def TwAllK(P:Program)(l:List Oper)(T:Nat→Value→Prop)(a0:Act)(W0 W1:World)(s:Nat):Nat→List Oper→Prop
 |_,[]=>True
 |k,o::r=>TwStepK P l T a0 W0 W1 s k o∧TwAllK P l T a0 W0 W1 s (k+1) r
theorem TwAllK.get{P:Program}{l:List Oper}{T:Nat→Value→Prop}{a0:Act}{W0 W1:World}{s:Nat}:∀{r:List Oper} {k:Nat},TwAllK P l T a0 W0 W1 s k r→∀{j:Nat} {o:Oper},r[j]?=some o→TwStepK P l T a0 W0 W1 s (k+j) o
 |[],_,_,_,_,h=>by cases h
 |_::_,k,hA,0,_,h=>by cases h;exact hA.1
 |_::r,k,hA,j+1,o,h=>by
  have:=TwAllK.get (r:=r) hA.2 (j:=j) (by simpa using h)
  rw[show k+1+j=k+(j+1) by omega]at this
  exact this
theorem tw_anyK{P:Program}{Q:Exit→Act→World→Prop}{a0:Act}{W0 W1:World}{l:List Oper}{T:Nat→Value→Prop}{s:Nat}(hs:s<l.length)(hB:tabB l a0.tmps.size=true)(hstep:TwAllK P l T a0 W0 W1 s 0 l)
  (hend:∀listed a w,TwInv l T a0 W0 W1 s listed a w→(∀i,i<l.length→listed.getD i false=true)→Q .normal a w):
  ∀(f:Nat) (listed:Array Bool) (a:Act) (w:World),((List.range l.length).filter fun i=> !listed.getD i false).length=f→TwInv l T a0 W0 W1 s listed a w→wpAny P .any l.toArray Q f listed a w:=by
 have hB':=hB
 simp only[tabB,Bool.and_eq_true,decide_eq_true_eq]at hB'
 obtain⟨⟨hnd,hin⟩,hlow⟩:=hB'
 have hall:∀(listed:Array Bool),listed.size=l.length→Region.ready .any l.toArray listed=[]→∀i,i<l.length→listed.getD i false=true:=fun listed hsz hr i=>by
  induction i using Nat.strongRecOn with
  |_ i ih=>
   intro hi
   cases hu:listed.getD i false with
   |true=>rfl
   |false=>
    exfalso
    have h1:=List.all_eq_true.1 hlow i (List.mem_range.2 hi)
    have hoi:l[i]?=some l[i]:=List.getElem?_eq_getElem hi
    simp only[hoi]at h1
    have:i∈Region.ready .any l.toArray listed:=mem_ready.2 ⟨getD_in (by omega) hu,l[i],by simp[hi],fun e he hb=>by
     have h2:=Array.all_eq_true_iff_forall_mem.1 h1 e he
     simp only[hb,Bool.not_true,Bool.false_or,decide_eq_true_eq]at h2
     exact ih e.on h2 (by omega)⟩
    rw[hr]at this;cases this
 intro f
 induction f with
 |zero=>
  intro listed a w hf inv
  have hup:∀i,i<l.length→listed.getD i false=true:=fun i hi=>by
   have h0:=List.length_eq_zero_iff.1 hf
   have h1:=List.filter_eq_nil_iff.1 h0 i (List.mem_range.2 hi)
   simpa using h1
  refine⟨?_,hend listed a w inv hup⟩
  apply List.eq_nil_iff_forall_not_mem.2
  intro i hi
  obtain⟨h0,o,ho,_⟩:=mem_ready.1 hi
  have hlt:i<l.length:=by have:=(Array.getElem?_eq_some_iff.1 ho).1;simpa using this
  have h1:=hup i hlt
  rw[getD_both h0]at h1;cases h1
 |succ f ih=>
  intro listed a w hf inv
  refine⟨fun h0=>hend listed a w inv (hall listed inv.size h0),fun k hk=>?_⟩
  obtain⟨h0,o,ho,hafter⟩:=mem_ready.1 hk
  have hol:l[k]?=some o:=by simpa using ho
  have hlt:k<l.length:=(List.getElem?_eq_some_iff.1 hol).1
  have hst:TwStepK P l T a0 W0 W1 s k o:=by have:=hstep.get hol;rwa[Nat.zero_add]at this
  have heval:∀t,offK l k t=true→a.eval (.tmp t)=a0.eval (.tmp t):=fun t ht=>by
   show a.tmps.getD t undef=a0.tmps.getD t undef
   rw[Array.getD_eq_getD_getElem?,Array.getD_eq_getD_getElem?,inv.off t (fun j d hl hd e=>?_)]
   rcases offK_is ht hd e with e1|hw
   ·subst e1;rw[getD_both h0]at hl;cases hl
   ·obtain⟨oj,hoj,e,he,hb,hon⟩:=Region.waitsFor_spec hw
    have:=inv.closed j oj (by simpa using hoj) hl e he hb
    rw[hon,getD_both h0]at this;cases this
  have hfacts:∀j d,Region.waitsFor .any l.toArray k j=true→(l[j]?).bind (·.dst)=some d→T j (a.eval (.tmp d)):=fun j d hw hd=>by
   obtain⟨ok,hok,e,he,hb,hon⟩:=Region.waitsFor_spec hw
   rw[ho]at hok;cases hok
   exact inv.told j d (by have:=hafter e he hb;rwa[hon]at this) hd
  have hdlt:∀d,o.dst=some d→d<a.tmps.size:=fun d hd=>by
   have h1:=List.all_eq_true.1 hin o (List.mem_of_getElem? hol)
   simp only[hd,decide_eq_true_eq]at h1
   rw[inv.tmps];exact h1
  have hw01:w=W0∨(w=W1∧k≠s∧Region.waitsFor .any l.toArray s k=false):=by
   cases hls:listed.getD s false with
   |false=>left;have:=inv.world;rw[hls]at this;simpa using this
   |true=>
    right
    refine⟨by have:=inv.world;rw[hls]at this;simpa using this,fun e=>?_,?_⟩
    ·subst e;rw[getD_both h0]at hls;cases hls
    ·cases hw:Region.waitsFor .any l.toArray s k with
     |false=>rfl
     |true=>
      exfalso
      obtain⟨os,hos,e,he,hb,hon⟩:=Region.waitsFor_spec hw
      have:=inv.closed s os (by simpa using hos) hls e he hb
      rw[hon,getD_both h0]at this;cases this
  have hgo:=hst a w hw01 heval hfacts (wpAny P .any l.toArray Q f (listed.setIfInBounds k true)) Q (fun v hv=>by
   refine ih _ _ _ ?_ ⟨by simp[inv.size],?_,?_,fun t ht=>?_,fun j d hl hd=>?_,fun j oj hj hl e he hb=>?_,?_⟩
   ·have hfe:((List.range l.length).filter fun i=> !(listed.setIfInBounds k true).getD i false)=((List.range l.length).filter fun i=> !listed.getD i false).erase k:=by
     rw[List.Nodup.erase_eq_filter (List.nodup_range.filter _),List.filter_filter]
     apply List.filter_congr
     intro x hx
     by_cases e:x=k
     ·subst e
      have:x<listed.size:=by rw[inv.size];exact hlt
      simp[this]
     ·rw[getD_set_ne false (Ne.symm e)];simp[e]
    rw[hfe,List.length_erase_of_mem (List.mem_filter.2 ⟨List.mem_range.2 hlt,by rw[getD_both h0];rfl⟩),hf];rfl
   ·unfold Act.put;cases o.dst<;>simp[inv.tmps]
   ·unfold Act.put;cases o.dst<;>exact inv.defers
   ·rw[←inv.off t (fun j d hl hd=>ht j d (getD_set_true hl) hd)]
    unfold Act.put
    cases hd:o.dst with
    |none=>rfl
    |some d=>
     have e:d≠t:=ht k d (by have:k<listed.size:=(by rw[inv.size];exact hlt);simp[this]) (by rw[hol];simpa using hd)
     simp[Array.getElem?_setIfInBounds_ne e]
   ·by_cases e:j=k
    ·subst e
     rw[hol]at hd
     have hd':o.dst=some d:=by simpa using hd
     have hlt2:=hdlt d hd'
     have he:(a.put o.dst v).eval (.tmp d)=v:=by rw[hd'];simp[Act.put,Act.eval,hlt2]
     rw[he];exact hv
    ·rw[getD_set_ne false (Ne.symm e)]at hl
     have h1:=inv.told j d hl hd
     have he:(a.put o.dst v).eval (.tmp d)=a.eval (.tmp d):=Act.eval_put fun d' hd' hx=>by
      cases hx
      cases hj:l[j]? with
      |none=>rw[hj]at hd;cases hd
      |some y=>
       rw[hj]at hd
       exact e (tab_dst hnd hj hol (by simpa using hd) hd')
     rw[he];exact h1
   ·by_cases e':j=k
    ·subst e'
     rw[hol]at hj;cases hj
     exact getD_set_true (hafter e he hb)
    ·rw[getD_set_ne false (Ne.symm e')]at hl
     exact getD_set_true (inv.closed j oj hj hl e he hb)
   ·by_cases e:k=s
    ·subst e
     have:k<listed.size:=by rw[inv.size];exact hlt
     rw[if_pos rfl];simp[this]
    ·rw[if_neg e,getD_set_ne false e];exact inv.world)
  unfold wpOp
  simp only[ho]
  split at hgo
  ·rename_i hw;rw[if_pos hw];exact .inl hgo
  ·rename_i hw;rw[if_neg hw];exact hgo
theorem wp_region_twoK{P:Program}{id:Nat}{Q:Exit→Act→World→Prop}{a0:Act}{w0:World}{l:List Oper}(s:Nat)(T:Nat→Value→Prop)(W1:World)(hm:P.follows .mixedOrders=true)(hs:(decide (s<l.length)&&tabB l a0.tmps.size)=true)
  (hstep:TwAllK P l T a0 w0.drew W1 s 0 l)
  (hend:∀(vals:Tmp→Value),(∀j d,(l[j]?).bind (·.dst)=some d→T j (vals d))→Q .normal (putL (l.map (·.dst)) vals a0) W1):(Code.region id l.toArray true).wp P Q a0 w0:=by
 simp only[Bool.and_eq_true,decide_eq_true_eq]at hs
 obtain⟨hsl,hB⟩:=hs
 refine wp_region_any hm ?_
 have hl0:∀i,(Array.replicate l.toArray.size false).getD i false=false:=fun i=>getD_replicate_false _ _
 refine tw_anyK (T:=T) hsl hB hstep (fun listed a w inv hup=>?_) l.toArray.size _ _ _ ?_ ⟨by simp,rfl,rfl,fun _ _=>rfl,(fun j d h _=>by rw[hl0]at h;cases h),(fun j oj _ h=>by rw[hl0]at h;cases h),by rw[hl0];rfl⟩
 ·have ha:a=putL (l.map (·.dst)) (fun d=>a.eval (.tmp d)) a0:=by
   have ht:a.tmps=(putL (l.map (·.dst)) (fun d=>a.eval (.tmp d)) a0).tmps:=by
    apply Array.ext_getElem?
    intro t
    by_cases ht:some t∈l.map (·.dst)
    ·obtain⟨o,ho,hd⟩:=List.mem_map.1 ht
     simp only[tabB,Bool.and_eq_true,decide_eq_true_eq]at hB
     have h1:=List.all_eq_true.1 hB.1.2 o ho
     simp only[hd,decide_eq_true_eq]at h1
     rw[putL_in _ _ _ t (.inl ht) h1]
     have h2:t<a.tmps.size:=by rw[inv.tmps];exact h1
     simp[Act.eval,h2]
    ·rw[putL_out _ _ _ t ht]
     refine inv.off t (fun j d _ hd e=>ht ?_)
     cases hj:l[j]? with
     |none=>rw[hj]at hd;cases hd
     |some y=>
      rw[hj]at hd
      exact List.mem_map.2 ⟨y,List.mem_of_getElem? hj,by rw[←e];simpa using hd⟩
   have hdf:a.defers=(putL (l.map (·.dst)) (fun d=>a.eval (.tmp d)) a0).defers:=by rw[putL_defers];exact inv.defers
   cases a with
   |mk t df=>
    generalize hp:putL (l.map (·.dst)) (fun d=>(Act.mk t df).eval (.tmp d)) a0=p at*
    cases p with
    |mk t2 df2=>simp only at ht hdf;rw[ht,hdf]
  have hw:=inv.world
  rw[if_pos (hup s hsl)]at hw
  rw[ha,hw]
  refine hend _ fun j d hd=>?_
  refine inv.told j d (hup j ?_) hd
  cases hj:l[j]? with
  |none=>rw[hj]at hd;cases hd
  |some _=>exact(List.getElem?_eq_some_iff.1 hj).1
 ·rw[List.filter_eq_self.2 (fun i _=>by rw[hl0];rfl)];simp
theorem TwAllK.nil{P:Program}{l:List Oper}{T:Nat→Value→Prop}{a0:Act}{W0 W1:World}{s k:Nat}:TwAllK P l T a0 W0 W1 s k []:=trivial
theorem TwAllK.cons{P:Program}{l:List Oper}{T:Nat→Value→Prop}{a0:Act}{W0 W1:World}{s k:Nat}{o:Oper}{r:List Oper}(h:TwStepK P l T a0 W0 W1 s k o)(hr:TwAllK P l T a0 W0 W1 s (k+1) r):TwAllK P l T a0 W0 W1 s k (o::r):=⟨h,hr⟩
end Go.Proofs.YtgokdgcmkcmjeaaGreat
namespace Go.Proofs.YtgokdgcmkcmjeaaGreat
open Go.RowKit
def ReadsB(k:Blk13)(kd:Nat)(last:Bool)(left:Int)(c1:Nat→Int)(s1:List Int)(c2:Nat→Int)(s2:List Int):Prop:=
 k.kind=kd∧k.last=last∧(k.left:Int)=left∧k.left≤65535∧k.n≤320∧k.m≤320∧(kd≠0→IsTree c1 s1 (extF k.n k.F)∧IsTree c2 s2 (extF k.m k.G))
def stpQ(g:Nat→Nat)(l:Nat)(a:Int)(r:Bool)(k:Blk13):Tok×Bool×Nat×Int:=
 if asked13 l a≠0 then(tokZ,false,0,asked13 l a)else if r=false then(tokZ,false,0,8)else nextR k g l a.toNat
theorem infoTokZ:(Tryz.prog.info? 36).map (fun i=>(i.zero,i.size))=some (some (.agg #[.int .u8 0,.int .i64 0,.int .i64 0]),3):=by kernel_rfl
theorem cell_tok4{fn:Func}{p u v x:Tmp}(h:fn.results=#[.cell p 36,.tmp u,.tmp v,.tmp x])(tmps:Array Value)(w:World)(g:Nat)(cs:Array Value)(hs:cs.size=3)(hp:tmps.getD p undef=.pointer (some ⟨g,0,none⟩))(ht:w.heap[g]?=some (.cells cs 36 (0,0))):
  (results fn tmps).run Tryz.prog w=.ok (.tuple #[.agg cs,tmps.getD u undef,tmps.getD v undef,tmps.getD x undef]) w:=by
 have hp':tmps[p]?.getD undef=.pointer (some ⟨g,0,none⟩):=by simpa using hp
 have hl:=run_loadVar_row (P:=Tryz.prog) w g 36 36 cs (0,0) _ ht Tryz.underlying36 rfl (by rw[hs];exact szTok)
 simp[results,h,hp',asAddr,hl]
theorem nxt_errD{n:Int}{y:Int×Nat×Int}(h:(nxtD n y).2.2.2≠0):nxtD n y=(tokZ,false,0,(nxtD n y).2.2.2):=by
 unfold nxtD at h⊢
 by_cases h1:y.2.2≠0
 ·rw[if_pos h1]
 ·rw[if_neg h1]at h;exact absurd rfl h
theorem nxt_errC{n:Int}{r:Nat×Nat×Int}{g:Nat→Nat}{L:Nat}(h:(nxtC n r g L).2.2.2≠0):nxtC n r g L=(tokZ,false,0,(nxtC n r g L).2.2.2):=by
 unfold nxtC at h⊢
 by_cases h1:r.2.2≠0
 ·rw[if_pos h1]
 ·rw[if_neg h1]at h⊢;exact nxt_errD h
theorem nxt_errB{k:Blk13}{x:Int×Nat×Int}{g:Nat→Nat}{L:Nat}(h:(nxtB k x g L).2.2.2≠0):nxtB k x g L=(tokZ,false,0,(nxtB k x g L).2.2.2):=by
 unfold nxtB at h⊢
 by_cases h1:x.2.2≠0
 ·rw[if_pos h1]
 ·rw[if_neg h1]at h⊢;exact nxt_errC h
theorem nxt_errA{k:Blk13}{r:Nat×Nat×Int}{g:Nat→Nat}{L:Nat}(h:(nxtA k r g L).2.2.2≠0):nxtA k r g L=(tokZ,false,0,(nxtA k r g L).2.2.2):=by
 unfold nxtA at h⊢
 by_cases h1:r.2.2≠0
 ·rw[if_pos h1]
 ·rw[if_neg h1]at h⊢
  by_cases h2:r.1<256
  ·rw[if_pos h2]at h;exact absurd rfl h
  ·rw[if_neg h2]at h⊢
   by_cases h3:r.1=256
   ·rw[if_pos h3]at h;exact absurd rfl h
   ·rw[if_neg h3]at h⊢;exact nxt_errB h
theorem nxt_err{k:Blk13}{g:Nat→Nat}{L a:Nat}(h:(nextR k g L a).2.2.2≠0):nextR k g L a=(tokZ,false,0,(nextR k g L a).2.2.2):=by
 unfold nextR at h⊢
 by_cases h0:k.kind=0
 ·rw[if_pos h0]at h⊢
  unfold nxtS at h⊢
  by_cases h1:k.left=0
  ·rw[if_pos h1]at h;exact absurd rfl h
  ·rw[if_neg h1]at h⊢
   by_cases h2:8*L<a+8
   ·rw[if_pos h2]
   ·rw[if_neg h2]at h;exact absurd rfl h
 ·rw[if_neg h0]at h⊢
  exact nxt_errA h
theorem riF_of{w:World}{v:Value}{s:List Int}{p:Nat}(h:RdS w p v s)(hp:p≤w.heap.size):RiF (At p) w v s:=by
 refine⟨h.more hp,fun A n c b o e h0 e2 hb=>?_⟩
 obtain⟨A',cap,e3,hr,_⟩:=h
 obtain⟨b',o',e4,hbb,_⟩:=hr.at h0
 rw[e3]at e;cases e
 rw[e4]at e2;cases e2
 have:b=p:=hb
 omega
theorem pstep13_any(w:World)(A:Option Addr)(l c:Nat)(g:Nat→Nat)(hg:RdB w w.heap.size A l g)(a:Int)(ha1: -9223372036854775808≤a)(ha2:a≤9223372036854775807)(hl:l≤1000000)
  (kd:Nat) (hkd:kd<256) (last:Bool) (left:Int) (c1 c2:Nat→Int) (v1 v2:Value) (s1 s2:List Int) (h1:RdS w w.heap.size v1 s1) (h2:RdS w w.heap.size v2 s2) (n1:s1.length≤1000000) (n2:s2.length≤1000000)
  (r:Bool) (hr:r=true↔MayI kd left c1 s1 c2 s2) (k:Blk13) (hk:r=true→ReadsB k kd last left c1 s1 c2 s2):
  Calls Tryz.prog 10 #[.agg (blkI kd last left c1 c2 v1 v2),.slice A l c,.int .i64 a] w fun e w'=>e=.returned (nxtV (stpQ g l a r k))∧Below w.heap.size w w':=by
 obtain⟨h,hh⟩:∃h,h=w.heap.size:=⟨_,rfl⟩
 obtain⟨X,hX⟩:∃X,X=blkI kd last left c1 c2 v1 v2:=⟨_,rfl⟩
 have hXS:X.size=37:=by rw[hX];exact blkI_size ..
 obtain⟨Z,hZ⟩:∃Z:Array Value,Z=#[.int .u8 0,.int .i64 0,.int .i64 0]:=⟨_,rfl⟩
 have hZS:Z.size=3:=by rw[hZ];rfl
 have hZO:Z.all (·.oneCell')=true:=by rw[hZ];exact oneTok _ _ _
 have hZB:Tryz.prog.built 36 []=some Z:=by rw[hZ];exact built_tok0
 obtain⟨W1,hW1⟩:∃W1,W1=(w.alloc (.cells X 28)).alloc (.cells Z 36):=⟨_,rfl⟩
 have hb1:Below h w W1:=by rw[hW1,hh];exact((Below.refl _ _).alloc (Nat.le_refl _) _).alloc (by simp) _
 have hsz1:W1.heap.size=h+2:=by rw[hW1,hh];simp
 have x1:BoxC W1 h X 28:=by rw[hW1,hh];exact(BoxC.new w _ _).old _
 have t1:BoxC W1 (h+1) Z 36:=by rw[hW1,hh];have:=BoxC.new (w.alloc (.cells X 28)) Z 36;rwa[World.size_alloc]at this
 obtain⟨q,hq⟩:∃q,q=asked13 l a:=⟨_,rfl⟩
 obtain⟨R,hR⟩:∃R,R=stpQ g l a r k:=⟨_,rfl⟩
 have hrr:=hR
 unfold stpQ at hrr
 rw[←hq]at hrr
 rw[←hR]
 have hask:=pwithin_any W1 A l c a ha1 ha2 hl
 rw[←hq]at hask
 have hchk:=pcheck13_any W1 kd last left c1 c2 v1 v2 s1 s2 ((h1.below (hh▸hb1) (Nat.le_refl _)).more (hh▸hb1.size)) ((h2.below (hh▸hb1) (Nat.le_refl _)).more (hh▸hb1.size)) n1 n2 r hr
 rw[←hX]at hchk⊢
 have hzt:∀u:World,(zeroValue 36).run Tryz.prog u=.ok (.agg Z) u:=by rw[hZ];exact(zero_of_info infoTokZ).1
 obtain⟨ZR,hZR⟩:∃Z,Z=rdrA none 0 0 (0,0):=⟨_,rfl⟩
 have hzr:∀u:World,(zeroValue 69).run Tryz.prog u=.ok (.agg ZR) u:=by rw[hZR];exact(zero_of_info infoRdr).1
 have HZRS:Hid (ZR.size=3):=Lib.hid (by rw[hZR];rfl)
 have HAS:=Lib.hid hask;have HCH:=Lib.hid hchk;have HG:=Lib.hid hg;have HX1:=Lib.hid x1;have HT1:=Lib.hid t1;have HB1:=Lib.hid hb1;have HH:=Lib.hid hh;have HW1:=Lib.hid hW1;have HS1:=Lib.hid hsz1;have HRR:=Lib.hid hrr;have HQ:=Lib.hid hq;have HZE:=Lib.hid hZ;have HXE:=Lib.hid hX
 have HXS:=Lib.hid hXS;have HZS:=Lib.hid hZS;have HZO:=Lib.hid hZO;have HZB:=Lib.hid hZB;have HV1:=Lib.hid h1;have HV2:=Lib.hid h2;have HK:=Lib.hid hk
 clear hask hchk hg x1 t1 hb1 hh hW1 hsz1 hrr hq hR hZ hZR hX hXS hZS hZO hZB h1 h2 hk hr
 by_cases q0:q=0
 ·have hl3:l≤131072:=by
   have:=HQ.out;rw[q0]at this;unfold asked13 at this
   split at this
   ·omega
   ·omega
  have ha:0≤a∧a≤8*(l:Int):=by
   have:=HQ.out;rw[q0]at this;unfold asked13 at this
   rw[if_neg (by omega)]at this
   split at this
   ·omega
   ·omega
  obtain⟨n,rfl⟩:=Int.eq_ofNat_of_zero_le ha.1
  have hn8:n≤8*l:=by omega
  subst q0
  rcases Bool.eq_false_or_eq_true r with hrt|hrf
  ·subst hrt
   have HRR2:Hid (R=nextR k g l n):=Lib.hid (by rw[HRR.out,if_neg (fun h=>h rfl),if_neg (by decide),Int.toNat_natCast])
   obtain⟨k1,k2,k3,k4,k5,k6,k7⟩:=HK.out rfl
   obtain⟨Y,hY⟩:∃Y,Y=rdrA A l c (n,0):=⟨_,rfl⟩
   have HYS:Hid (Y.size=3):=Lib.hid (by rw[hY];rfl)
   have HYO:Hid (Y.all (·.oneCell')=true):=Lib.hid (by rw[hY];simp[rdrA,Value.oneCell'])
   have HYB:Hid (Tryz.prog.built 69 [(0,.slice A l c),(1,.int .i64 (n:Int))]=some Y):=Lib.hid (by rw[hY];exact built_rdr13 A l c n)
   have HXK:Hid (X=blkT k.kind k.last k.left c1 c2 v1 v2):=Lib.hid (by rw[HXE.out,blkT_I,k1,k2,k3])
   have HKP:Hid (k.kind<256∧k.left≤65535∧k.n≤320∧k.m≤320∧(k.kind≠0→IsTree c1 s1 (extF k.n k.F)∧IsTree c2 s2 (extF k.m k.G))):=Lib.hid ⟨by rw[k1];exact hkd,k4,k5,k6,fun h=>k7 (k1▸h)⟩
   have HYE:=Lib.hid hY
   clear ha k1 k2 k3 k4 k5 k6 k7 hY HK HRR HXE
   go_enter Tryz.func10,Tryz.ntmps10
   go_wp2_with (first|(rw[←HW1.out,←HH.out])|fail)
   refine HAS.out.mono ?_
   rintro e w9 ⟨rfl,rfl⟩
   go_wp2_with (first
    |(refine wpList_load_row rfl _ _ rfl h rfl _ X (0,0) _ HX1.out Tryz.underlying28 rfl (szBlkT X HXS.out) ?_)
    |fail)
   refine HCH.out.mono ?_
   unfold chkI
   rw[if_pos rfl]
   rintro e w3 ⟨rfl,hb3⟩
   have hS3:=hb3.size
   have hX3:=HX1.out.below hb3 (by rw[HS1.out];omega)
   have hT3:=HT1.out.below hb3 (by rw[HS1.out];omega)
   obtain⟨p,hp⟩:∃p,p=w3.heap.size:=⟨_,rfl⟩
   have hpl:h+2≤p:=by rw[hp,←HS1.out];exact hS3
   obtain⟨W2,hW2⟩:∃W,W=mkV w3 ZR Y 69:=⟨_,rfl⟩
   have hb2:Below w3.heap.size w3 W2:=by rw[hW2];exact mkV_below _ _ _ _
   have y2:Rdr W2 p A l c (n,0):=by have:=mkV_row w3 ZR Y 69;rw[←hp,HYE.out]at this;rw[hW2,HYE.out];exact this
   have hsz2:W2.heap.size=p+1:=by rw[hW2,mkV_size,hp]
   have hB3:Below h w w3:=HB1.out.trans (hb3.mono (by rw[HS1.out];omega))
   have hB2:Below h w W2:=hB3.trans (hb2.mono (by omega))
   have hg2:RdF (At p) W2 A l g:=by
    refine⟨(HG.out.below (HH.out▸hB2) (Nat.le_refl _)).more (HH.out▸hB2.size),fun b o h0 e hb=>?_⟩
    obtain⟨b',o',e',hbb,_⟩:=HG.out.2 h0
    rw[e]at e';cases e'
    have:b=p:=hb
    have:=HH.out;omega
   have hv1:=riF_of (p:=p) ((HV1.out.below (HH.out▸hB2) (Nat.le_refl _)).more (show w.heap.size≤p by have:=HH.out;omega)) (by omega)
   have hv2:=riF_of (p:=p) ((HV2.out.below (HH.out▸hB2) (Nat.le_refl _)).more (show w.heap.size≤p by have:=HH.out;omega)) (by omega)
   obtain⟨kp1,kp2,kp3,kp4,kp5⟩:=HKP.out
   have hstp:=pstep_any W2 p A l c g (n,0) y2 (At p) rfl (fun j (e:j=p)=>by omega) hg2 (by omega) hn8 k kp1 kp2 kp3 kp4 c1 c2 v1 v2 HV1.out.one HV2.out.one (fun _ h0=>⟨⟨s1,hv1,(kp5 h0).1⟩,⟨s2,hv2,(kp5 h0).2⟩⟩)
   rw[←HXK.out]at hstp
   have HX2:=Lib.hid (hX3.below hb2 hX3.lt);have HT2:=Lib.hid (hT3.below hb2 hT3.lt)
   have HIS:=Lib.hid (stT_is (k:=k) (g:=g) (L:=l) (a:=n))
   obtain⟨⟨tk,en,sa,se⟩,hss⟩:∃s,s=stT k g l (n,0):=⟨_,rfl⟩
   rw[←hss]at hstp
   rw[←hss]at HIS
   have HST:=Lib.hid hstp;have HW2:=Lib.hid hW2;have HSZ2:=Lib.hid hsz2;have HP:=Lib.hid hp;have HBB:=Lib.hid hB2
   clear hb3 hX3 hT3 hp hb2 y2 hsz2 hB3 hB2 hg2 hv1 hv2 kp1 kp2 kp3 kp4 kp5 hstp hss hW2 hS3
   go_wp2_with (first
    |(refine wpList_buildTo rfl 69 #[(0,.tmp 26),(1,.tmp 27)] rfl (some 28) rfl Y ?_ ?_;focus(simpa[Act.eval]using HYB.out))
    |(refine wpList_store_rowTo rfl _ _ _ rfl rfl w3.heap.size Y rfl rfl 69 ZR (heap_alloc_new w3 _) (szRdr13 HYS.out) (by rw[HZRS.out,HYS.out]) HYO.out ?_;change wpList _ _ _ _ _ (mkV w3 ZR Y 69);rw[←HW2.out,←HP.out])
    |(refine wpList_load_row rfl _ _ rfl h rfl _ X (0,0) _ HX2.out Tryz.underlying28 rfl (szBlkT X HXS.out) ?_)
    |fail)
   refine HST.out.mono ?_
   rintro e w4 ⟨rfl,r4,f4⟩
   obtain⟨T,hT⟩:∃T,T=tkA3 tk:=⟨_,rfl⟩
   have HTS:Hid (T.size=3):=Lib.hid (by rw[hT];rfl)
   have HTO:Hid (T.all (·.oneCell')=true):=Lib.hid (by rw[hT];exact tkA3_one _)
   unfold stpV
   dsimp only
   rw[←hT]
   have hT4:=HT2.out.fr f4 (by show¬h+1=p;omega)
   obtain⟨W4,hW4⟩:∃W,W=w4.setRow (h+1) T:=⟨_,rfl⟩
   have x4:BoxC W4 (h+1) T 36:=by rw[hW4];exact hT4.row T
   have r5:Rdr W4 p A l c (sa,se):=by rw[hW4];exact BoxC.rowO r4 (by omega) T
   have f5:Fr (At (h+1)) w4 W4:=by rw[hW4];exact Fr.row w4 (h+1) T
   have hb4:Below h w W4:=HBB.out.trans ((f4.below (B:=h) (fun j (e:j=p)=>by omega) (by have:=HSZ2.out;omega)).trans (f5.below (B:=h) (fun j (e:j=h+1)=>by omega) (by have:=f4.size;have:=HSZ2.out;omega)))
   have k2:W4.cell? ⟨p,2,none⟩=some (.int .i64 se):=r5.e
   have HT4:=Lib.hid hT4;have HW4:=Lib.hid hW4;have HX4:=Lib.hid x4;have HR4:=Lib.hid r5;have HB4:=Lib.hid hb4;have HTE:=Lib.hid hT
   clear r4 f4 hT hT4 hW4 x4 r5 f5 hb4 HST
   by_cases he:se=0
   ·have hn0:(nextR k g l n).2.2.2=0:=by
     rcases Int.decEq (nextR k g l n).2.2.2 0 with h1|h1
     ·exfalso
      have:=HIS.out.2 h1
      exact h1 (this.symm.trans he)
     ·exact h1
    have hst:=HIS.out.1 hn0
    have hRe:R=(tk,en,sa,0):=by
     rw[HRR2.out]
     have e1:(nextR k g l n).1=tk:=congrArg (fun x=>x.1) hst.symm
     have e2:(nextR k g l n).2.1=en:=congrArg (fun x=>x.2.1) hst.symm
     have e3:(nextR k g l n).2.2.1=sa:=congrArg (fun x=>x.2.2.1) hst.symm
     rw[←e1,←e2,←e3,←hn0]
    have d0:(se==0)=true:=by rw[he];rfl
    have d1:(se !=0)=false:=by simp[bne,d0]
    have HRE:=Lib.hid hRe
    subst he
    clear hn0 hst hRe HIS
    go_wp2_with (first
     |(refine wpList_store_rowTo rfl _ _ _ rfl rfl (h+1) T rfl rfl 36 Z HT4.out (by rw[HTS.out];exact szTok) (by rw[HZS.out,HTS.out]) HTO.out ?_;rw[←HW4.out])
     |fail)
    have HX5:Hid (BoxC (W4.drew) (h+1) T 36):=Lib.hid HX4.out
    have HR5:Hid (Rdr (W4.drew) p A l c (sa,0)):=Lib.hid HR4.out
    have HR6:Hid (Rdr ((W4.drew).setRow (h+1) T) p A l c (sa,0)):=Lib.hid (BoxC.rowO HR5.out (by omega) T)
    have HX6:Hid (BoxC ((W4.drew).setRow (h+1) T) (h+1) T 36):=Lib.hid (HX5.out.row T)
    refine wp_region_twoK 4 (twT [fun v=>v=.agg T,fun v=>v=.bool en,fun v=>v=.pointer (some ⟨p,1,none⟩),fun v=>v=.int .i64 (sa:Int),fun v=>v=undef,fun v=>v=.bool en,fun v=>v=.int .i64 (sa:Int),fun v=>v=.int .i64 0]) ((W4.drew).setRow (h+1) T) (by kernel_rfl) (by kernel_rfl) ?_ ?_
    case refine_1=>
     refine TwAllK.cons (fun aa wv hw ha hS Kk Qq hK=>tw_val (k:=0) (s:=4) (by decide) (tab_free rfl) (.agg T) (by have e:=(show aa.eval (.tmp 6)=.pointer (some ⟨h+1,0,none⟩)from((ha 6 (by kernel_rfl)).trans rfl));have hx:BoxC wv (h+1) T 36:=by {rcases hw with hw|⟨hw,_,_⟩<;>first|(rw[hw];exact HX5.out)|(rw[hw];exact HX6.out)};have hl:=run_loadVar_row (P:=Tryz.prog) wv (h+1) 36 36 T (0,0) _ hx Tryz.underlying36 rfl (by rw[HTS.out];exact szTok);unfold execOp;simp only[e,Instr.loadAt,Instr.sureAddr,Sem.run_bind,Sem.run_pure,Result.andThen_ok,hl]) hK rfl) ?_
     refine TwAllK.cons (fun aa wv hw ha hS Kk Qq hK=>tw_val (k:=1) (s:=4) (by decide) (tab_free rfl) (.bool en) (by have e:=(show aa.eval (.tmp 7)=.bool en from((ha 7 (by kernel_rfl)).trans rfl));unfold execOp;simp only[e];rfl) hK rfl) ?_
     refine TwAllK.cons (fun aa wv hw ha hS Kk Qq hK=>tw_val (k:=2) (s:=4) (by decide) (tab_free rfl) (.pointer (some ⟨p,1,none⟩)) (by have e:=(show aa.eval (.tmp 12)=.pointer (some ⟨p,0,none⟩)from((ha 12 (by kernel_rfl)).trans rfl));unfold execOp;simp only[e];go_simp) hK rfl) ?_
     refine TwAllK.cons (fun aa wv hw ha hS Kk Qq hK=>tw_val (k:=3) (s:=4) (by decide) (tab_free rfl) (.int .i64 (sa:Int)) (by have e:=(show aa.eval (.tmp 42)=.pointer (some ⟨p,1,none⟩)from hS 2 42 (by kernel_rfl) rfl);have hc:wv.cell? ⟨p,1,none⟩=some (.int .i64 (sa:Int)):=by {rcases hw with hw|⟨hw,_,_⟩<;>first|(rw[hw];exact HR5.out.a)|(rw[hw];exact HR6.out.a)};unfold execOp;simp only[e];go_simp) hK rfl) ?_
     refine TwAllK.cons (fun aa wv hw ha hS Kk Qq hK=>tw_store (s:=4) (tab_free rfl) rfl (by have e1:=(show aa.eval (.tmp 6)=.pointer (some ⟨h+1,0,none⟩)from((ha 6 (by kernel_rfl)).trans rfl));have e2:=(show aa.eval (.tmp 40)=.agg T from hS 0 40 (by kernel_rfl) rfl);have hww:wv=W4.drew:=by {rcases hw with hw|⟨_,hw,_⟩<;>first|exact hw|exact absurd rfl hw};subst hww;have hst:=run_storeVar_row (P:=Tryz.prog) (W4.drew) (h+1) 36 36 T T HX5.out (by rw[HTS.out];exact szTok) (HTS.out.trans HTS.out.symm) HTO.out;unfold execOp;simp only[e1,e2,Instr.storeAt,Instr.sureAddr,Sem.run_bind,Sem.run_pure,Result.andThen_ok,hst]) hK rfl) ?_
     refine TwAllK.cons (fun aa wv hw ha hS Kk Qq hK=>tw_val (k:=5) (s:=4) (by decide) (tab_free rfl) (.bool en) (by have e:=(show aa.eval (.tmp 41)=.bool en from hS 1 41 (by kernel_rfl) rfl);unfold execOp;simp only[e];rfl) hK rfl) ?_
     refine TwAllK.cons (fun aa wv hw ha hS Kk Qq hK=>tw_val (k:=6) (s:=4) (by decide) (tab_free rfl) (.int .i64 (sa:Int)) (by have e:=(show aa.eval (.tmp 43)=.int .i64 (sa:Int)from hS 3 43 (by kernel_rfl) rfl);unfold execOp;simp only[e];rfl) hK rfl) ?_
     refine TwAllK.cons (fun aa wv hw ha hS Kk Qq hK=>tw_val (k:=7) (s:=4) (by decide) (tab_free rfl) (.int .i64 0) (by unfold execOp;rfl) hK rfl) ?_
     exact TwAllK.nil
    intro vals hv
    have e1:vals 7=.bool en:=hv 5 7 rfl
    have e2:vals 8=.int .i64 (sa:Int):=hv 6 8 rfl
    have e3:vals 9=.int .i64 0:=hv 7 9 rfl
    clear hv
    simp only[List.map_cons,List.map_nil,putL,Act.put,List.setIfInBounds_toArray,List.set_cons_zero,List.set_cons_succ,e1,e2,e3]
    clear e1 e2 e3
    go_wp2
    refine bodyPost_ret (v:=.tuple #[.agg T,.bool en,.int .i64 (sa:Int),.int .i64 0]) ((cell_tok4 rfl _ _ (h+1) T HTS.out rfl HX6.out).trans rfl) rfl ⟨by rw[HRE.out,HTE.out];rfl,?_⟩
    rw[←HH.out];exact below_rowC (Below.drew HB4.out) (by omega) _
   ·have hn0:(nextR k g l n).2.2.2=se:=by
     rcases Int.decEq (nextR k g l n).2.2.2 0 with h1|h1
     ·exact(HIS.out.2 h1).symm
     ·exfalso
      have:=congrArg (fun x=>x.2.2.2) (HIS.out.1 h1)
      exact he this
    have hRe:R=(tokZ,false,0,se):=by rw[HRR2.out,nxt_err (by rw[hn0];exact he),hn0]
    have d0:(se==0)=false:=beq_eq_false_iff_ne.2 he
    have d1:(se !=0)=true:=by simp[bne,d0]
    have HRE:=Lib.hid hRe
    clear hn0 hRe HIS he
    go_wp2_with (first
     |(refine wpList_store_rowTo rfl _ _ _ rfl rfl (h+1) T rfl rfl 36 Z HT4.out (by rw[HTS.out];exact szTok) (by rw[HZS.out,HTS.out]) HTO.out ?_;rw[←HW4.out])
     |fail)
    have HX5:Hid (BoxC (W4.drew) (h+1) T 36):=Lib.hid HX4.out
    have HR5:Hid (Rdr (W4.drew) p A l c (sa,se)):=Lib.hid HR4.out
    have HR6:Hid (Rdr ((W4.drew).setRow (h+1) Z) p A l c (sa,se)):=Lib.hid (BoxC.rowO HR5.out (by omega) Z)
    have HX6:Hid (BoxC ((W4.drew).setRow (h+1) Z) (h+1) Z 36):=Lib.hid (HX5.out.row Z)
    refine wp_region_two 3 (twT [fun v=>v=.agg Z,fun v=>v=.pointer (some ⟨p,2,none⟩),fun v=>v=.int .i64 se,fun v=>v=undef,fun v=>v=.bool false,fun v=>v=.int .i64 0,fun v=>v=.int .i64 se]) ((W4.drew).setRow (h+1) Z) (by kernel_rfl) (by kernel_rfl) ?_ ?_
    case refine_1=>
     refine TwAll.cons (fun aa wv hw ha hS Kk Qq hK=>tw_val (k:=0) (s:=3) (by decide) (tab_free rfl) (.agg Z) (by have hbz:=run_build (P:=Tryz.prog) wv 36 (#[]:Array (Nat×Value)) Z HZB.out;unfold execOp;simp only[List.map_toArray,List.map_nil,Sem.run_bind,hbz,Result.andThen_ok];rfl) hK rfl) ?_
     refine TwAll.cons (fun aa wv hw ha hS Kk Qq hK=>tw_val (k:=1) (s:=3) (by decide) (tab_free rfl) (.pointer (some ⟨p,2,none⟩)) (by have e:=(show aa.eval (.tmp 12)=.pointer (some ⟨p,0,none⟩)from((ha 12 (by kernel_rfl)).trans rfl));unfold execOp;simp only[e];go_simp) hK rfl) ?_
     refine TwAll.cons (fun aa wv hw ha hS Kk Qq hK=>tw_val (k:=2) (s:=3) (by decide) (tab_free rfl) (.int .i64 se) (by have e:=(show aa.eval (.tmp 38)=.pointer (some ⟨p,2,none⟩)from hS 1 38 (by kernel_rfl) rfl);have hc:wv.cell? ⟨p,2,none⟩=some (.int .i64 se):=by {rcases hw with hw|⟨hw,_,_⟩<;>first|(rw[hw];exact HR5.out.e)|(rw[hw];exact HR6.out.e)};unfold execOp;simp only[e];go_simp) hK rfl) ?_
     refine TwAll.cons (fun aa wv hw ha hS Kk Qq hK=>tw_store (s:=3) (tab_free rfl) rfl (by have e1:=(show aa.eval (.tmp 6)=.pointer (some ⟨h+1,0,none⟩)from((ha 6 (by kernel_rfl)).trans rfl));have e2:=(show aa.eval (.tmp 37)=.agg Z from hS 0 37 (by kernel_rfl) rfl);have hww:wv=W4.drew:=by {rcases hw with hw|⟨_,hw,_⟩<;>first|exact hw|exact absurd rfl hw};subst hww;have hst:=run_storeVar_row (P:=Tryz.prog) (W4.drew) (h+1) 36 36 T Z HX5.out (by rw[HZS.out];exact szTok) (HTS.out.trans HZS.out.symm) HZO.out;unfold execOp;simp only[e1,e2,Instr.storeAt,Instr.sureAddr,Sem.run_bind,Sem.run_pure,Result.andThen_ok,hst]) hK rfl) ?_
     refine TwAll.cons (fun aa wv hw ha hS Kk Qq hK=>tw_val (k:=4) (s:=3) (by decide) (tab_free rfl) (.bool false) (by unfold execOp;rfl) hK rfl) ?_
     refine TwAll.cons (fun aa wv hw ha hS Kk Qq hK=>tw_val (k:=5) (s:=3) (by decide) (tab_free rfl) (.int .i64 0) (by unfold execOp;rfl) hK rfl) ?_
     refine TwAll.cons (fun aa wv hw ha hS Kk Qq hK=>tw_val (k:=6) (s:=3) (by decide) (tab_free rfl) (.int .i64 se) (by have e:=(show aa.eval (.tmp 39)=.int .i64 se from hS 2 39 (by kernel_rfl) rfl);unfold execOp;simp only[e];rfl) hK rfl) ?_
     exact TwAll.nil
    intro vals hv
    have e1:vals 7=.bool false:=hv 4 7 rfl
    have e2:vals 8=.int .i64 0:=hv 5 8 rfl
    have e3:vals 9=.int .i64 se:=hv 6 9 rfl
    clear hv
    simp only[List.map_cons,List.map_nil,putL,Act.put,List.setIfInBounds_toArray,List.set_cons_zero,List.set_cons_succ,e1,e2,e3]
    clear e1 e2 e3
    go_wp2
    refine bodyPost_ret (v:=.tuple #[.agg Z,.bool false,.int .i64 0,.int .i64 se]) ((cell_tok4 rfl _ _ (h+1) Z HZS.out rfl HX6.out).trans rfl) rfl ⟨by rw[HRE.out,HZE.out];rfl,?_⟩
    rw[←HH.out];exact below_rowC (Below.drew HB4.out) (by omega) _
  ·subst hrf
   have HRE:Hid (R=(tokZ,false,0,8)):=Lib.hid (by rw[HRR.out,if_neg (fun h=>h rfl),if_pos rfl])
   clear ha HK HRR HXE
   go_enter Tryz.func10,Tryz.ntmps10
   go_wp2_with (first|(rw[←HW1.out,←HH.out])|fail)
   refine HAS.out.mono ?_
   rintro e w9 ⟨rfl,rfl⟩
   go_wp2_with (first
    |(refine wpList_load_row rfl _ _ rfl h rfl _ X (0,0) _ HX1.out Tryz.underlying28 rfl (szBlkT X HXS.out) ?_)
    |fail)
   refine HCH.out.mono ?_
   unfold chkI
   rw[if_neg (by decide)]
   rintro e w3 ⟨rfl,hb3⟩
   have HT3:=Lib.hid (HT1.out.below hb3 (by rw[HS1.out];omega))
   have HB3:=Lib.hid (HB1.out.trans (hb3.mono (by rw[HS1.out];omega)))
   have d8:((8:Int) !=0)=true:=rfl
   clear hb3
   go_wp2_with (first
    |(refine wpList_buildTo rfl 36 #[] rfl (some 24) rfl Z ?_ ?_;focus(simpa[Act.eval]using HZB.out))
    |(refine wpList_store_rowTo rfl _ _ _ rfl rfl (h+1) Z rfl rfl 36 Z HT3.out (by rw[HZS.out];exact szTok) rfl HZO.out ?_)
    |fail)
   refine bodyPost_ret ((cell_tok4 rfl _ _ (h+1) _ HZS.out rfl (setRow_heap _ _ _ _ _ _ HT3.out)).trans rfl) rfl ⟨by rw[HRE.out,HZE.out];rfl,?_⟩
   rw[←HH.out];exact below_rowC HB3.out (by omega) _
 have d0:(q==0)=false:=beq_eq_false_iff_ne.2 q0
 have d1:(q !=0)=true:=by simp[bne,d0]
 have HRE:Hid (R=(tokZ,false,0,q)):=Lib.hid (by rw[HRR.out,if_pos q0])
 clear HK HRR HXE
 go_enter Tryz.func10,Tryz.ntmps10
 go_wp2_with (first|(rw[←HW1.out,←HH.out])|fail)
 refine HAS.out.mono ?_
 rintro e w9 ⟨rfl,rfl⟩
 go_wp2_with (first
  |(refine wpList_buildTo rfl 36 #[] rfl (some 18) rfl Z ?_ ?_;focus(simpa[Act.eval]using HZB.out))
  |(refine wpList_store_rowTo rfl _ _ _ rfl rfl (h+1) Z rfl rfl 36 Z HT1.out (by rw[HZS.out];exact szTok) rfl HZO.out ?_)
  |fail)
 refine bodyPost_ret ((cell_tok4 rfl _ _ (h+1) _ HZS.out rfl (setRow_heap _ _ _ _ _ _ HT1.out)).trans rfl) rfl ⟨by rw[HRE.out,HZE.out];rfl,?_⟩
 rw[←HH.out];exact below_rowC HB1.out (by omega) _
end Go.Proofs.YtgokdgcmkcmjeaaGreat
namespace Go.Proofs.YtgokdgcmkcmjeaaGreat
structure TOk (T:List Tok) (M:Nat):Prop where
 may:∀t∈T,mayT t=true∧t.x<256
 plays:Plays [] T
 len:M=(T.foldl stpT []).length
structure TGo (g:Nat→Nat) (L lim:Nat) (R:List Nat×Nat×Int) (T:List Tok) (M:Nat) (q:Rz) (st:Option Blk13):Prop where
 ok:TOk T M
 room:M≤lim
 err:q.2=0
 place:q.1≤8*L
 told:toldA g L lim st (T.foldl stpT []) q.1=R
structure TBad (lim:Nat) (R:List Nat×Nat×Int) (T:List Tok) (q:Rz):Prop where
 ok:∃M,TOk T M∧M≤lim
 err:q.2≠0
 same:q.2=R.2.2
 out:T.foldl stpT []=R.1
structure TFin (lim:Nat) (R:List Nat×Nat×Int) (T:List Tok) (q:Rz):Prop where
 ok:∃M,TOk T M∧M≤lim
 err:q.2=0
 same:R.2.2=0
 place:q.1=R.2.1
 out:T.foldl stpT []=R.1
theorem foldl_app(T:List Tok)(t:Tok):(T++[t]).foldl stpT []=stpT (T.foldl stpT []) t:=by rw[List.foldl_append];rfl
theorem plays_app:∀(T:List Tok) (out:List Nat) (t:Tok),Plays out T→t.d≤((T.foldl stpT out).length:Int)→Plays out (T++[t])
 |[],_,_,_,h=>⟨h,trivial⟩
 |_::T,_,t,h,hd=>⟨h.1,plays_app T _ t h.2 hd⟩
theorem TOk.app{T:List Tok}{M:Nat}(h:TOk T M){t:Tok}(hm:mayT t=true∧t.x<256)(hd:t.d≤(M:Int)):TOk (T++[t]) (M+lenT t):=by
 refine⟨fun u hu=>?_,plays_app T [] t h.plays (by rw[←h.len];exact hd),by rw[foldl_app,len_stp,←h.len]⟩
 rcases List.mem_append.1 hu with hu|hu
 ·exact h.may u hu
 ·rw[List.mem_singleton.1 hu];exact hm
theorem lenT_pos{t:Tok}(h:mayT t=true):1≤lenT t:=by
 rcases mayT_is h with h|h
 ·unfold lenT;rw[if_pos h.1];omega
 ·unfold lenT;rw[if_neg h.1];omega
theorem fold_cnt:∀(T:List Tok) (out:List Nat),(∀t∈T,mayT t=true∧t.x<256)→out.length+T.length≤(T.foldl stpT out).length
 |[],_,_=>by simp
 |t::T,out,h=>by
  have h1:=lenT_pos (h t (by simp)).1
  have h2:=fold_cnt T (stpT out t) fun u hu=>h u (by simp[hu])
  rw[len_stp]at h2
  simp only[List.foldl_cons,List.length_cons]
  omega
theorem TOk.count{T:List Tok}{M:Nat}(h:TOk T M):T.length≤M:=by
 have:=fold_cnt T [] h.may
 rw[h.len];simpa using this
theorem ply_fold:∀(T:List Tok) (out:List Nat),(∀t∈T,mayT t=true∧t.x<256)→Plays out T→(T.foldl stpT out).length≤131072→plyR 0 T out=(0,T.foldl stpT out)
 |[],_,_,_,_=>rfl
 |t::T,out,h,hp,hl=>by
  have h2:=fold_cnt T (stpT out t) fun u hu=>h u (by simp[hu])
  simp only[List.foldl_cons]at hl⊢
  rw[len_stp]at h2
  unfold plyR
  have hd:t.d≤(out.length:Int):=hp.1
  rw[if_neg (by rw[(h t (by simp)).1];decide),if_neg (by omega),if_neg (by omega)]
  exact ply_fold T _ (fun u hu=>h u (by simp[hu])) hp.2 hl
theorem TOk.play{T:List Tok}{M:Nat}(h:TOk T M)(hM:M≤131072)(f:Nat→Nat):plyO f 0 T=(0,T.foldl stpT []):=by
 unfold plyO
 have:=h.count
 rw[if_neg (by omega)]
 have e:preL f 0=[]:=rfl
 rw[e]
 exact ply_fold T [] h.may h.plays (by rw[←h.len];exact hM)
theorem loV_rng{y x:Nat}(h:ofE false y x=0):3≤ofV false y x∧ofV false y x≤258:=lg_ok (long_here h).1
theorem foV_rng{y x:Nat}(h:ofE true y x=0):1≤ofV true y x∧ofV true y x≤32768:=by
 have:=(far_here h).1
 show 1≤foV _ _∧foV _ _≤32768
 unfold frE at this
 split at this
 ·assumption
 ·exact absurd this (by decide)
theorem ext_rng{far:Bool}{s:Nat}{g:Nat→Nat}{L a:Nat}(h:(extR far s g L a).2.2=0):if far then 1≤(extR far s g L a).1∧(extR far s g L a).1≤32768 else 3≤(extR far s g L a).1∧(extR far s g L a).1≤258:=by
 unfold extR at h⊢
 split at h
 ·rename_i h1;exact absurd h h1
 ·rename_i h1
  rw[if_neg h1]
  split at h
  ·exact absurd h (by decide)
  ·rename_i h2
   rw[if_neg h2]
   cases far
   ·exact loV_rng h
   ·exact foV_rng h
theorem next_may{k:Blk13}{g:Nat→Nat}{L a:Nat}(h:(nextR k g L a).2.2.2=0)(he:(nextR k g L a).2.1=false):mayT (nextR k g L a).1=true∧(nextR k g L a).1.x<256:=by
 have hb:∀x,mayT ⟨x,0,0⟩=true:=fun x=>decide_eq_true (.inl ⟨rfl,rfl⟩)
 unfold nextR at h he⊢
 by_cases h0:k.kind=0
 ·rw[if_pos h0]at h he⊢
  unfold nxtS at h he⊢
  by_cases h1:k.left=0
  ·rw[if_pos h1]at he;exact absurd he (show¬(true=false) by decide)
  ·rw[if_neg h1]at h he⊢
   by_cases h2:8*L<a+8
   ·rw[if_pos h2]at h;exact absurd h (by decide)
   ·rw[if_neg h2];exact⟨hb _,numN_lt g a 8⟩
 ·rw[if_neg h0]at h he⊢
  generalize readR k.F k.n g L a 17 0=r at h he⊢
  unfold nxtA at h he⊢
  by_cases h1:r.2.2≠0
  ·rw[if_pos h1]at h;exact absurd h h1
  ·rw[if_neg h1]at h he⊢
   by_cases h2:r.1<256
   ·rw[if_pos h2];exact⟨hb _,h2⟩
   ·rw[if_neg h2]at h he⊢
    by_cases h3:r.1=256
    ·rw[if_pos h3]at he;exact absurd he (show¬(true=false) by decide)
    ·rw[if_neg h3]at h he⊢
     have hx:=ext_rng (far:=false) (s:=r.1) (g:=g) (L:=L) (a:=r.2.1)
     generalize extR false r.1 g L r.2.1=x at h he hx⊢
     unfold nxtB at h he⊢
     by_cases h4:x.2.2≠0
     ·rw[if_pos h4]at h;exact absurd h h4
     ·rw[if_neg h4]at h he⊢
      generalize readR k.G k.m g L x.2.1 17 0=q at h he⊢
      unfold nxtC at h he⊢
      by_cases h5:q.2.2≠0
      ·rw[if_pos h5]at h;exact absurd h h5
      ·rw[if_neg h5]at h he⊢
       have hy:=ext_rng (far:=true) (s:=q.1) (g:=g) (L:=L) (a:=q.2.1)
       generalize extR true q.1 g L q.2.1=y at h he hy⊢
       unfold nxtD at h he⊢
       by_cases h6:y.2.2≠0
       ·rw[if_pos h6]at h;exact absurd h h6
       ·rw[if_neg h6]
        have k1:=hx (by omega)
        have k2:=hy (by omega)
        simp only[Bool.false_eq_true,if_false]at k1
        simp only[if_true]at k2
        exact⟨decide_eq_true (.inr ⟨by show¬x.1=0;omega,rfl,k1.1,k1.2,k2.1,k2.2⟩),by show 0<256;omega⟩
theorem TGo.head{g:Nat→Nat}{L lim:Nat}{R:List Nat×Nat×Int}{T:List Tok}{M a:Nat}(h:TGo g L lim R T M (a,0) none):
  ((begR g L a).2.2≠0→∀b,TBad lim R T (b,(begR g L a).2.2))∧((begR g L a).2.2=0→TGo g L lim R T M ((begR g L a).2.1,0) (some (begR g L a).1)):=by
 have ht:=h.told
 have ha:a≤8*L:=h.place
 rw[told_head ha]at ht
 constructor
 ·intro h1 b
  rw[if_pos h1]at ht
  exact⟨⟨M,h.ok,h.room⟩,h1,by rw[←ht],by rw[←ht]⟩
 ·intro h1
  rw[if_neg (fun e=>e h1)]at ht
  exact⟨h.ok,h.room,rfl,(beg_fwd h1).2,ht⟩
def bdQ(lim M:Nat)(t:Tok)(q:Rz):Rz:=wantS (wantS q (decide (t.d≤(M:Int))) 60) (decide (M+lenT t≤lim)) 140
def bdT(lim M:Nat)(T:List Tok)(t:Tok)(q:Rz):List Tok:=if(bdQ lim M t q).2=0 then T++[t]else T
theorem bdQ_in(lim M:Nat)(t:Tok)(q:Rz):(bdQ lim M t q).1=q.1:=by unfold bdQ;rw[wantS_in,wantS_in]
theorem TGo.step{g:Nat→Nat}{L lim:Nat}{R:List Nat×Nat×Int}{T:List Tok}{M a:Nat}{k:Blk13}(h:TGo g L lim R T M (a,0) (some k)):
  ((stT k g L (a,0)).2.2.2≠0→TBad lim R T (stT k g L (a,0)).2.2)∧
  ((stT k g L (a,0)).2.2.2=0→(stT k g L (a,0)).2.1=true→if k.last=true then TFin lim R T (stT k g L (a,0)).2.2 else TGo g L lim R T M (stT k g L (a,0)).2.2 none)∧
  ((stT k g L (a,0)).2.2.2=0→(stT k g L (a,0)).2.1=false→mayT (stT k g L (a,0)).1=true∧(stT k g L (a,0)).1.x<256∧a+1≤(stT k g L (a,0)).2.2.1∧(stT k g L (a,0)).2.2.1≤8*L∧
   ((bdQ lim M (stT k g L (a,0)).1 (stT k g L (a,0)).2.2).2≠0→TBad lim R (bdT lim M T (stT k g L (a,0)).1 (stT k g L (a,0)).2.2) (bdQ lim M (stT k g L (a,0)).1 (stT k g L (a,0)).2.2))∧
   ((bdQ lim M (stT k g L (a,0)).1 (stT k g L (a,0)).2.2).2=0→TGo g L lim R (bdT lim M T (stT k g L (a,0)).1 (stT k g L (a,0)).2.2) (M+lenT (stT k g L (a,0)).1) (bdQ lim M (stT k g L (a,0)).1 (stT k g L (a,0)).2.2) (some (lessK k)))):=by
 have ht:=h.told
 have ha:a≤8*L:=h.place
 rw[told_step ha]at ht
 obtain⟨s1,s2⟩:=stT_is (k:=k) (g:=g) (L:=L) (a:=a)
 have hf:=next_fwd (k:=k) (g:=g) ha
 have hm:=next_may (k:=k) (g:=g) (L:=L) (a:=a)
 by_cases h1:(nextR k g L a).2.2.2≠0
 ·rw[if_pos h1]at ht
  have e1:=s2 h1
  refine⟨fun _=>⟨⟨M,h.ok,h.room⟩,by rw[e1];exact h1,by rw[e1,←ht],by rw[←ht]⟩,fun e=>absurd (e1.symm.trans e) h1,fun e=>absurd (e1.symm.trans e) h1⟩
 ·rw[if_neg h1]at ht
  have h0:(nextR k g L a).2.2.2=0:=by omega
  have e1:=s1 h0
  obtain⟨f1,f2,f3⟩:=hf h0
  have hm0:=hm h0
  rw[e1]
  generalize nextR k g L a=N at ht f1 f2 f3 hm0⊢
  obtain⟨t,en,b,e⟩:=N
  dsimp only at ht f1 f2 f3 hm0⊢
  refine⟨fun h=>absurd rfl h,fun _ he=>?_,fun _ he=>?_⟩
  ·rw[if_pos he]at ht
   by_cases hl:k.last=true
   ·rw[if_pos hl]at ht⊢
    exact⟨⟨M,h.ok,h.room⟩,rfl,by rw[←ht],by rw[←ht],by rw[←ht]⟩
   ·rw[if_neg hl]at ht⊢
    exact⟨h.ok,h.room,rfl,f2,ht⟩
  ·subst he
   rw[if_neg (by decide)]at ht
   obtain⟨m1,m2⟩:=hm0 rfl
   refine⟨m1,m2,f3 rfl,f2,?_⟩
   rw[←h.ok.len]at ht
   unfold bdT
   by_cases d1:(M:Int)<t.d
   ·rw[if_pos d1]at ht
    have e2:bdQ lim M t (b,0)=(b,60):=by
     unfold bdQ;rw[decide_eq_false (by omega)]
     have:(wantS (b,0) false 60:Rz)=(b,60):=rfl
     rw[this,wantS_err (s:=(b,60)) (show(60:Int)≠0 by decide)]
    rw[e2,if_neg (show¬(60:Int)=0 by decide)]
    exact⟨fun _=>⟨⟨M,h.ok,h.room⟩,show(60:Int)≠0 by decide,by rw[←ht],by rw[←ht]⟩,fun e=>absurd e (show¬(60:Int)=0 by decide)⟩
   ·rw[if_neg d1]at ht
    by_cases d2:lim<M+lenT t
    ·rw[if_pos d2]at ht
     have e2:bdQ lim M t (b,0)=(b,140):=by
      unfold bdQ;rw[decide_eq_true (show t.d≤(M:Int) by omega),decide_eq_false (by omega)];rfl
     rw[e2,if_neg (show¬(140:Int)=0 by decide)]
     exact⟨fun _=>⟨⟨M,h.ok,h.room⟩,show(140:Int)≠0 by decide,by rw[←ht],by rw[←ht]⟩,fun e=>absurd e (show¬(140:Int)=0 by decide)⟩
    ·rw[if_neg d2]at ht
     have e2:bdQ lim M t (b,0)=(b,0):=by
      unfold bdQ;rw[decide_eq_true (show t.d≤(M:Int) by omega),decide_eq_true (show M+lenT t≤lim by omega)];rfl
     rw[e2,if_pos rfl]
     exact⟨fun e=>absurd rfl e,fun _=>⟨h.ok.app ⟨m1,m2⟩ (by omega),by omega,rfl,f2,by rw[foldl_app];exact ht⟩⟩
end Go.Proofs.YtgokdgcmkcmjeaaGreat
namespace Go.Proofs.YtgokdgcmkcmjeaaGreat
open Go.RowKit
theorem wpIn_range_st{F:Fence}{n:Nat}{P:Program}{g:Operand}{ps:Array Tmp}{assign body:Code}{Q:Exit→Act→World→Prop}{a:Act}{w:World}
  (hro:F.round=none) (h1:1≤n) {gf:Nat} {lb:Array Value} (hg:a.eval g=.func (.func gf) #[] lb) (hFg:F.fn gf) (eg:∀args w,(callFunc gf args).run P w=.ok (.enter gf args) w)
  {σ:Type} (enc:σ→Array Value) (hps:∀s,(enc s).size=ps.size) (Is Ie:World→Prop) (I0 I1:σ→World→Prop)
  (hIs:OwnFrom w.heap.size (fun _:Unit=>Is)) (hI1:OwnFrom w.heap.size I1) (hIe:OwnFrom w.heap.size (fun _:Unit=>Ie))
  (hseq:∀(l:Nat) (X:World→Prop) (W:World),(∀W1 W2,X W1→(∀k,(k=w.heap.size∨k=w.heap.size+1)→W2.heap[k]?=W1.heap[k]?)→X W2)→
   (∀s W1,I0 s W1→w.heap.size+2≤W1.heap.size→X W1→YieldAt F (n-1-1) P l (enc s) W1 fun e W'=>e=.returned (.bool true)∧I1 s W'∧w.heap.size+2≤W'.heap.size∧X W')→
   w.heap.size+2≤W.heap.size→Is W→X W→CallsIn F (n-1) P gf (#[.func (.yield l) #[] #[]]++lb) W fun e W'=>(∃v,e=.returned v)∧Ie W'∧X W')
  (h0:Is w) (Ia:σ→Act→World→Prop) (hIa:∀a₁,OwnFrom w.heap.size (fun s=>Ia s a₁))
  (hassign:∀(l:Nat) (s:σ) (W:World) (K:Act→World→Prop),I0 s W→w.heap.size+2≤W.heap.size→(∀a₁ W₁,KeepsOthers W W₁→W.heap.size≤W₁.heap.size→Ia s a₁ W₁→K a₁ W₁)→
   assign.wpIn (F.inRound l) (n-1-1) P (Exit.then K (fun _ _ _=>False)) {tmps:=(ps.zip (enc s)).foldl (fun t (p,v)=>t.setIfInBounds p v) a.tmps,defers:=[]} W)
  (hbody:∀(l:Nat) (s:σ) (a₁:Act) (W:World),Ia s a₁ W→body.wpIn (F.inRound l) (n-1-1) P (fun e _ W'=>e=.normal∧KeepsOthers W W'∧W.heap.size≤W'.heap.size∧I1 s W') a₁ W)
  (hdone:∀(D:Nat) (W:World),w.heap.size≤D→Ie W→W.heap[D]?=some (.deferred (some []))→Q .normal {a with defers:={target:=.collected D,args:=#[]}::a.defers} W):
  (Code.rangeFunc g ps assign body).wpIn F n P Q a w:=by
 refine wpIn_rangeFunc fun fn hfn=>?_
 rw[hro]
 obtain⟨rec,hrec⟩:∃rec:LoopState→Loop,rec=fun st=>{state:=st,pending:=none,fn,tmps:=a.tmps,params:=ps,assign,body,defers:=w.heap.size}:=⟨_,rfl⟩
 obtain⟨D,hD⟩:∃D,D=w.heap.size:=⟨_,rfl⟩
 obtain⟨W1,hW1⟩:∃W1,W1=(w.alloc (.deferred (some []))).alloc (.loop (rec .ready)):=⟨_,rfl⟩
 have hL1:W1.heap[D+1]?=some (.loop (rec .ready)):=by
  rw[hW1,hD];have h:=World.alloc_heap_new (w.alloc (.deferred (some []))) (.loop (rec .ready));rwa[World.size_alloc]at h
 have hK1:W1.heap[D]?=some (.deferred (some [])):=by
  rw[hW1,hD];exact(Below.heap_alloc _ _ _ (by simp)).trans (World.alloc_heap_new w _)
 have hI1':Is W1:=by rw[hW1];exact hIs.alloc (s:=()) _ (hIs.alloc (s:=()) _ h0)
 have hs1:W1.heap.size=D+2:=by rw[hW1,hD];simp
 refine⟨D+1,[{target:=.collected D,args:=#[]}],W1,{target:=.fn (.func gf) lb,args:=#[.func (.yield (D+1)) #[] #[]]},W1,gf,#[.func (.yield (D+1)) #[] #[]]++lb,W1,?_,?_,?_,?_,fun _=>h1,?_⟩
 ·rw[hW1,hrec,hD];exact run_enterLoop_outer _ _ _ _ _
 ·simp only[resolve,hg]
  simp[go_sem]
 ·intro f' hf';simp[Target.leads]at hf';subst hf';exact hFg
 ·simp[invoke,go_sem,eg]
 ·refine(hseq (D+1) (fun W=>W.heap[D+1]?=some (.loop (rec .ready))∧W.heap[D]?=some (.deferred (some []))) W1 ?_ ?_ (by omega) hI1' ⟨hL1,hK1⟩).mono ?_
  ·rintro A B ⟨hl,hk⟩ hb
   exact⟨(hb _ (.inr (by omega))).trans hl,(hb _ (.inl hD)).trans hk⟩
  ·rintro s W hi hsz ⟨hl,hk⟩
   have hlt:D+1<W.heap.size:=(Array.getElem?_eq_some_iff.1 hl).1
   have hy:=run_yield (P:=P) (args:=enc s) hl (by rw[hrec];exact hps s)
   rw[hrec]at hy
   refine⟨fn,_,assign,body,hy,roundIn_of_wpIn hfn (hassign _ s W _ hi hsz fun a₁ Wa hko hsa hia=>?_)⟩
   have hla:=hko.same _ _ hl rfl
   have hka:=hko.same _ _ hk rfl
   have hlta:D+1<Wa.heap.size:=(Array.getElem?_eq_some_iff.1 hla).1
   refine⟨_,run_beginRound hla (by rw[hrec]),?_⟩
   have hl2:(Wa.putObj (D+1) (.loop {rec .ready with state:=.busy})).heap[D+1]?=some (.loop {rec .ready with state:=.busy}):=World.putObj_heap_same hlta
   have hk2:(Wa.putObj (D+1) (.loop {rec .ready with state:=.busy})).heap[D]?=some (.deferred (some [])):=(World.putObj_heap_other (by omega)).trans hka
   have hsp:∀(V:World) (i:Nat) (o:Obj),(V.putObj i o).heap.size=V.heap.size:=fun V i o=>by simp[World.putObj]
   refine wpIn_mono (hbody _ s _ _ ((hIa a₁).putObj _ hia (by omega) hla rfl)) ?_
   rintro e a3 W3 ⟨rfl,hk3,hs3,hi3⟩
   have hl3:=hk3.same _ _ hl2 rfl
   have hr:=run_endRound (P:=P) none hl3
   rw[hrec]at hr hl3
   refine⟨_,_,hr,rfl,hI1.putObj _ hi3 (by omega) hl3 rfl,?_,?_,(World.putObj_heap_other (by omega)).trans (hk3.same _ _ hk2 rfl)⟩
   ·rw[hsp]at hs3⊢;omega
   ·rw[World.putObj_heap_same (Array.getElem?_eq_some_iff.1 hl3).1,hrec];rfl
  ·rintro e W2 ⟨⟨v,rfl⟩,hi,hl,hk⟩
   refine⟨none,_,by have h:=run_endLoop (P:=P) hl (by rw[hrec];simp);rw[hrec]at h;exact h,?_⟩
   exact hdone D _ (by omega) (hIe.putObj (s:=()) _ hi (by omega) hl rfl) ((World.putObj_heap_other (by omega)).trans hk)
end Go.Proofs.YtgokdgcmkcmjeaaGreat
namespace Go.Proofs.YtgokdgcmkcmjeaaGreat
open Go.RowKit Go.ChangeShapes Go.WideShapes Go.ChangeAt Go.Joins
theorem play8_any(w:World)(A:Option Addr)(n c:Nat)(f:Nat→Nat)(A2:Option Addr)(m c2:Nat)(l:List Tok)(hr:ByR w w.heap.size A n c f)(ht:TkR w w.heap.size A2 m c2 l)(hin:∀t∈l,TokIn t):
  Calls Tryz.prog 76 #[.slice A n c,.slice A2 m c2] w fun e w'=>∃A' n' c',e=.returned (.tuple #[.slice A' n' c',.int .i64 (plyO f n l).1])∧n'=(plyO f n l).2.length∧ByR w' w'.heap.size A' n' c' (lst (plyO f n l).2)∧Below w.heap.size w w'∧NewB w' w.heap.size A' n':=by
 obtain⟨hm,ht2,_⟩:=ht
 obtain⟨O,hO⟩:∃O,O=plyO f n l:=⟨_,rfl⟩
 rw[←hO]
 have HR:=Lib.hid hr;have HT:=Lib.hid ht2;have HX:=Lib.hid hin;have HM:=Lib.hid hm;have HO:=Lib.hid hO
 have hnl:∀j,lst [] j<256:=fun j=>by unfold lst;simp
 clear hr ht2 hin hO
 by_cases hbig:131072<n∨131072<m
 ·have e:O=(4,[]):=HO.out.trans (if_pos (by rw[←hm];exact hbig))
  subst e
  by_cases q2:131072<n
  ·have d1:decide (131072<(n:Int))=true:=by simp;omega
   clear hm
   go_enter Tryz.func76,Tryz.ntmps76
   go_wp2
   go_ret2
   exact⟨none,0,0,rfl,rfl,ByR.nil _ _ _ hnl,Below.refl _ _,NewB.nil _ _ _⟩
  ·have d1:decide (131072<(n:Int))=false:=by simp;omega
   have d2:decide (131072<(m:Int))=true:=by simp;omega
   clear hm
   go_enter Tryz.func76,Tryz.ntmps76
   go_wp2
   go_ret2
   exact⟨none,0,0,rfl,rfl,ByR.nil _ _ _ hnl,Below.refl _ _,NewB.nil _ _ _⟩
 have d1:decide (131072<(n:Int))=false:=by simp;omega
 have d2:decide (131072<(m:Int))=false:=by simp;omega
 have hO2:O=plyR n l (preL f n):=HO.out.trans (if_neg (by rw[←hm];exact hbig))
 have hL0:∀x∈preL f n,x<256:=fun x hx=>by
  unfold preL at hx;rw[List.mem_map]at hx;obtain⟨i,_,rfl⟩:=hx;exact HR.out.1.1 i
 have HCL:=Lib.hid (clone8_any w A n c f HR.out (by omega))
 have HL0:=Lib.hid hL0;have HO2:=Lib.hid hO2
 have hn1:n≤131072:=by omega
 have hm1:m≤131072:=by omega
 clear hL0 hO2 HO hm hbig
 go_enter Tryz.func76,Tryz.ntmps76
 go_wp2_with fail
 refine HCL.out.mono ?_
 rintro e w1 ⟨A1,c1,rfl,hown,hb1⟩
 rw[preL_lst]at hown
 have HOWN:=Lib.hid hown;have HB1:=Lib.hid hb1
 clear hown hb1 HCL
 go_wp2_with fail
 go_loopw [6,22] (fun ov iv wr=>∃(i q:Nat) (At:Option Addr) (ct:Nat) (L:List Nat),i≤m∧n≤q∧q≤n+131072∧ov=.slice At q ct∧iv=.int .i64 (i:Int)∧Hid (q=L.length)∧Hid (plyR n (l.drop i) L=O)∧Hid (∀x∈L,x<256)∧Hid (wr.ownsRow w.heap.size 5 1 (.slice At q ct) q (bytesL q (lst L)))∧Hid (Below w.heap.size w wr)) (fun _ iv _=>m-(intOf iv).toNat)
 case atStart=>exact⟨0,n,A1,c1,preL f n,Nat.zero_le _,Nat.le_refl _,by omega,rfl,rfl,Lib.hid (preL_length f n).symm,Lib.hid HO2.out.symm,HL0,HOWN,HB1⟩
 case round=>
  obtain⟨i,q,At,ct,L,hi,hnq,hqb,rfl,rfl,HQ,HP,HL,HW,HB⟩:=hrel
  by_cases hlt:i<m
  ·have hlti:(i:Int)<(m:Int):=by omega
   have hil:i<l.length:=by rw[←HM.out];exact hlt
   have htw:=HT.out.below HB.out (Nat.le_refl _)
   obtain⟨b,o,rfl,hbl,hc⟩:=htw.at hil
   have hrg:=htw.range rfl hil
   have hstep:=plyR_step (A:=n) hil L
   obtain⟨t,hte⟩:∃t,t=l.getD i tok0:=⟨_,rfl⟩
   rw[←hte]at hrg hstep
   have hti:TokIn t:=by
    rw[hte,List.getD_eq_getElem?_getD,List.getElem?_eq_getElem hil];exact HX.out _ (List.getElem_mem hil)
   rw[HP.out,←HQ.out]at hstep
   clear hte hil hc htw
   obtain⟨tx,td,tn⟩:=t
   obtain⟨mb,hmb⟩:∃mb,mb=mayT ⟨tx,td,tn⟩:=⟨_,rfl⟩
   obtain⟨h,hh⟩:∃h,h=wr.heap.size:=⟨_,rfl⟩
   obtain⟨W2,hW2⟩:∃W2,W2=mkV wr #[.int .u8 0,.int .i64 0,.int .i64 0] (tokC ⟨tx,td,tn⟩).toArray 36:=⟨_,rfl⟩
   have hb2:Below wr.heap.size wr W2:=by rw[hW2];exact mkV_below _ _ _ _
   have hrow:W2.heap[h]?=some (.cells (tokC ⟨tx,td,tn⟩).toArray 36 (0,0)):=by rw[hW2,hh];exact mkV_row wr _ _ _
   have hs2:h<W2.heap.size:=by rw[hW2,hh,mkV_size];omega
   have htk:=tok8_any W2 ⟨tx,td,tn⟩ hti
   obtain⟨E,hE⟩:∃E,E=tokE ⟨tx,td,tn⟩:=⟨_,rfl⟩
   rw[←hE]at htk
   have hEb:E=if mb=true then 0 else 8:=by rw[hE,hmb];rfl
   have x0:W2.cell? ⟨h,0,none⟩=some (.int .u8 (tx:Int)):=(cell_of_row W2 _ 0 _ _ (0,0) hrow).trans rfl
   have x1:W2.cell? ⟨h,1,none⟩=some (.int .i64 td):=(cell_of_row W2 _ 1 _ _ (0,0) hrow).trans rfl
   have x2:W2.cell? ⟨h,2,none⟩=some (.int .i64 tn):=(cell_of_row W2 _ 2 _ _ (0,0) hrow).trans rfl
   have HRG:=Lib.hid hrg;have HSTEP:=Lib.hid hstep;have HTI:=Lib.hid hti;have HMB:=Lib.hid hmb;have HH:=Lib.hid hh;have HW2:=Lib.hid hW2;have HB2:=Lib.hid (HB.out.trans (hb2.mono HB.out.size));have HROW:=Lib.hid hrow;have HTK:=Lib.hid htk;have HWW:=Lib.hid (own_keep HW.out hb2);have HEB:=Lib.hid hEb
   clear hrg hstep hmb hti hW2 hb2 hrow htk hh HW HB hE hEb
   go_wp2_with (first|refine wpList_load_mid rfl _ _ rfl b (o+i*3) rfl (tokC ⟨tx,td,tn⟩) _ HRG.out Tryz.underlying36 rfl szTok ?_|refine wpList_store_rowTo rfl _ _ _ rfl rfl wr.heap.size (tokC ⟨tx,td,tn⟩).toArray rfl rfl 36 #[.int .u8 0,.int .i64 0,.int .i64 0] (heap_alloc_new wr _) (szTokA _) rfl (tokA_one _) ?_;change wpList _ _ _ _ _ (mkV wr #[.int .u8 0,.int .i64 0,.int .i64 0] (tokC ⟨tx,td,tn⟩).toArray 36);rw[←HW2.out,←HH.out])
   refine HTK.out.mono ?_
   rintro e w3 ⟨rfl,hb3⟩
   have HB3:=Lib.hid (HB2.out.trans (hb3.mono HB2.out.size))
   have HW3:=Lib.hid (own_keep HWW.out hb3)
   have y0:=(hb3.cell (p:=⟨h,0,none⟩) hs2).trans x0
   have y1:=(hb3.cell (p:=⟨h,1,none⟩) hs2).trans x1
   have y2:=(hb3.cell (p:=⟨h,2,none⟩) hs2).trans x2
   have hst:=HSTEP.out
   clear x0 x1 x2 hs2 hb3 HSTEP HTK HWW HB2 HRG HW2 HROW
   cases mb with
   |false=>
    rw[if_pos HMB.out.symm]at hst
    subst hst
    obtain rfl:E=8:=HEB.out
    clear y0 y1 y2
    go_wp2
    go_ret2
    exact⟨none,0,0,rfl,rfl,ByR.nil _ _ _ hnl,HB3.out,NewB.nil _ _ _⟩
   |true=>
    rw[if_neg (by rw[←HMB.out];decide)]at hst
    obtain rfl:E=0:=HEB.out
    by_cases hdq:(q:Int)<td
    ·rw[if_pos hdq]at hst
     subst hst
     go_wp2
     go_ret2
     exact⟨none,0,0,rfl,rfl,ByR.nil _ _ _ hnl,HB3.out,NewB.nil _ _ _⟩
    rw[if_neg hdq]at hst
    have HBE:=Lib.hid (behind8_any w3 w.heap.size ⟨tx,td,tn⟩ At ct q L HQ.out HL.out HTI.out.1 HW3.out HB3.out.size (by omega) HMB.out.symm (by show td≤(q:Int);omega))
    have HST:=Lib.hid hst
    clear hst
    go_wp2_with fail
    refine HBE.out.mono ?_
    rintro e w4 ⟨A',q',c',rfl,hq',ho4,hb4⟩
    have hl:=len_stp L ⟨tx,td,tn⟩
    have hlt2:=lenT_le HMB.out.symm
    have hst:=HST.out
    rw[←hq',←HQ.out]at hl
    have HB4:=Lib.hid (HB3.out.trans hb4)
    have hLs:∀x∈stpT L ⟨tx,td,tn⟩,x<256:=stp_lt HL.out HTI.out.1
    obtain⟨g,hg⟩:∃g,g=q'-n:=⟨_,rfl⟩
    have eg:(q':Int)-(n:Int)=(g:Int):=by omega
    rw[show q-n+lenT ⟨tx,td,tn⟩=g by omega]at hst
    have HQ4:=Lib.hid hq';have HO4:=Lib.hid ho4;have HLS:=Lib.hid hLs
    have hq4:n≤q'∧q'≤n+131072+258:=by omega
    obtain⟨hq5,hq6⟩:=hq4
    have hq7:g=q'-n:=hg
    clear hq' ho4 hb4 hLs hl hlt2 y0 y1 y2 HBE HST hg
    by_cases hmany:131072<g
    ·rw[if_pos hmany]at hst
     subst hst
     have dm:131072<(g:Int):=by omega
     clear hq7
     go_wp2
     go_ret2
     exact⟨none,0,0,rfl,rfl,ByR.nil _ _ _ hnl,HB4.out,NewB.nil _ _ _⟩
    ·rw[if_neg hmany]at hst
     have dm:¬131072<(g:Int):=by omega
     have hq8:q'≤n+131072:=by omega
     have HP1:=Lib.hid hst.symm
     clear hq7 hst hmany
     go_wp2
     go_roundw
     case rel=>
      exact⟨i+1,q',A',c',stpT L ⟨tx,td,tn⟩,by omega,hq5,hq8,rfl,by go_num,HQ4,HP1,HLS,HO4,HB4⟩
     case measure=>simp[intOf];omega
  ·obtain rfl:i=m:=by omega
   have hlti:¬(i:Int)<(i:Int):=by omega
   have hfin:=HP.out
   have hdr:l.drop i=[]:=List.drop_eq_nil_of_le (by rw[←HM.out];exact Nat.le_refl _)
   rw[hdr]at hfin
   have hO3:O=(0,L.drop n):=hfin.symm
   subst hO3
   have hby:=ByR.of_own HW.out (lst_lt HL.out)
   have hlen:q-n=(L.drop n).length:=by rw[List.length_drop,HQ.out]
   have hdl:∀j,lst L (j+n)=lst (L.drop n) j:=fun j=>by
    unfold lst
    rw[List.getD_eq_getElem?_getD,List.getD_eq_getElem?_getD,List.getElem?_drop,Nat.add_comm]
   have hl6:∀j,lst (L.drop n) j<256:=lst_lt fun x hx=>HL.out x (List.mem_of_mem_drop hx)
   have hqc:q≤ct:=hby.2.2.1
   have hni:(n:Int)≤(q:Int):=by omega
   rcases At with _|ad
   ·have hc0:=hby.2.1 rfl
    obtain rfl:ct=0:=hc0
    have hq0:q=0:=by omega
    have hn0:n=0:=by omega
    subst hq0;subst hn0
    have hfin:ByR wr wr.heap.size none 0 0 (lst (L.drop 0)):=ByR.nil _ _ _ hl6
    have HFIN:=Lib.hid hfin;have HLEN:=Lib.hid hlen
    clear hfin hby hlen hdl hl6 hdr
    go_wp2
    go_ret2
    exact⟨none,0,0,rfl,(by have:=HLEN.out;simpa using this),HFIN.out,HB.out,NewB.nil _ _ _⟩
   ·obtain⟨A3,hA3⟩:∃A3,(if ct=n then(some ad:Option Addr)else some (ad.add n))=A3:=⟨_,rfl⟩
    have hfin:=(hby.drop (p:=n) hnq hA3).ext hl6 (fun j _=>hdl j)
    have hnew:=NewB.of_own HW.out hqc hnq hA3
    have HFIN:=Lib.hid hfin;have HLEN:=Lib.hid hlen;have HNEW:=Lib.hid hnew
    clear hfin hby hlen hdl hl6 hdr hnew
    go_wp2
    go_ret2
    exact⟨A3,q-n,ct-n,rfl,(by have:=HLEN.out;simpa using this),HFIN.out,HB.out,HNEW.out⟩
end Go.Proofs.YtgokdgcmkcmjeaaGreat
namespace Go.Proofs.YtgokdgcmkcmjeaaGreat
open Go.RowKit Go.ChangeShapes Go.WideShapes Go.ChangeAt Go.Joins
attribute [local go_sem] Oper.semAt_some
attribute [local simp] wide_fn
theorem run_oneT_g(w:World)(base:Nat)(A:Option Addr)(n c:Nat)(l:List Tok)(hown:w.ownsRow base 36 3 (.slice A n c) n (toksL l))(t:Tok)(hn:n≤1000000)(hbase:base≤w.heap.size):
  ∃A' c' w',(Builtin.append_ #[60,60] 60 #[.slice A n c,.slice (some ⟨w.heap.size,0,none⟩) 1 1]).run Tryz.prog (w.alloc (.cells #[.int .u8 (t.x:Int),.int .i64 t.d,.int .i64 t.n] 36))=.ok (.slice A' (n+1) c') w'∧
   w'.ownsRow base 36 3 (.slice A' (n+1) c') (n+1) (toksL (l++[t]))∧Below base w w'∧KeepsOthers w w'∧(∀k,k<w.heap.size→(Value.slice A n c).ownBlock≠some k→w'.heap[k]?=w.heap[k]?):=by
 have hb1:Below base w (w.alloc (.cells #[.int .u8 (t.x:Int),.int .i64 t.d,.int .i64 t.n] 36)):=(Below.refl base w).alloc hbase _
 have ho1:=hown.alloc (.cells #[.int .u8 (t.x:Int),.int .i64 t.d,.int .i64 t.n] 36)
 obtain⟨A',c',w',h2,o2,b2⟩:=run_app_g (by_:=24) Tryz.underlying60 infoTok rfl (by decide) (w.alloc (.cells #[.int .u8 (t.x:Int),.int .i64 t.d,.int .i64 t.n] 36)) base _ (.slice A n c) n _ ho1 _ 1 1 _
  (SrcL.new w 3 1 #[.int .u8 (t.x:Int),.int .i64 t.d,.int .i64 t.n] 36 rfl) (fun u hu=>by simp at hu;rcases hu with rfl|rfl|rfl<;>rfl) (by unfold maxLen;omega) (by omega) 60 (fun h=>by cases h) (Nat.le_trans hbase hb1.size)
 refine⟨A',c',w',h2,?_,hb1.trans ((Below.refl base _).grown b2 (Nat.le_trans hbase hb1.size) (own_geS ho1)),(KeepsOthers.alloc w _).trans (KeepsOthers.of_grownBy b2 (own_cells ho1)),fun k hk hne=>?_⟩
 ·rw[toksL_app];exact o2
 ·refine(b2.block k (by simp;omega) (fun e=>hne e.symm)).trans ?_
  exact(Below.refl w.heap.size w).alloc (Nat.le_refl _) (.cells #[.int .u8 (t.x:Int),.int .i64 t.d,.int .i64 t.n] 36)|>.block k hk
theorem grown_cells{W W':World}{row:Option Nat}{x:Nat}{cs:Array Value}{t:TypeId}{fr:Nat×Nat}(h:W.heap[x]?=some (.cells cs t fr))(hg:W.grownBy W' row)(hr:∀r,row=some r→∃o:Obj,W.heap[r]?=some o∧o.isCells=false):W'.heap[x]?=some (.cells cs t fr):=by
 refine(hg.block x (Array.getElem?_eq_some_iff.1 h).1 fun he=>?_).trans h
 obtain⟨o,ho,hc⟩:=hr x he.symm
 rw[ho]at h
 cases h;cases hc
end Go.Proofs.YtgokdgcmkcmjeaaGreat
namespace Go.Proofs.YtgokdgcmkcmjeaaGreat
open Go.RowKit Go.Shelf
attribute [local go_sem] Oper.semAt_some
attribute [local simp] wide_fn
structure Lie where
 w0:World
 p:Nat
 A:Option Addr
 l:Nat
 c:Nat
 z:Nat
 lim:Nat
 ds:List Nat
 top:Nat
 ok:w0.heap.size=z∧p<z
 tok:z≤top
def Lie.u(x:Lie):Nat:=x.z+4
structure Col (x:Lie) (T:List Tok) (M:Nat) (q:Rz) (W:World):Prop where
 rdr:Rdr W x.p x.A x.l x.c q
 bp:Boxed W x.z 112 (.pointer (some ⟨x.p,0,none⟩))
 bm:Boxed W (x.z+1) 3 (.int .i64 (x.lim:Int))
 bd:Boxed W (x.z+3) 3 (.int .i64 (M:Int))
 row:∃(B:Option Addr) (n:Nat),Boxed W (x.z+2) 60 (.slice B T.length n)∧W.ownsRow x.u 36 3 (.slice B T.length n) T.length (toksL T)
 fr:Fr (At x.p) x.w0 W
 mks:∀D∈x.ds,x.z≤D∧D<x.top∧W.heap[D]?=some (.deferred (some []))
theorem mark_ne{W:World}{D g:Nat}{cs:Array Value}{t:TypeId}(h:W.heap[D]?=some (.deferred (some [])))(hb:W.heap[g]?=some (.cells cs t (0,0))):D≠g:=fun e=>by
 subst e;rw[h]at hb;cases hb
theorem boxed_fr{S:Nat→Prop}{w w':World}{g:Nat}{v:Value}{t:TypeId}(h:Boxed w g t v)(k:Fr S w w')(hg:¬S g):Boxed w' g t v:=BoxC.fr h k hg
theorem Col.step{x:Lie}{T:List Tok}{M:Nat}{q q':Rz}{W W':World}(h:Col x T M q W)(f:Fr (At x.p) W W')(r:Rdr W' x.p x.A x.l x.c q'):Col x T M q' W':=by
 obtain⟨B,n,b,o⟩:=h.row
 have hp:=x.ok
 have hn:∀i,¬At x.p (x.z+i):=fun i (e:x.z+i=x.p)=>by omega
 exact⟨r,boxed_fr h.bp f (hn 0),boxed_fr h.bm f (hn 1),boxed_fr h.bd f (hn 3),⟨B,n,boxed_fr b f (hn 2),own_fr o f (fun j (e:j=x.p)=>by unfold Lie.u;omega)⟩,h.fr.trans f,fun D hD=>by
  obtain⟨d1,d2,d3⟩:=h.mks D hD
  exact⟨d1,d2,(f.block D (Array.getElem?_eq_some_iff.1 d3).1 (fun(e:D=x.p)=>by omega)).trans d3⟩⟩
theorem Col.on{x:Lie}{T:List Tok}{M:Nat}{q:Rz}{W W':World}(h:Col x T M q W)(f:Below W.heap.size W W'):Col x T M q W':=h.step (Fr.of f) (BoxC.below h.rdr f h.rdr.lt)
theorem Fr.grown{S:Nat→Prop}{w W W':World}{row:Option Nat}(h:Fr S w W)(hg:W.grownBy W' row)(hr:∀r,row=some r→w.heap.size≤r):Fr S w W':=
 ⟨hg.os.trans h.os,hg.tape.trans h.tape,hg.output.trans h.output,Nat.le_trans h.size hg.size,fun i hi hS=>(hg.block i (Nat.lt_of_lt_of_le hi h.size) (fun e=>by have:=hr i e.symm;omega)).trans (h.block i hi hS)⟩
theorem Col.grown{x:Lie}{T:List Tok}{M:Nat}{q:Rz}{W W':World}{row:Option Nat}(h:Col x T M q W)(hg:W.grownBy W' row)(hr:∀r,row=some r→x.top≤r∧∃o:Obj,W.heap[r]?=some o∧o.isCells=false):Col x T M q W':=by
 obtain⟨B,n,b,o⟩:=h.row
 have hk:=fun r e=>(hr r e).2
 exact⟨grown_cells h.rdr hg hk,grown_cells h.bp hg hk,grown_cells h.bm hg hk,grown_cells h.bd hg hk,⟨B,n,grown_cells b hg hk,own_grown o hg hk⟩,h.fr.grown hg fun r e=>(by rw[x.ok.1];exact Nat.le_trans x.tok (hr r e).1),fun D hD=>by
  obtain⟨d1,d2,d3⟩:=h.mks D hD
  exact⟨d1,d2,(hg.block D (Array.getElem?_eq_some_iff.1 d3).1 (fun e=>by have:=(hr D e.symm).1;omega)).trans d3⟩⟩
structure Blo (x:Lie) (k:Blk13) (c1 c2:Nat→Int) (v1 v2:Value) (y1 y2:List Int) (b:Nat) (left:Nat) (W:World):Prop where
 bp:Boxed W b 112 (.pointer (some ⟨x.p,0,none⟩))
 bk:BoxC W (b+1) (blkT k.kind k.last left c1 c2 v1 v2) 28
 o1:OwnS W x.u v1 y1
 o2:OwnS W x.u v2 y2
 le:x.u≤b
theorem Blo.fr{x:Lie}{k:Blk13}{c1 c2:Nat→Int}{v1 v2:Value}{y1 y2:List Int}{b left:Nat}{W W':World}(h:Blo x k c1 c2 v1 v2 y1 y2 b left W)(f:Fr (At x.p) W W'):Blo x k c1 c2 v1 v2 y1 y2 b left W':=by
 have hp:=x.ok
 have hl:=h.le
 unfold Lie.u at hl
 have hS:∀j,At x.p j→j<x.u:=fun j (e:j=x.p)=>by unfold Lie.u;omega
 exact⟨boxed_fr h.bp f (fun(e:b=x.p)=>by omega),h.bk.fr f (fun(e:b+1=x.p)=>by omega),h.o1.fr f hS,h.o2.fr f hS,h.le⟩
theorem Blo.grown{x:Lie}{k:Blk13}{c1 c2:Nat→Int}{v1 v2:Value}{y1 y2:List Int}{b left:Nat}{W W':World}{row:Option Nat}(h:Blo x k c1 c2 v1 v2 y1 y2 b left W)(hg:W.grownBy W' row)(hk:∀r,row=some r→∃o:Obj,W.heap[r]?=some o∧o.isCells=false):Blo x k c1 c2 v1 v2 y1 y2 b left W':=
 ⟨grown_cells h.bp hg hk,grown_cells h.bk hg hk,own_grown h.o1 hg hk,own_grown h.o2 hg hk,h.le⟩
theorem blkT_left(k:Nat)(b:Bool)(l l':Nat)(c1 c2:Nat→Int)(v1 v2:Value):(blkT k b l c1 c2 v1 v2).setIfInBounds 2 (.int .i64 (l':Int))=blkT k b l' c1 c2 v1 v2:=by kernel_rfl
theorem Blo.less{x:Lie}{k:Blk13}{c1 c2:Nat→Int}{v1 v2:Value}{y1 y2:List Int}{b left:Nat}{W:World}(h:Blo x k c1 c2 v1 v2 y1 y2 b left W)(left':Nat):Blo x k c1 c2 v1 v2 y1 y2 b left' (W.setCell ⟨b+1,2,none⟩ (.int .i64 (left':Int))):=by
 have f:=Fr.cell W (b+1) 2 (.int .i64 (left':Int))
 refine⟨boxed_fr h.bp f (fun(e:b=b+1)=>by omega),?_,?_,?_,h.le⟩
 ·have:=h.bk.set 2 (.int .i64 (left':Int));rwa[blkT_left]at this
 ·exact own_blk h.o1 fun j hj=>f.block j (own_blk_lt h.o1 j hj).2 fun(e:j=b+1)=>own_type h.o1 h.bk (by kernel_rfl) (e▸hj)
 ·exact own_blk h.o2 fun j hj=>f.block j (own_blk_lt h.o2 j hj).2 fun(e:j=b+1)=>own_type h.o2 h.bk (by kernel_rfl) (e▸hj)
theorem Col.less{x:Lie}{T:List Tok}{M:Nat}{q:Rz}{k:Blk13}{c1 c2:Nat→Int}{v1 v2:Value}{y1 y2:List Int}{b left:Nat}{W:World}(h:Col x T M q W)(hb:Blo x k c1 c2 v1 v2 y1 y2 b left W)(left':Nat):Col x T M q (W.setCell ⟨b+1,2,none⟩ (.int .i64 (left':Int))):=by
 obtain⟨B,n,b',o⟩:=h.row
 have hp:=x.ok
 have hl:=hb.le
 unfold Lie.u at hl
 have f:=Fr.cell W (b+1) 2 (.int .i64 (left':Int))
 have hn:∀i,i<4→¬At (b+1) (x.z+i):=fun i hi (e:x.z+i=b+1)=>by omega
 exact⟨h.rdr.fr f (fun(e:x.p=b+1)=>by omega),boxed_fr h.bp f (hn 0 (by omega)),boxed_fr h.bm f (hn 1 (by omega)),boxed_fr h.bd f (hn 3 (by omega)),⟨B,n,boxed_fr b' f (hn 2 (by omega)),own_blk o fun j hj=>f.block j (own_blk_lt o j hj).2 fun(e:j=b+1)=>own_type o hb.bk (by kernel_rfl) (e▸hj)⟩,h.fr.from f fun j (e:j=b+1)=>.inr (by rw[x.ok.1];omega),fun D hD=>by
  obtain⟨d1,d2,d3⟩:=h.mks D hD
  exact⟨d1,d2,(f.block D (Array.getElem?_eq_some_iff.1 d3).1 (fun(e:D=b+1)=>mark_ne d3 hb.bk e)).trans d3⟩⟩
structure Sy where
 T:List Tok
 M:Nat
 q:Rz
 left:Nat
 t:Tok
def encY(s:Sy):Array Value:=#[.agg #[.int .u8 (s.t.x:Int),.int .i64 s.t.d,.int .i64 s.t.n]]
def SyOk(x:Lie)(s:Sy):Prop:=s.q.2=0∧s.q.1≤8*x.l∧s.M≤x.lim∧s.T.length≤s.M∧mayT s.t=true∧s.t.x<256
def I0y(x:Lie)(k:Blk13)(c1 c2:Nat→Int)(v1 v2:Value)(y1 y2:List Int)(b:Nat)(s:Sy)(W:World):Prop:=Col x s.T s.M s.q W∧Blo x k c1 c2 v1 v2 y1 y2 b s.left W∧SyOk x s
def I1y(x:Lie)(k:Blk13)(c1 c2:Nat→Int)(v1 v2:Value)(y1 y2:List Int)(b:Nat)(s:Sy)(W:World):Prop:=
 Col x (bdT x.lim s.M s.T s.t s.q) (s.M+lenT s.t) (bdQ x.lim s.M s.t s.q) W∧Blo x k c1 c2 v1 v2 y1 y2 b s.left W∧SyOk x s
def EndB(g:Nat→Nat)(x:Lie)(k:Blk13)(R:List Nat×Nat×Int)(T:List Tok)(M:Nat)(q:Rz)(lo:Nat):Prop:=TBad x.lim R T q∨((if k.last=true then TFin x.lim R T q else TGo g x.l x.lim R T M q none)∧lo≤q.1)
def IeY(g:Nat→Nat)(x:Lie)(k:Blk13)(R:List Nat×Nat×Int)(lo:Nat)(W:World):Prop:=∃T M q,Col x T M q W∧EndB g x k R T M q lo
def InB(g:Nat→Nat)(x:Lie)(k:Blk13)(Gd:Prop)(R:List Nat×Nat×Int)(T:List Tok)(M:Nat)(q:Rz)(left lo:Nat):Prop:=(Gd∧TGo g x.l x.lim R T M q (some {k with left:=left})∧lo≤q.1)∨(TBad x.lim R T q∧q.1≤8*x.l)
def IsY(g:Nat→Nat)(x:Lie)(k:Blk13)(c1 c2:Nat→Int)(v1 v2:Value)(y1 y2:List Int)(b:Nat)(Gd:Prop)(R:List Nat×Nat×Int)(lo:Nat)(W:World):Prop:=
 ∃T M q left,Col x T M q W∧Blo x k c1 c2 v1 v2 y1 y2 b left W∧left≤65535∧(k.kind≠0→left=0)∧InB g x k Gd R T M q left lo
end Go.Proofs.YtgokdgcmkcmjeaaGreat
