/-
  Words and walks.
-/
import Derived.Test.YtgokdgcmkcmjeaaGreatprah
import Derived.Test.YtgokdgcmkcmjeaaGreatprai
import Derived.Test.YtgokdgcmkcmjeaaGreatprak
import Derived.Test.YtgokdgcmkcmjeaaGreatprbb
set_option maxRecDepth 100000
set_option maxHeartbeats 16000000
namespace Go.Proofs.YtgokdgcmkcmjeaaGreat
open Go.RowKit
def blkI(kd:Nat)(last:Bool)(left:Int)(c1 c2:Nat→Int)(v1 v2:Value):Array Value:=(.int .u8 (kd:Int)::.bool last::.int .i64 left::(trL c1 v1++trL c2 v2)).toArray
theorem blkI_size(k:Nat)(b:Bool)(l:Int)(c1 c2:Nat→Int)(v1 v2:Value):(blkI k b l c1 c2 v1 v2).size=37:=by simp[blkI,trL,cntV]
theorem blkT_I(k:Nat)(b:Bool)(l:Nat)(c1 c2:Nat→Int)(v1 v2:Value):blkT k b l c1 c2 v1 v2=blkI k b (l:Int) c1 c2 v1 v2:=rfl
def emptyT(c:Nat→Int)(s:List Int):Bool:=sameT c (fun _=>0) s []
def MayI(kd:Nat)(left:Int)(c1:Nat→Int)(s1:List Int)(c2:Nat→Int)(s2:List Int):Prop:=
 (kd=0∧0≤left∧left≤65535∧emptyT c1 s1=true∧emptyT c2 s2=true)∨((kd=1∨kd=2)∧left=0∧(∃f,IsTree c1 s1 f)∧∃f,IsTree c2 s2 f)
theorem szTreeA(c:Nat→Int)(v:Value):(Tryz.prog.info? 26).map (·.size)=some (trL c v).length:=by
 rw[show(trL c v).length=17 by simp[trL,cntV]];kernel_rfl
theorem blkI_range{w:World}{b:Nat}{kd:Nat}{last:Bool}{left:Int}{c1 c2:Nat→Int}{v1 v2:Value}(h:BoxC w b (blkI kd last left c1 c2 v1 v2) 28):w.rangeAt b 3 (trL c1 v1)∧w.rangeAt b 20 (trL c2 v2):=by
 have hl:∀(c:Nat→Int) (v:Value),(trL c v).length=17:=fun c v=>by simp[trL,cntV]
 constructor
 ·intro j u hu
  have hj:j<17:=by rw[←hl c1 v1];exact(List.getElem?_eq_some_iff.1 hu).1
  rw[cell_of_row w b _ _ _ (0,0) h]
  show(blkI kd last left c1 c2 v1 v2)[3+j]?=some u
  unfold blkI
  rw[List.getElem?_toArray,Nat.add_comm 3 j]
  show((trL c1 v1++trL c2 v2):List Value)[j]?=some u
  rw[List.getElem?_append_left (by rw[hl];exact hj)];exact hu
 ·intro j u hu
  have hj:j<17:=by rw[←hl c2 v2];exact(List.getElem?_eq_some_iff.1 hu).1
  rw[cell_of_row w b _ _ _ (0,0) h]
  show(blkI kd last left c1 c2 v1 v2)[20+j]?=some u
  unfold blkI
  rw[List.getElem?_toArray,show 20+j=(j+17)+3 by omega]
  show((trL c1 v1++trL c2 v2):List Value)[j+17]?=some u
  rw[List.getElem?_append_right (by rw[hl];omega),hl,Nat.add_sub_cancel];exact hu
theorem built_treeZ:Tryz.prog.built 26 []=some (trL (fun _=>0) (.slice none 0 0)).toArray:=by kernel_rfl
theorem pempty_any(w:World)(c:Nat→Int)(v:Value)(s:List Int)(hv:RdS w w.heap.size v s)(hs:s.length≤1000000):
  Calls Tryz.prog 73 #[.agg (trL c v).toArray] w fun e w'=>e=.returned (.bool (emptyT c s))∧Below w.heap.size w w':=by
 obtain⟨b,hb⟩:∃b,b=w.heap.size:=⟨_,rfl⟩
 obtain⟨X,hX⟩:∃X,X=(trL c v).toArray:=⟨_,rfl⟩
 rw[←hX]
 have hXS:X.size=17:=by rw[hX];exact trA_size c v
 obtain⟨W1,hW1⟩:∃W1,W1=w.alloc (.cells X 26):=⟨_,rfl⟩
 have hb1:Below b w W1:=by rw[hW1,hb];exact(Below.refl _ _).alloc (Nat.le_refl _) _
 have x1:BoxC W1 b X 26:=by rw[hW1,hb];exact BoxC.new w _ _
 have hS:=tsame_any W1 c (fun _=>0) v (.slice none 0 0) s [] ((hv.below (hb▸hb1) (Nat.le_refl _)).more (hb▸hb1.size)) ⟨none,0,rfl,⟨rfl,fun h=>absurd h (by decide)⟩,fun _=>rfl,Nat.le_refl _,Nat.zero_le _⟩ hs (by decide)
 rw[show trA c v=X from hX.symm]at hS
 obtain⟨Z,hZ⟩:∃Z,Z=trA (fun _=>0) (.slice none 0 0):=⟨_,rfl⟩
 rw[←hZ]at hS
 have HZB:Hid (Tryz.prog.built 26 []=some Z):=Lib.hid (by rw[hZ];exact built_treeZ)
 have HS:=Lib.hid hS;have HX1:=Lib.hid x1;have HXS:=Lib.hid hXS;have HB1:Hid (Below w.heap.size w W1):=Lib.hid (hb▸hb1);have HW1:=Lib.hid hW1;have HB:=Lib.hid hb
 unfold emptyT
 obtain⟨r,hr⟩:∃r,r=sameT c (fun _=>0) s []:=⟨_,rfl⟩
 rw[←hr]at HS⊢
 clear hS x1 hXS hb1 hW1 hb hZ hX hv hs hr
 go_enter Tryz.func73,Tryz.ntmps73
 go_wp2_with (first
  |(rw[←HW1.out,←HB.out])
  |(refine wpList_buildTo rfl 26 #[] rfl (some 4) rfl Z ?_ ?_;focus(simpa[Act.eval]using HZB.out))
  |(refine wpList_load_row rfl _ _ rfl b rfl _ X (0,0) _ HX1.out Tryz.underlying26 rfl (szTree17 HXS.out) ?_)
  |fail)
 refine HS.out.mono ?_
 rintro e w2 ⟨rfl,hb2⟩
 have HB2:=Lib.hid (HB1.out.trans (hb2.mono HB1.out.size))
 clear hb2
 go_wp2
 go_ret
 exact⟨rfl,HB2.out⟩
theorem wpList_load_mid_on{P:Program}{ops:Array Oper}{rest:List Oper}{op:Oper}{a:Act}{w:World}{Q:Exit→Act→World→Prop}(hw:Region.wanted op (yielded ops a.tmps)=true)(ty:TypeId)(x:Operand)(ho:op.op=.load ty x)
  (b o:Nat) (hx:a.eval x=.pointer (some ⟨b,o,none⟩)) (cs:List Value) (d:TypeDesc) (hc:w.rangeAt b o cs)
  (hu:P.underlying ty=some d) (hd:d.isRow=true) (hi:(P.info? ty).map (·.size)=some cs.length)
  (h:wpList P ops Q rest (a.put op.dst (.agg cs.toArray)) w):wpList P ops Q (op::rest) a w:=
 wpList_on hw fun _ hK=>wp_load_mid ty x ho b o hx cs d hc hu hd hi (hK _ _ h)
theorem emptyF{c:Nat→Int}{s:List Int}(h:¬emptyT c s=true):emptyT c s=false:=by simpa using h
theorem pmay_any(w:World)(kd:Nat)(last:Bool)(left:Int)(c1 c2:Nat→Int)(v1 v2:Value)(s1 s2:List Int)(h1:RdS w w.heap.size v1 s1)(h2:RdS w w.heap.size v2 s2)(n1:s1.length≤1000000)(n2:s2.length≤1000000)(r:Bool)(hr:r=true↔MayI kd left c1 s1 c2 s2):
  Calls Tryz.prog 33 #[.agg (blkI kd last left c1 c2 v1 v2)] w fun e w'=>e=.returned (.bool r)∧Below w.heap.size w w':=by
 obtain⟨b,hb⟩:∃b,b=w.heap.size:=⟨_,rfl⟩
 obtain⟨X,hX⟩:∃X,X=blkI kd last left c1 c2 v1 v2:=⟨_,rfl⟩
 rw[←hX]
 obtain⟨W1,hW1⟩:∃W1,W1=w.alloc (.cells X 28):=⟨_,rfl⟩
 have hb1:Below b w W1:=by rw[hW1,hb];exact(Below.refl _ _).alloc (Nat.le_refl _) _
 have hsz:b<W1.heap.size:=by rw[hW1,World.size_alloc,hb];omega
 have x1:BoxC W1 b X 28:=by rw[hW1,hb];exact BoxC.new w _ _
 have a0:W1.cell? ⟨b,0,none⟩=some (.int .u8 (kd:Int)):=x1.cell.trans (by rw[hX];rfl)
 have a2:W1.cell? ⟨b,2,none⟩=some (.int .i64 left):=x1.cell.trans (by rw[hX];rfl)
 have hRA:∀W,Below W1.heap.size W1 W→W.rangeAt b 3 (trL c1 v1):=fun W hW=>(blkI_range (hX▸x1.below hW hsz)).1
 have hRB:∀W,Below W1.heap.size W1 W→W.rangeAt b 20 (trL c2 v2):=fun W hW=>(blkI_range (hX▸x1.below hW hsz)).2
 have hE1:=pempty_any W1 c1 v1 s1 ((h1.below (hb▸hb1) (Nat.le_refl _)).more (hb▸hb1.size)) n1
 have hE2:=fun W (hW:Below W1.heap.size W1 W)=>pempty_any W c2 v2 s2 ((((h2.below (hb▸hb1) (Nat.le_refl _)).more (hb▸hb1.size)).below hW (Nat.le_refl _)).more hW.size) n2
 have hC1:=tchk_any W1 c1 v1 s1 ((h1.below (hb▸hb1) (Nat.le_refl _)).more (hb▸hb1.size)) n1
 have hC2:=fun W (hW:Below W1.heap.size W1 W)=>tchk_any W c2 v2 s2 ((((h2.below (hb▸hb1) (Nat.le_refl _)).more (hb▸hb1.size)).below hW (Nat.le_refl _)).more hW.size) n2
 have HB1:Hid (Below w.heap.size w W1):=Lib.hid (hb▸hb1)
 have HE1:=Lib.hid hE1;have HE2:=Lib.hid hE2;have HC1:=Lib.hid hC1;have HC2:=Lib.hid hC2;have HW1:=Lib.hid hW1;have HB:=Lib.hid hb;have HRA:=Lib.hid (hRA W1 (Below.refl _ _));have HRB:=Lib.hid hRB
 clear hX hW1 hb1 hsz x1 hRA hRB hE1 hE2 hC1 hC2 hb h1 h2 n1 n2
 by_cases k0:kd=0
 ·have d0:((kd:Int)==0)=true:=by rw[k0];rfl
  by_cases y1:0≤left
  ·have e1:decide (0≤left)=true:=decide_eq_true y1
   by_cases y2:left≤65535
   ·have e2:decide (left≤65535)=true:=decide_eq_true y2
    by_cases y3:emptyT c1 s1=true
    ·rw[y3]at HE1
     obtain⟨q,hq⟩:∃q,q=emptyT c2 s2:=⟨_,rfl⟩
     rw[←hq]at HE2
     have hrq:r=q:=Bool.eq_iff_iff.2 ⟨fun h=>by
      rcases hr.1 h with⟨_,_,_,_,h5⟩|⟨h1,_⟩
      ·rw[hq];exact h5
      ·omega,fun h=>hr.2 (.inl ⟨k0,y1,y2,y3,by rw[←hq];exact h⟩)⟩
     subst hrq
     clear hr k0 y1 y2 y3 hq HC1 HC2
     go_enter Tryz.func33,Tryz.ntmps33
     go_wp2_with (first
      |(rw[←HW1.out,←HB.out])
      |(refine wpList_load_mid_on (by rfl) _ _ rfl b 3 rfl (trL c1 v1) _ HRA.out Tryz.underlying26 rfl (szTreeA _ _) ?_)
      |fail)
     refine HE1.out.mono ?_
     rintro e w2 ⟨rfl,hb2⟩
     have HB2:=Lib.hid (HB1.out.trans (hb2.mono HB1.out.size))
     have HRB2:=Lib.hid (HRB.out w2 hb2)
     have HE22:=HE2.out w2 hb2
     have HE3:=Lib.hid HE22
     clear hb2 HE2 HRB HE22
     go_wp2_with (first
      |(refine wpList_load_mid_on (by rfl) _ _ rfl b 20 rfl (trL c2 v2) _ HRB2.out Tryz.underlying26 rfl (szTreeA _ _) ?_)
      |fail)
     refine HE3.out.mono ?_
     rintro e w3 ⟨rfl,hb3⟩
     have HB3:=Lib.hid (HB2.out.trans (hb3.mono HB2.out.size))
     clear hb3 HE3 HB2
     go_wp2
     go_ret
     exact⟨rfl,HB3.out⟩
    ·have y3':=emptyF y3
     rw[y3']at HE1
     have hrq:r=false:=Bool.eq_false_iff.2 fun h=>by
      rcases hr.1 h with⟨_,_,_,h4,_⟩|⟨h1,_⟩
      ·exact y3 h4
      ·omega
     subst hrq
     clear hr k0 y1 y2 y3 y3' HC1 HC2
     go_enter Tryz.func33,Tryz.ntmps33
     go_wp2_with (first
      |(rw[←HW1.out,←HB.out])
      |(refine wpList_load_mid_on (by rfl) _ _ rfl b 3 rfl (trL c1 v1) _ HRA.out Tryz.underlying26 rfl (szTreeA _ _) ?_)
      |fail)
     refine HE1.out.mono ?_
     rintro e w2 ⟨rfl,hb2⟩
     have HB2:=Lib.hid (HB1.out.trans (hb2.mono HB1.out.size))
     clear hb2
     go_wp2
     go_ret
     exact⟨rfl,HB2.out⟩
   ·have e2:decide (left≤65535)=false:=decide_eq_false y2
    have hrq:r=false:=Bool.eq_false_iff.2 fun h=>by
     rcases hr.1 h with⟨_,_,h4,_⟩|⟨h1,_⟩
     ·exact y2 h4
     ·omega
    subst hrq
    clear hr k0 y1 y2
    go_enter Tryz.func33,Tryz.ntmps33
    go_wp2_with (first|(rw[←HW1.out,←HB.out])|fail)
    go_ret
    exact⟨rfl,HB1.out⟩
  ·have e1:decide (0≤left)=false:=decide_eq_false y1
   have hrq:r=false:=Bool.eq_false_iff.2 fun h=>by
    rcases hr.1 h with⟨_,h4,_⟩|⟨h1,_⟩
    ·exact y1 h4
    ·omega
   subst hrq
   clear hr k0 y1
   go_enter Tryz.func33,Tryz.ntmps33
   go_wp2_with (first|(rw[←HW1.out,←HB.out])|fail)
   go_ret
   exact⟨rfl,HB1.out⟩
 have d0:((kd:Int)==0)=false:=beq_eq_false_iff_ne.2 (by omega)
 by_cases k1:kd=1∨kd=2
 ·have d1:((kd:Int)==1)=true∧kd=1∨((kd:Int)==1)=false∧((kd:Int)==2)=true:=by
   rcases k1 with rfl|rfl
   ·exact .inl ⟨rfl,rfl⟩
   ·exact .inr ⟨rfl,rfl⟩
  by_cases y1:left=0
  ·subst y1
   have e1:((0:Int)==0)=true:=rfl
   by_cases y2:∃f,IsTree c1 s1 f
   ·have c1k:Calls Tryz.prog 74 #[.agg (trL c1 v1).toArray] W1 fun e w'=>e=.returned (.int .i64 0)∧Below W1.heap.size W1 w':=HC1.out.mono fun e w' h=>⟨by
     rcases h.1 with h3|h3
     ·exact h3.2
     ·exact absurd y2.choose_spec (h3.1 _),h.2⟩
    have HC1':=Lib.hid c1k
    obtain⟨q,hq⟩:∃q:Bool,(q=true↔∃f,IsTree c2 s2 f):=by
     rcases Classical.em (∃f,IsTree c2 s2 f)with h|h
     ·exact⟨true,by simp[h]⟩
     ·exact⟨false,by simp[h]⟩
    obtain⟨x,hx⟩:∃x:Int,x=if q=true then 0 else 8:=⟨_,rfl⟩
    have hxq:(x==0)=q:=by rw[hx];cases q<;>rfl
    have c2k:∀W,Below W1.heap.size W1 W→Calls Tryz.prog 74 #[.agg (trL c2 v2).toArray] W fun e w'=>e=.returned (.int .i64 x)∧Below W.heap.size W w':=fun W hW=>(HC2.out W hW).mono fun e w' h=>⟨by
     rcases h.1 with h3|h3
     ·rw[hx,if_pos (hq.2 h3.1)];exact h3.2
     ·rw[hx,if_neg (fun h4=>(h3.1 _) (hq.1 h4).choose_spec)];exact h3.2,h.2⟩
    have HC2':=Lib.hid c2k
    have hrq:r=q:=Bool.eq_iff_iff.2 ⟨fun h=>by
     rcases hr.1 h with⟨h1,_⟩|⟨_,_,_,h5⟩
     ·omega
     ·exact hq.2 h5,fun h=>hr.2 (.inr ⟨k1,rfl,y2,hq.1 h⟩)⟩
    subst hrq
    clear hr k0 k1 y2 hq hx c1k c2k HC1 HC2 HE1 HE2
    rcases d1 with⟨d1,_⟩|⟨d1,d2⟩
    ·go_enter Tryz.func33,Tryz.ntmps33
     go_wp2_with (first
      |(rw[←HW1.out,←HB.out])
      |(refine wpList_load_mid_on (by rfl) _ _ rfl b 3 rfl (trL c1 v1) _ HRA.out Tryz.underlying26 rfl (szTreeA _ _) ?_)
      |fail)
     refine HC1'.out.mono ?_
     rintro e w2 ⟨rfl,hb2⟩
     have HB2:=Lib.hid (HB1.out.trans (hb2.mono HB1.out.size))
     have HRB2:=Lib.hid (HRB.out w2 hb2)
     have HE22:=HC2'.out w2 hb2
     have HE3:=Lib.hid HE22
     clear hb2 HC2' HRB HE22
     go_wp2_with (first
      |(refine wpList_load_mid_on (by rfl) _ _ rfl b 20 rfl (trL c2 v2) _ HRB2.out Tryz.underlying26 rfl (szTreeA _ _) ?_)
      |fail)
     refine HE3.out.mono ?_
     rintro e w3 ⟨rfl,hb3⟩
     have HB3:=Lib.hid (HB2.out.trans (hb3.mono HB2.out.size))
     clear hb3 HE3 HB2
     go_wp2
     go_ret
     exact⟨rfl,HB3.out⟩
    ·go_enter Tryz.func33,Tryz.ntmps33
     go_wp2_with (first
      |(rw[←HW1.out,←HB.out])
      |(refine wpList_load_mid_on (by rfl) _ _ rfl b 3 rfl (trL c1 v1) _ HRA.out Tryz.underlying26 rfl (szTreeA _ _) ?_)
      |fail)
     refine HC1'.out.mono ?_
     rintro e w2 ⟨rfl,hb2⟩
     have HB2:=Lib.hid (HB1.out.trans (hb2.mono HB1.out.size))
     have HRB2:=Lib.hid (HRB.out w2 hb2)
     have HE22:=HC2'.out w2 hb2
     have HE3:=Lib.hid HE22
     clear hb2 HC2' HRB HE22
     go_wp2_with (first
      |(refine wpList_load_mid_on (by rfl) _ _ rfl b 20 rfl (trL c2 v2) _ HRB2.out Tryz.underlying26 rfl (szTreeA _ _) ?_)
      |fail)
     refine HE3.out.mono ?_
     rintro e w3 ⟨rfl,hb3⟩
     have HB3:=Lib.hid (HB2.out.trans (hb3.mono HB2.out.size))
     clear hb3 HE3 HB2
     go_wp2
     go_ret
     exact⟨rfl,HB3.out⟩
   ·have c1k:Calls Tryz.prog 74 #[.agg (trL c1 v1).toArray] W1 fun e w'=>e=.returned (.int .i64 8)∧Below W1.heap.size W1 w':=HC1.out.mono fun e w' h=>⟨by
     rcases h.1 with h3|h3
     ·exact absurd h3.1 y2
     ·exact h3.2,h.2⟩
    have HC1':=Lib.hid c1k
    have hx8:((8:Int)==0)=false:=rfl
    have hrq:r=false:=Bool.eq_false_iff.2 fun h=>by
     rcases hr.1 h with⟨h1,_⟩|⟨_,_,h4,_⟩
     ·omega
     ·exact y2 h4
    subst hrq
    clear hr k0 k1 y2 c1k HC1 HC2 HE1 HE2
    rcases d1 with⟨d1,_⟩|⟨d1,d2⟩
    ·go_enter Tryz.func33,Tryz.ntmps33
     go_wp2_with (first
      |(rw[←HW1.out,←HB.out])
      |(refine wpList_load_mid_on (by rfl) _ _ rfl b 3 rfl (trL c1 v1) _ HRA.out Tryz.underlying26 rfl (szTreeA _ _) ?_)
      |fail)
     refine HC1'.out.mono ?_
     rintro e w2 ⟨rfl,hb2⟩
     have HB2:=Lib.hid (HB1.out.trans (hb2.mono HB1.out.size))
     clear hb2
     go_wp2
     go_ret
     exact⟨rfl,HB2.out⟩
    ·go_enter Tryz.func33,Tryz.ntmps33
     go_wp2_with (first
      |(rw[←HW1.out,←HB.out])
      |(refine wpList_load_mid_on (by rfl) _ _ rfl b 3 rfl (trL c1 v1) _ HRA.out Tryz.underlying26 rfl (szTreeA _ _) ?_)
      |fail)
     refine HC1'.out.mono ?_
     rintro e w2 ⟨rfl,hb2⟩
     have HB2:=Lib.hid (HB1.out.trans (hb2.mono HB1.out.size))
     clear hb2
     go_wp2
     go_ret
     exact⟨rfl,HB2.out⟩
  ·have e1:(left==0)=false:=beq_eq_false_iff_ne.2 y1
   have hrq:r=false:=Bool.eq_false_iff.2 fun h=>by
    rcases hr.1 h with⟨h1,_⟩|⟨_,h4,_⟩
    ·omega
    ·exact y1 h4
   subst hrq
   clear hr k0 k1 y1
   rcases d1 with⟨d1,_⟩|⟨d1,d2⟩
   ·go_enter Tryz.func33,Tryz.ntmps33
    go_wp2_with (first|(rw[←HW1.out,←HB.out])|fail)
    go_ret
    exact⟨rfl,HB1.out⟩
   ·go_enter Tryz.func33,Tryz.ntmps33
    go_wp2_with (first|(rw[←HW1.out,←HB.out])|fail)
    go_ret
    exact⟨rfl,HB1.out⟩
 ·have d1:((kd:Int)==1)=false:=beq_eq_false_iff_ne.2 (by omega)
  have d2:((kd:Int)==2)=false:=beq_eq_false_iff_ne.2 (by omega)
  have hrq:r=false:=Bool.eq_false_iff.2 fun h=>by
   rcases hr.1 h with⟨h1,_⟩|⟨h4,_⟩
   ·omega
   ·exact k1 h4
  subst hrq
  clear hr k0 k1
  go_enter Tryz.func33,Tryz.ntmps33
  go_wp2_with (first|(rw[←HW1.out,←HB.out])|fail)
  go_ret
  exact⟨rfl,HB1.out⟩
def chkI(r:Bool):Int:=if r=true then 0 else 8
theorem pcheck13_any(w:World)(kd:Nat)(last:Bool)(left:Int)(c1 c2:Nat→Int)(v1 v2:Value)(s1 s2:List Int)(h1:RdS w w.heap.size v1 s1)(h2:RdS w w.heap.size v2 s2)(n1:s1.length≤1000000)(n2:s2.length≤1000000)(r:Bool)(hr:r=true↔MayI kd left c1 s1 c2 s2):
  Calls Tryz.prog 13 #[.agg (blkI kd last left c1 c2 v1 v2)] w fun e w'=>e=.returned (.int .i64 (chkI r))∧Below w.heap.size w w':=by
 obtain⟨b,hb⟩:∃b,b=w.heap.size:=⟨_,rfl⟩
 obtain⟨X,hX⟩:∃X,X=blkI kd last left c1 c2 v1 v2:=⟨_,rfl⟩
 have hXS:X.size=37:=by rw[hX];exact blkI_size ..
 obtain⟨W1,hW1⟩:∃W1,W1=w.alloc (.cells X 28):=⟨_,rfl⟩
 have hb1:Below b w W1:=by rw[hW1,hb];exact(Below.refl _ _).alloc (Nat.le_refl _) _
 have x1:BoxC W1 b X 28:=by rw[hW1,hb];exact BoxC.new w _ _
 have hM:=pmay_any W1 kd last left c1 c2 v1 v2 s1 s2 ((h1.below (hb▸hb1) (Nat.le_refl _)).more (hb▸hb1.size)) ((h2.below (hb▸hb1) (Nat.le_refl _)).more (hb▸hb1.size)) n1 n2 r hr
 rw[←hX]at hM⊢
 have HB1:Hid (Below w.heap.size w W1):=Lib.hid (hb▸hb1)
 have HM:=Lib.hid hM;have HX1:=Lib.hid x1;have HXS:=Lib.hid hXS;have HW1:=Lib.hid hW1;have HB:=Lib.hid hb
 clear hM hX hW1 hb1 x1 hb h1 h2 n1 n2 hXS hr
 cases r
 all_goals(
  go_enter Tryz.func13,Tryz.ntmps13
  go_wp2_with (first
   |(rw[←HW1.out,←HB.out])
   |(refine wpList_load_row rfl _ _ rfl b rfl _ X (0,0) _ HX1.out Tryz.underlying28 rfl (szBlkT X HXS.out) ?_)
   |fail)
  refine HM.out.mono ?_
  rintro e w2 ⟨rfl,hb2⟩
  have HB2:=Lib.hid (HB1.out.trans (hb2.mono HB1.out.size))
  clear hb2
  go_wp2
  go_ret
  exact⟨rfl,HB2.out⟩)
end Go.Proofs.YtgokdgcmkcmjeaaGreat
namespace Go.Proofs.YtgokdgcmkcmjeaaGreat
open Go.RowKit
theorem wpList_buildOnT13{P:Program}{ops:Array Oper}{rest:List Oper}{o:Oper}{a:Act}{w:World}{Q:Exit→Act→World→Prop}(hw:Region.wanted o (yielded ops a.tmps)=true)(t:TypeId)(parts:Array (Nat×Operand))(ho:o.op=.build t parts)
  (d:Option Tmp) (hd:o.dst=d) (cells:Array Value) (hf:P.built t (parts.map fun(i,x)=>(i,a.eval x)).toList=some cells) (h:wpList P ops Q rest (a.put d (.agg cells)) w):wpList P ops Q (o::rest) a w:=by
 subst hd
 exact wpList_build_on hw t parts ho (.agg cells) (run_build w t _ cells hf) h
theorem rcheck13_any(w:World)(kd:Nat)(last:Bool)(left:Int)(c1 c2:Nat→Int)(v1 v2:Value)(s1 s2:List Int)(h1:RdS w w.heap.size v1 s1)(h2:RdS w w.heap.size v2 s2)(n1:s1.length≤1000000)(n2:s2.length≤1000000)(r:Bool)(hr:r=true↔MayI kd left c1 s1 c2 s2):
  Calls Tryz.prog 14 #[.agg (blkI kd last left c1 c2 v1 v2)] w fun e w'=>e=.returned (.int .i64 (chkI r))∧Below w.heap.size w w':=by
 obtain⟨b,hb⟩:∃b,b=w.heap.size:=⟨_,rfl⟩
 obtain⟨X,hX⟩:∃X,X=blkI kd last left c1 c2 v1 v2:=⟨_,rfl⟩
 rw[←hX]
 obtain⟨W1,hW1⟩:∃W1,W1=w.alloc (.cells X 28):=⟨_,rfl⟩
 have hb1:Below b w W1:=by rw[hW1,hb];exact(Below.refl _ _).alloc (Nat.le_refl _) _
 have hsz:b<W1.heap.size:=by rw[hW1,World.size_alloc,hb];omega
 have x1:BoxC W1 b X 28:=by rw[hW1,hb];exact BoxC.new w _ _
 have a0:W1.cell? ⟨b,0,none⟩=some (.int .u8 (kd:Int)):=x1.cell.trans (by rw[hX];rfl)
 have hA2:∀W,Below W1.heap.size W1 W→W.cell? ⟨b,2,none⟩=some (.int .i64 left):=fun W hW=>(x1.below hW hsz).cell.trans (by rw[hX];rfl)
 have a2:=hA2 W1 (Below.refl _ _)
 have hRA:∀W,Below W1.heap.size W1 W→W.rangeAt b 3 (trL c1 v1):=fun W hW=>(blkI_range (hX▸x1.below hW hsz)).1
 have hRB:∀W,Below W1.heap.size W1 W→W.rangeAt b 20 (trL c2 v2):=fun W hW=>(blkI_range (hX▸x1.below hW hsz)).2
 obtain⟨Z,hZ⟩:∃Z,Z=trA (fun _=>0) (.slice none 0 0):=⟨_,rfl⟩
 have HZB:Hid (Tryz.prog.built 26 []=some Z):=Lib.hid (by rw[hZ];exact built_treeZ)
 have hnil:∀W:World,RdS W W.heap.size (.slice none 0 0) []:=fun W=>⟨none,0,rfl,⟨rfl,fun h=>absurd h (by decide)⟩,fun _=>rfl,Nat.le_refl _,Nat.zero_le _⟩
 have hE1:Calls Tryz.prog 32 #[.agg (trL c1 v1).toArray,.agg Z] W1 fun e w'=>e=.returned (.bool (emptyT c1 s1))∧Below W1.heap.size W1 w':=by rw[hZ];exact same5_any W1 c1 _ v1 _ s1 [] ((h1.below (hb▸hb1) (Nat.le_refl _)).more (hb▸hb1.size)) (hnil _) (by omega) (by decide)
 have hE2:∀W,Below W1.heap.size W1 W→Calls Tryz.prog 32 #[.agg (trL c2 v2).toArray,.agg Z] W fun e w'=>e=.returned (.bool (emptyT c2 s2))∧Below W.heap.size W w':=fun W hW=>by rw[hZ];exact same5_any W c2 _ v2 _ s2 [] ((((h2.below (hb▸hb1) (Nat.le_refl _)).more (hb▸hb1.size)).below hW (Nat.le_refl _)).more hW.size) (hnil _) (by omega) (by decide)
 have hC1:=rchk5_any W1 c1 v1 s1 ((h1.below (hb▸hb1) (Nat.le_refl _)).more (hb▸hb1.size)) (by omega)
 have hC2:=fun W (hW:Below W1.heap.size W1 W)=>rchk5_any W c2 v2 s2 ((((h2.below (hb▸hb1) (Nat.le_refl _)).more (hb▸hb1.size)).below hW (Nat.le_refl _)).more hW.size) (by omega)
 have HB1:Hid (Below w.heap.size w W1):=Lib.hid (hb▸hb1)
 have HE1:=Lib.hid hE1;have HE2:=Lib.hid hE2;have HC1:=Lib.hid hC1;have HC2:=Lib.hid hC2;have HW1:=Lib.hid hW1;have HB:=Lib.hid hb;have HRA:=Lib.hid (hRA W1 (Below.refl _ _));have HRB:=Lib.hid hRB;have HA2:=Lib.hid hA2
 clear hX hW1 hb1 hsz x1 hRA hRB hE1 hE2 hC1 hC2 hb h1 h2 n1 n2 hA2 hZ hnil
 by_cases k0:kd=0
 ·have d0:((kd:Int)==0)=true:=by rw[k0];rfl
  have hm:∀q:Bool,q=(emptyT c1 s1&&emptyT c2 s2)→r=(decide (0≤left)&&decide (left≤65535)&&q):=fun q hq=>Bool.eq_iff_iff.2 ⟨fun h=>by
   rcases hr.1 h with⟨_,g1,g2,g3,g4⟩|⟨g1,_⟩
   ·rw[hq,g3,g4,decide_eq_true g1,decide_eq_true g2];rfl
   ·omega,fun h=>by
   rw[hq]at h
   simp only[Bool.and_eq_true,decide_eq_true_eq]at h
   exact hr.2 (.inl ⟨k0,h.1.1,h.1.2,h.2.1,h.2.2⟩)⟩
  obtain⟨p,hp⟩:∃p,p=emptyT c1 s1:=⟨_,rfl⟩
  obtain⟨q,hq⟩:∃q,q=emptyT c2 s2:=⟨_,rfl⟩
  rw[←hp]at HE1
  rw[←hq]at HE2
  have hm2:=hm (p&&q) (by rw[hp,hq])
  clear hm hp hq hr k0 HC1 HC2
  by_cases y1:left<0
  ·have e1:decide (left<0)=true:=decide_eq_true y1
   obtain rfl:r=false:=by rw[hm2,decide_eq_false (by omega)];rfl
   clear hm2 y1
   cases p
   ·go_enter Tryz.func14,Tryz.ntmps14
    go_wp2_with (first
     |(rw[←HW1.out,←HB.out])
     |(refine wpList_load_mid rfl _ _ rfl b 3 rfl (trL c1 v1) _ HRA.out Tryz.underlying26 rfl (szTreeA _ _) ?_)
     |(refine wpList_buildTo rfl 26 #[] rfl (some 9) rfl Z ?_ ?_;focus(simpa[Act.eval]using HZB.out))
     |fail)
    refine HE1.out.mono ?_
    rintro e w2 ⟨rfl,hb2⟩
    have HB2:=Lib.hid (HB1.out.trans (hb2.mono HB1.out.size))
    have a22:=HA2.out w2 hb2
    clear hb2
    go_wp2
    go_ret
    exact⟨rfl,HB2.out⟩
   ·go_enter Tryz.func14,Tryz.ntmps14
    go_wp2_with (first
     |(rw[←HW1.out,←HB.out])
     |(refine wpList_load_mid rfl _ _ rfl b 3 rfl (trL c1 v1) _ HRA.out Tryz.underlying26 rfl (szTreeA _ _) ?_)
     |(refine wpList_buildTo rfl 26 #[] rfl (some 9) rfl Z ?_ ?_;focus(simpa[Act.eval]using HZB.out))
     |fail)
    refine HE1.out.mono ?_
    rintro e w2 ⟨rfl,hb2⟩
    have HB2:=Lib.hid (HB1.out.trans (hb2.mono HB1.out.size))
    have HRB2:=Lib.hid (HRB.out w2 hb2)
    have HE3:=Lib.hid (HE2.out w2 hb2)
    have HBZ:=Lib.hid hb2
    clear hb2
    go_wp2_with (first
     |(refine wpList_load_mid_on (by rfl) _ _ rfl b 20 rfl (trL c2 v2) _ HRB2.out Tryz.underlying26 rfl (szTreeA _ _) ?_)
     |(refine wpList_buildOnT13 (by rfl) 26 #[] rfl (some 14) rfl Z ?_ ?_;focus(simpa[Act.eval]using HZB.out))
     |fail)
    refine HE3.out.mono ?_
    rintro e w3 ⟨rfl,hb3⟩
    have HB3:=Lib.hid (HB2.out.trans (hb3.mono HB2.out.size))
    have a23:=HA2.out w3 (HBZ.out.trans (hb3.mono HBZ.out.size))
    clear hb3
    go_wp2
    go_ret
    exact⟨rfl,HB3.out⟩
  ·have e1:decide (left<0)=false:=decide_eq_false y1
   by_cases y2:65535<left
   ·have e2:decide (65535<left)=true:=decide_eq_true y2
    obtain rfl:r=false:=by rw[hm2,decide_eq_false (show¬left≤65535 by omega),Bool.and_false];rfl
    clear hm2 y1 y2
    cases p
    ·go_enter Tryz.func14,Tryz.ntmps14
     go_wp2_with (first
      |(rw[←HW1.out,←HB.out])
      |(refine wpList_load_mid rfl _ _ rfl b 3 rfl (trL c1 v1) _ HRA.out Tryz.underlying26 rfl (szTreeA _ _) ?_)
      |(refine wpList_buildTo rfl 26 #[] rfl (some 9) rfl Z ?_ ?_;focus(simpa[Act.eval]using HZB.out))
      |fail)
     refine HE1.out.mono ?_
     rintro e w2 ⟨rfl,hb2⟩
     have HB2:=Lib.hid (HB1.out.trans (hb2.mono HB1.out.size))
     have a22:=HA2.out w2 hb2
     clear hb2
     go_wp2
     go_ret
     exact⟨rfl,HB2.out⟩
    ·go_enter Tryz.func14,Tryz.ntmps14
     go_wp2_with (first
      |(rw[←HW1.out,←HB.out])
      |(refine wpList_load_mid rfl _ _ rfl b 3 rfl (trL c1 v1) _ HRA.out Tryz.underlying26 rfl (szTreeA _ _) ?_)
      |(refine wpList_buildTo rfl 26 #[] rfl (some 9) rfl Z ?_ ?_;focus(simpa[Act.eval]using HZB.out))
      |fail)
     refine HE1.out.mono ?_
     rintro e w2 ⟨rfl,hb2⟩
     have HB2:=Lib.hid (HB1.out.trans (hb2.mono HB1.out.size))
     have HRB2:=Lib.hid (HRB.out w2 hb2)
     have HE3:=Lib.hid (HE2.out w2 hb2)
     have HBZ:=Lib.hid hb2
     clear hb2
     go_wp2_with (first
      |(refine wpList_load_mid_on (by rfl) _ _ rfl b 20 rfl (trL c2 v2) _ HRB2.out Tryz.underlying26 rfl (szTreeA _ _) ?_)
      |(refine wpList_buildOnT13 (by rfl) 26 #[] rfl (some 14) rfl Z ?_ ?_;focus(simpa[Act.eval]using HZB.out))
      |fail)
     refine HE3.out.mono ?_
     rintro e w3 ⟨rfl,hb3⟩
     have HB3:=Lib.hid (HB2.out.trans (hb3.mono HB2.out.size))
     have a23:=HA2.out w3 (HBZ.out.trans (hb3.mono HBZ.out.size))
     clear hb3
     go_wp2
     go_ret
     exact⟨rfl,HB3.out⟩
   ·have e2:decide (65535<left)=false:=decide_eq_false y2
    obtain rfl:r=(p&&q):=by rw[hm2,decide_eq_true (by omega),decide_eq_true (by omega)];rfl
    clear hm2 y1 y2
    cases p
    ·go_enter Tryz.func14,Tryz.ntmps14
     go_wp2_with (first
      |(rw[←HW1.out,←HB.out])
      |(refine wpList_load_mid rfl _ _ rfl b 3 rfl (trL c1 v1) _ HRA.out Tryz.underlying26 rfl (szTreeA _ _) ?_)
      |(refine wpList_buildTo rfl 26 #[] rfl (some 9) rfl Z ?_ ?_;focus(simpa[Act.eval]using HZB.out))
      |fail)
     refine HE1.out.mono ?_
     rintro e w2 ⟨rfl,hb2⟩
     have HB2:=Lib.hid (HB1.out.trans (hb2.mono HB1.out.size))
     have a22:=HA2.out w2 hb2
     clear hb2
     go_wp2
     go_ret
     exact⟨rfl,HB2.out⟩
    ·cases q
     ·go_enter Tryz.func14,Tryz.ntmps14
      go_wp2_with (first
       |(rw[←HW1.out,←HB.out])
       |(refine wpList_load_mid rfl _ _ rfl b 3 rfl (trL c1 v1) _ HRA.out Tryz.underlying26 rfl (szTreeA _ _) ?_)
       |(refine wpList_buildTo rfl 26 #[] rfl (some 9) rfl Z ?_ ?_;focus(simpa[Act.eval]using HZB.out))
       |fail)
      refine HE1.out.mono ?_
      rintro e w2 ⟨rfl,hb2⟩
      have HB2:=Lib.hid (HB1.out.trans (hb2.mono HB1.out.size))
      have HRB2:=Lib.hid (HRB.out w2 hb2)
      have HE3:=Lib.hid (HE2.out w2 hb2)
      have HBZ:=Lib.hid hb2
      clear hb2
      go_wp2_with (first
       |(refine wpList_load_mid_on (by rfl) _ _ rfl b 20 rfl (trL c2 v2) _ HRB2.out Tryz.underlying26 rfl (szTreeA _ _) ?_)
       |(refine wpList_buildOnT13 (by rfl) 26 #[] rfl (some 14) rfl Z ?_ ?_;focus(simpa[Act.eval]using HZB.out))
       |fail)
      refine HE3.out.mono ?_
      rintro e w3 ⟨rfl,hb3⟩
      have HB3:=Lib.hid (HB2.out.trans (hb3.mono HB2.out.size))
      have a23:=HA2.out w3 (HBZ.out.trans (hb3.mono HBZ.out.size))
      clear hb3
      go_wp2
      go_ret
      exact⟨rfl,HB3.out⟩
     ·go_enter Tryz.func14,Tryz.ntmps14
      go_wp2_with (first
       |(rw[←HW1.out,←HB.out])
       |(refine wpList_load_mid rfl _ _ rfl b 3 rfl (trL c1 v1) _ HRA.out Tryz.underlying26 rfl (szTreeA _ _) ?_)
       |(refine wpList_buildTo rfl 26 #[] rfl (some 9) rfl Z ?_ ?_;focus(simpa[Act.eval]using HZB.out))
       |fail)
      refine HE1.out.mono ?_
      rintro e w2 ⟨rfl,hb2⟩
      have HB2:=Lib.hid (HB1.out.trans (hb2.mono HB1.out.size))
      have HRB2:=Lib.hid (HRB.out w2 hb2)
      have HE3:=Lib.hid (HE2.out w2 hb2)
      have HBZ:=Lib.hid hb2
      clear hb2
      go_wp2_with (first
       |(refine wpList_load_mid_on (by rfl) _ _ rfl b 20 rfl (trL c2 v2) _ HRB2.out Tryz.underlying26 rfl (szTreeA _ _) ?_)
       |(refine wpList_buildOnT13 (by rfl) 26 #[] rfl (some 14) rfl Z ?_ ?_;focus(simpa[Act.eval]using HZB.out))
       |fail)
      refine HE3.out.mono ?_
      rintro e w3 ⟨rfl,hb3⟩
      have HB3:=Lib.hid (HB2.out.trans (hb3.mono HB2.out.size))
      have a23:=HA2.out w3 (HBZ.out.trans (hb3.mono HBZ.out.size))
      clear hb3
      go_wp2
      go_ret
      exact⟨rfl,HB3.out⟩
 have d0:((kd:Int)==0)=false:=beq_eq_false_iff_ne.2 (by omega)
 clear HE1 HE2
 by_cases k1:2<kd
 ·have d1:decide (2<(kd:Int))=true:=decide_eq_true (by omega)
  obtain rfl:r=false:=Bool.eq_false_iff.2 fun h=>by
   rcases hr.1 h with⟨g1,_⟩|⟨g1,_⟩
   ·omega
   ·omega
  clear hr k0 k1 HC1 HC2
  go_enter Tryz.func14,Tryz.ntmps14
  go_wp2_with (first|(rw[←HW1.out,←HB.out])|fail)
  go_ret
  exact⟨rfl,HB1.out⟩
 have d1:decide (2<(kd:Int))=false:=decide_eq_false (by omega)
 by_cases y1:left=0
 ·have e1:(left !=0)=false:=by simp[y1]
  by_cases y2:∃f,IsTree c1 s1 f
  ·have c1k:Calls Tryz.prog 34 #[.agg (trL c1 v1).toArray] W1 fun e w'=>e=.returned (.int .i64 0)∧Below W1.heap.size W1 w':=HC1.out.mono fun e w' h=>⟨by
    rcases h.1 with h3|h3
    ·exact h3.2
    ·exact absurd y2.choose_spec (h3.1 _),h.2⟩
   have HC1':=Lib.hid c1k
   by_cases y3:∃f,IsTree c2 s2 f
   ·have c2k:∀W,Below W1.heap.size W1 W→Calls Tryz.prog 34 #[.agg (trL c2 v2).toArray] W fun e w'=>e=.returned (.int .i64 0)∧Below W.heap.size W w':=fun W hW=>(HC2.out W hW).mono fun e w' h=>⟨by
     rcases h.1 with h3|h3
     ·exact h3.2
     ·exact absurd y3.choose_spec (h3.1 _),h.2⟩
    have HC2':=Lib.hid c2k
    obtain rfl:r=true:=hr.2 (.inr ⟨by omega,y1,y2,y3⟩)
    have z0:((0:Int) !=0)=false:=rfl
    clear hr k0 k1 y2 y3 c1k c2k HC1 HC2 y1
    go_enter Tryz.func14,Tryz.ntmps14
    go_wp2_with (first
     |(rw[←HW1.out,←HB.out])
     |(refine wpList_load_mid_on (by rfl) _ _ rfl b 3 rfl (trL c1 v1) _ HRA.out Tryz.underlying26 rfl (szTreeA _ _) ?_)
     |fail)
    refine HC1'.out.mono ?_
    rintro e w2 ⟨rfl,hb2⟩
    have HB2:=Lib.hid (HB1.out.trans (hb2.mono HB1.out.size))
    have HRB2:=Lib.hid (HRB.out w2 hb2)
    have HE3:=Lib.hid (HC2'.out w2 hb2)
    have HBZ:=Lib.hid hb2
    clear hb2
    go_wp2_with (first
     |(refine wpList_load_mid_on (by rfl) _ _ rfl b 20 rfl (trL c2 v2) _ HRB2.out Tryz.underlying26 rfl (szTreeA _ _) ?_)
     |fail)
    refine HE3.out.mono ?_
    rintro e w3 ⟨rfl,hb3⟩
    have HB3:=Lib.hid (HB2.out.trans (hb3.mono HB2.out.size))
    have a23:=HA2.out w3 (HBZ.out.trans (hb3.mono HBZ.out.size))
    clear hb3
    go_wp2
    go_ret
    exact⟨rfl,HB3.out⟩
   ·have c2k:∀W,Below W1.heap.size W1 W→Calls Tryz.prog 34 #[.agg (trL c2 v2).toArray] W fun e w'=>e=.returned (.int .i64 8)∧Below W.heap.size W w':=fun W hW=>(HC2.out W hW).mono fun e w' h=>⟨by
     rcases h.1 with h3|h3
     ·exact absurd h3.1 y3
     ·exact h3.2,h.2⟩
    have HC2':=Lib.hid c2k
    obtain rfl:r=false:=Bool.eq_false_iff.2 fun h=>by
     rcases hr.1 h with⟨g1,_⟩|⟨_,_,_,g4⟩
     ·omega
     ·exact y3 g4
    have z0:((0:Int) !=0)=false:=rfl
    have z8:((8:Int) !=0)=true:=rfl
    clear hr k0 k1 y2 y3 c1k c2k HC1 HC2 y1
    go_enter Tryz.func14,Tryz.ntmps14
    go_wp2_with (first
     |(rw[←HW1.out,←HB.out])
     |(refine wpList_load_mid_on (by rfl) _ _ rfl b 3 rfl (trL c1 v1) _ HRA.out Tryz.underlying26 rfl (szTreeA _ _) ?_)
     |fail)
    refine HC1'.out.mono ?_
    rintro e w2 ⟨rfl,hb2⟩
    have HB2:=Lib.hid (HB1.out.trans (hb2.mono HB1.out.size))
    have HRB2:=Lib.hid (HRB.out w2 hb2)
    have HE3:=Lib.hid (HC2'.out w2 hb2)
    have HBZ:=Lib.hid hb2
    clear hb2
    go_wp2_with (first
     |(refine wpList_load_mid_on (by rfl) _ _ rfl b 20 rfl (trL c2 v2) _ HRB2.out Tryz.underlying26 rfl (szTreeA _ _) ?_)
     |fail)
    refine HE3.out.mono ?_
    rintro e w3 ⟨rfl,hb3⟩
    have HB3:=Lib.hid (HB2.out.trans (hb3.mono HB2.out.size))
    have a23:=HA2.out w3 (HBZ.out.trans (hb3.mono HBZ.out.size))
    clear hb3
    go_wp2
    go_ret
    exact⟨rfl,HB3.out⟩
  ·have c1k:Calls Tryz.prog 34 #[.agg (trL c1 v1).toArray] W1 fun e w'=>e=.returned (.int .i64 8)∧Below W1.heap.size W1 w':=HC1.out.mono fun e w' h=>⟨by
    rcases h.1 with h3|h3
    ·exact absurd h3.1 y2
    ·exact h3.2,h.2⟩
   have HC1':=Lib.hid c1k
   obtain rfl:r=false:=Bool.eq_false_iff.2 fun h=>by
    rcases hr.1 h with⟨g1,_⟩|⟨_,_,g4,_⟩
    ·omega
    ·exact y2 g4
   have z8:((8:Int) !=0)=true:=rfl
   clear hr k0 k1 y2 c1k HC1 HC2 y1
   go_enter Tryz.func14,Tryz.ntmps14
   go_wp2_with (first
    |(rw[←HW1.out,←HB.out])
    |(refine wpList_load_mid_on (by rfl) _ _ rfl b 3 rfl (trL c1 v1) _ HRA.out Tryz.underlying26 rfl (szTreeA _ _) ?_)
    |fail)
   refine HC1'.out.mono ?_
   rintro e w2 ⟨rfl,hb2⟩
   have HB2:=Lib.hid (HB1.out.trans (hb2.mono HB1.out.size))
   have a22:=HA2.out w2 hb2
   clear hb2
   go_wp2
   go_ret
   exact⟨rfl,HB2.out⟩
 ·have e1:(left !=0)=true:=by simpa using y1
  obtain rfl:r=false:=Bool.eq_false_iff.2 fun h=>by
   rcases hr.1 h with⟨g1,_⟩|⟨_,g4,_⟩
   ·omega
   ·exact y1 g4
  clear hr k0 k1 y1 HC1 HC2
  go_enter Tryz.func14,Tryz.ntmps14
  go_wp2_with (first|(rw[←HW1.out,←HB.out])|fail)
  go_ret
  exact⟨rfl,HB1.out⟩
end Go.Proofs.YtgokdgcmkcmjeaaGreat
namespace Go.Proofs.YtgokdgcmkcmjeaaGreat
open Go.RowKit
theorem sameT_me(c:Nat→Int)(s:List Int):sameT c c s s=true:=by
 unfold sameT sameC;simp
theorem rsame13_any(w:World)(kd:Nat)(last:Bool)(left:Int)(c1 c2:Nat→Int)(v1 v2 u1 u2:Value)(s1 s2:List Int)(h1:RdS w w.heap.size v1 s1)(h2:RdS w w.heap.size v2 s2)(g1:RdS w w.heap.size u1 s1)(g2:RdS w w.heap.size u2 s2)(n1:s1.length≤1000000)(n2:s2.length≤1000000):
  Calls Tryz.prog 12 #[.agg (blkI kd last left c1 c2 v1 v2),.agg (blkI kd last left c1 c2 u1 u2)] w fun e w'=>e=.returned (.bool true)∧Below w.heap.size w w':=by
 obtain⟨b,hb⟩:∃b,b=w.heap.size:=⟨_,rfl⟩
 obtain⟨X,hX⟩:∃X,X=blkI kd last left c1 c2 v1 v2:=⟨_,rfl⟩
 obtain⟨Y,hY⟩:∃X,X=blkI kd last left c1 c2 u1 u2:=⟨_,rfl⟩
 rw[←hX,←hY]
 obtain⟨W1,hW1⟩:∃W1,W1=(w.alloc (.cells X 28)).alloc (.cells Y 28):=⟨_,rfl⟩
 have hb1:Below b w W1:=by rw[hW1,hb];exact((Below.refl _ _).alloc (Nat.le_refl _) _).alloc (by simp) _
 have hsz:W1.heap.size=b+2:=by rw[hW1,hb];simp
 have x1:BoxC W1 b X 28:=by rw[hW1,hb];exact(BoxC.new w _ _).old _
 have y1:BoxC W1 (b+1) Y 28:=by rw[hW1,hb];have:=BoxC.new (w.alloc (.cells X 28)) Y 28;rwa[World.size_alloc]at this
 have a0:W1.cell? ⟨b,0,none⟩=some (.int .u8 (kd:Int)):=x1.cell.trans (by rw[hX];rfl)
 have a1:W1.cell? ⟨b,1,none⟩=some (.bool last):=x1.cell.trans (by rw[hX];rfl)
 have a2:W1.cell? ⟨b,2,none⟩=some (.int .i64 left):=x1.cell.trans (by rw[hX];rfl)
 have b0:W1.cell? ⟨b+1,0,none⟩=some (.int .u8 (kd:Int)):=y1.cell.trans (by rw[hY];rfl)
 have b1:W1.cell? ⟨b+1,1,none⟩=some (.bool last):=y1.cell.trans (by rw[hY];rfl)
 have b2:W1.cell? ⟨b+1,2,none⟩=some (.int .i64 left):=y1.cell.trans (by rw[hY];rfl)
 have e0:((kd:Int)==(kd:Int))=true:=by simp
 have e1:(last==last)=true:=by simp
 have e2:(left==left)=true:=by simp
 have up:∀{v:Value} {s:List Int},RdS w w.heap.size v s→∀W,Below W1.heap.size W1 W→RdS W W.heap.size v s:=fun h W hW=>(((h.below (hb▸hb1) (Nat.le_refl _)).more (hb▸hb1.size)).below hW (Nat.le_refl _)).more hW.size
 have hE1:=same5_any W1 c1 c1 v1 u1 s1 s1 (up h1 W1 (Below.refl _ _)) (up g1 W1 (Below.refl _ _)) (by omega) (by omega)
 have hE2:=fun W (hW:Below W1.heap.size W1 W)=>same5_any W c2 c2 v2 u2 s2 s2 (up h2 W hW) (up g2 W hW) (by omega) (by omega)
 rw[sameT_me]at hE1 hE2
 have HRA:=Lib.hid (blkI_range (hX▸x1)).1
 have HRC:=Lib.hid (blkI_range (hY▸y1)).1
 have HRB:Hid (∀W,Below W1.heap.size W1 W→W.rangeAt b 20 (trL c2 v2)):=Lib.hid fun W hW=>(blkI_range (hX▸x1.below hW (by omega))).2
 have HRD:Hid (∀W,Below W1.heap.size W1 W→W.rangeAt (b+1) 20 (trL c2 u2)):=Lib.hid fun W hW=>(blkI_range (hY▸y1.below hW (by omega))).2
 have HB1:Hid (Below w.heap.size w W1):=Lib.hid (hb▸hb1)
 have HE1:=Lib.hid hE1;have HE2:=Lib.hid hE2;have HW1:=Lib.hid hW1;have HB:=Lib.hid hb
 clear hX hY hW1 hb1 hsz x1 y1 hE1 hE2 hb h1 h2 g1 g2 n1 n2 up
 go_enter Tryz.func12,Tryz.ntmps12
 go_wp2_with (first
  |(rw[←HW1.out,←HB.out])
  |(refine wpList_load_mid_on (by rfl) _ _ rfl b 3 rfl (trL c1 v1) _ HRA.out Tryz.underlying26 rfl (szTreeA _ _) ?_)
  |(refine wpList_load_mid_on (by rfl) _ _ rfl (b+1) 3 rfl (trL c1 u1) _ HRC.out Tryz.underlying26 rfl (szTreeA _ _) ?_)
  |fail)
 refine HE1.out.mono ?_
 rintro e w2 ⟨rfl,hb2⟩
 have HB2:=Lib.hid (HB1.out.trans (hb2.mono HB1.out.size))
 have HRB2:=Lib.hid (HRB.out w2 hb2);have HRD2:=Lib.hid (HRD.out w2 hb2)
 have HE3:=Lib.hid (HE2.out w2 hb2)
 clear hb2
 go_wp2_with (first
  |(refine wpList_load_mid_on (by rfl) _ _ rfl b 20 rfl (trL c2 v2) _ HRB2.out Tryz.underlying26 rfl (szTreeA _ _) ?_)
  |(refine wpList_load_mid_on (by rfl) _ _ rfl (b+1) 20 rfl (trL c2 u2) _ HRD2.out Tryz.underlying26 rfl (szTreeA _ _) ?_)
  |fail)
 refine HE3.out.mono ?_
 rintro e w3 ⟨rfl,hb3⟩
 have HB3:=Lib.hid (HB2.out.trans (hb3.mono HB2.out.size))
 clear hb3
 go_wp2
 go_ret
 exact⟨rfl,HB3.out⟩
end Go.Proofs.YtgokdgcmkcmjeaaGreat
namespace Go.Proofs.YtgokdgcmkcmjeaaGreat
open Go.RowKit
def BakD(k:Blk13)(v:Value)(w':World):Prop:=
 ∃A1 c1 A2 c2,v=.agg (blkC k A1 c1 A2 c2)∧RdB w' w'.heap.size A1 k.n k.F∧RdB w' w'.heap.size A2 k.m k.G
theorem built_blk3(k:Nat)(b:Bool)(l:Nat):Tryz.prog.built 73 [(0,.int .u8 (k:Int)),(1,.bool b),(2,.int .i64 (l:Int))]=some #[.int .u8 (k:Int),.bool b,.int .i64 (l:Int),.slice none 0 0,.slice none 0 0]:=by kernel_rfl
theorem rlens_tree(w:World)(c:Nat→Int)(v:Value)(s:List Int)(f:Nat→Nat)(hf:IsTree c s f)(hv:RdS w w.heap.size v s)(hs:s.length≤1000000):
  Calls Tryz.prog 72 #[.agg (trL c v).toArray] w fun e w'=>∃g,w.heap.size≤g∧e=.returned (.tuple #[.slice (some ⟨g,0,none⟩) 320 320,.bool true])∧RowW w' g 320 f∧Below w.heap.size w w':=
 (rlens_any w c v s hv (by omega)).mono fun e w' ⟨h1,h2⟩=>by
  rcases h1 with⟨g,f',hf',hg,he,hr⟩|⟨h3,_⟩
  ·rw[isTree_one hf hf'];exact⟨g,hg,he,hr,h2⟩
  ·exact absurd hf (h3 f)
theorem nof_rd(w:World)(B:Nat):RdB w B none 0 nof13:=⟨fun _=>(by decide:(0:Nat)<256),fun h=>absurd h (by omega)⟩
theorem rback13_any(w:World)(kd:Nat)(last:Bool)(left:Nat)(c1 c2:Nat→Int)(v1 v2:Value)(s1 s2:List Int)(h1:RdS w w.heap.size v1 s1)(h2:RdS w w.heap.size v2 s2)(n1:s1.length≤1000000)(n2:s2.length≤1000000)
  (k:Blk13) (hk:k=if kd=0 then⟨0,last,left,nof13,0,nof13,0⟩else⟨kd,last,left,k.F,320,k.G,320⟩) (ht:kd≠0→IsTree c1 s1 k.F∧IsTree c2 s2 k.G):
  Calls Tryz.prog 31 #[.agg (blkI kd last (left:Int) c1 c2 v1 v2)] w fun e w'=>∃v,e=.returned v∧BakD k v w'∧Below w.heap.size w w':=by
 obtain⟨h,hh⟩:∃h,h=w.heap.size:=⟨_,rfl⟩
 obtain⟨X,hX⟩:∃X,X=blkI kd last (left:Int) c1 c2 v1 v2:=⟨_,rfl⟩
 rw[←hX]
 obtain⟨Z,hZ⟩:∃Z,Z=z5:=⟨_,rfl⟩
 obtain⟨Y,hY⟩:∃Y:Array Value,Y=#[.int .u8 (kd:Int),.bool last,.int .i64 (left:Int),.slice none 0 0,.slice none 0 0]:=⟨_,rfl⟩
 obtain⟨W1,hW1⟩:∃W1,W1=(w.alloc (.cells X 28)).alloc (.cells Z 73):=⟨_,rfl⟩
 have hb1:Below h w W1:=by rw[hW1,hh];exact((Below.refl _ _).alloc (Nat.le_refl _) _).alloc (by simp) _
 have x1:BoxC W1 h X 28:=by rw[hW1,hh];exact(BoxC.new w _ _).old _
 have z1:BoxC W1 (h+1) Z 73:=by rw[hW1,hh];have:=BoxC.new (w.alloc (.cells X 28)) Z 73;rwa[World.size_alloc]at this
 have s1':W1.heap.size=h+2:=by rw[hW1,hh];simp
 obtain⟨W2,hW2⟩:∃W,W=mkV W1 Z Y 73:=⟨_,rfl⟩
 have hb2:Below W1.heap.size W1 W2:=by rw[hW2];exact mkV_below _ _ _ _
 have y2:BoxC W2 (h+2) Y 73:=by have:=mkV_row W1 Z Y 73;rw[s1']at this;rw[hW2];exact this
 have x2:=x1.below hb2 (by omega)
 have z2:=z1.below hb2 (by omega)
 have hB2:=hb1.trans (hb2.mono (by omega:h≤W1.heap.size))
 have s2':W2.heap.size=h+3:=by rw[hW2,mkV_size,s1']
 have a0:W1.cell? ⟨h,0,none⟩=some (.int .u8 (kd:Int)):=by rw[x1.cell,hX];rfl
 have a1:W1.cell? ⟨h,1,none⟩=some (.bool last):=by rw[x1.cell,hX];rfl
 have a2:W1.cell? ⟨h,2,none⟩=some (.int .i64 (left:Int)):=by rw[x1.cell,hX];rfl
 have b0:W2.cell? ⟨h,0,none⟩=some (.int .u8 (kd:Int)):=by rw[x2.cell,hX];rfl
 have HRA:Hid (W2.rangeAt h 3 (trL c1 v1)):=Lib.hid (blkI_range (hX▸x2)).1
 have HRB:Hid (∀W,BoxC W h X 28→W.rangeAt h 20 (trL c2 v2)):=Lib.hid fun W hx=>(blkI_range (hX▸hx)).2
 have HYE:=Lib.hid hY
 have HYB:Hid (Tryz.prog.built 73 [(0,.int .u8 (kd:Int)),(1,.bool last),(2,.int .i64 (left:Int))]=some Y):=Lib.hid (by rw[hY];exact built_blk3 _ _ _)
 have HYS:Hid (Y.size=5):=Lib.hid (by rw[hY];rfl)
 have HZS:Hid (Z.size=5):=Lib.hid (by rw[hZ];rfl)
 have HYO:Hid (Y.all (·.oneCell')=true):=Lib.hid (by rw[hY];simp[Value.oneCell'])
 have hzb:∀u:World,(zeroValue 73).run Tryz.prog u=.ok (.agg Z) u:=by rw[hZ];exact(zero_of_info infoBlk13).1
 have HW1:=Lib.hid hW1;have HW2:=Lib.hid hW2;have HH:=Lib.hid hh;have HS1:=Lib.hid s1';have HS2:=Lib.hid s2';have HX2:=Lib.hid x2;have HY2:=Lib.hid y2;have HZ2:=Lib.hid z2;have HB2:=Lib.hid hB2;have HK:=Lib.hid hk;have HT:=Lib.hid ht
 have R1:=Lib.hid h1;have R2:=Lib.hid h2
 clear hX hY hZ hW1 hW2 hh s1' s2' x1 z1 x2 y2 z2 hB2 hb1 hb2 hk ht h1 h2
 by_cases k0:kd=0
 ·have q0:((kd:Int)==0)=true:=by rw[k0];rfl
  have q1:((kd:Int) !=0)=false:=by simp[bne,q0]
  have HOF:Hid (∀W':World,BakD k (.agg Y) W'):=Lib.hid fun W'=>by
   have e:=HK.out
   rw[if_pos k0]at e
   rw[e]
   exact⟨none,0,none,0,by rw[HYE.out,k0];rfl,nof_rd _ _,nof_rd _ _⟩
  clear k0
  go_enter Tryz.func31,Tryz.ntmps31
  go_wp2_with (first
  |(rw[←HW1.out,←HH.out])
  |(refine wpList_buildTo rfl 73 #[(0,.tmp 5),(1,.tmp 7),(2,.tmp 9)] rfl (some 10) rfl Y ?_ ?_;focus(simpa[Act.eval]using HYB.out))
  |(refine wpList_store_rowTo rfl _ _ _ rfl rfl W1.heap.size Y rfl rfl 73 Z (heap_alloc_new W1 _) (szBlk5 _ HYS.out) (by rw[HZS.out,HYS.out]) HYO.out ?_;change wpList _ _ _ _ _ (mkV W1 Z Y 73);rw[←HW2.out,HS1.out])
   |(refine wpList_load_row rfl _ _ rfl (h+2) rfl _ Y (0,0) _ HY2.out Tryz.underlying73 rfl (szBlk5 _ HYS.out) ?_)
   |(refine wpList_store_rowTo rfl _ _ _ rfl rfl (h+1) Y rfl rfl 73 Z HZ2.out (szBlk5 _ HYS.out) (by rw[HZS.out,HYS.out]) HYO.out ?_)
   |fail)
  refine bodyPost_ret (v:=.agg Y) ?_ rfl ⟨_,rfl,HOF.out _,by rw[←HH.out];exact below_rowU13 HB2.out (by omega) _⟩
  exact results_cell_row rfl _ _ (h+1) _ _ (0,0) _ rfl (setRow_heap _ _ _ _ _ _ HZ2.out) Tryz.underlying73 rfl (szBlk5 _ HYS.out)
 have kn:¬(kd:Int)=0:=by omega
 have q0:((kd:Int)==0)=false:=beq_eq_false_iff_ne.2 kn
 have q1:((kd:Int) !=0)=true:=by simp[bne,q0]
 obtain⟨t1,t2⟩:=HT.out k0
 have HK1:Hid (k=⟨kd,last,left,k.F,320,k.G,320⟩):=Lib.hid (by have e:=HK.out;rwa[if_neg k0]at e)
 obtain⟨F,hF⟩:∃F,F=k.F:=⟨_,rfl⟩
 obtain⟨G,hG⟩:∃G,G=k.G:=⟨_,rfl⟩
 rw[←hF,←hG]at HK1
 rw[←hF]at t1
 rw[←hG]at t2
 have HF8:Hid (∀j,F j<256):=Lib.hid fun j=>by
  by_cases hj:j<320
  ·have:=isTree_lens t1 j hj;omega
  ·have:=t1.2.1 j (by omega);omega
 have HG8:Hid (∀j,G j<256):=Lib.hid fun j=>by
  by_cases hj:j<320
  ·have:=isTree_lens t2 j hj;omega
  ·have:=t2.2.1 j (by omega);omega
 have HC1:=Lib.hid (rlens_tree W2 c1 v1 s1 F t1 ((R1.out.below (HH.out▸HB2.out) (Nat.le_refl _)).more (HH.out▸HB2.out.size)) n1)
 have HC2:Hid (∀W,Below h w W→Calls Tryz.prog 72 #[.agg (trL c2 v2).toArray] W fun e w'=>∃g,W.heap.size≤g∧e=.returned (.tuple #[.slice (some ⟨g,0,none⟩) 320 320,.bool true])∧RowW w' g 320 G∧Below W.heap.size W w'):=Lib.hid fun W hW=>rlens_tree W c2 v2 s2 G t2 ((R2.out.below (HH.out▸hW) (Nat.le_refl _)).more (HH.out▸hW.size)) n2
 clear k0 kn HK HT t1 t2 hF hG n1 n2 R1 R2
 go_enter Tryz.func31,Tryz.ntmps31
 go_wp2_with (first
  |(rw[←HW1.out,←HH.out])
  |(refine wpList_buildTo rfl 73 #[(0,.tmp 5),(1,.tmp 7),(2,.tmp 9)] rfl (some 10) rfl Y ?_ ?_;focus(simpa[Act.eval]using HYB.out))
  |(refine wpList_store_rowTo rfl _ _ _ rfl rfl W1.heap.size Y rfl rfl 73 Z (heap_alloc_new W1 _) (szBlk5 _ HYS.out) (by rw[HZS.out,HYS.out]) HYO.out ?_;change wpList _ _ _ _ _ (mkV W1 Z Y 73);rw[←HW2.out,HS1.out])
  |(refine wpList_load_mid rfl _ _ rfl h 3 rfl (trL c1 v1) _ HRA.out Tryz.underlying26 rfl (szTreeA _ _) ?_)
  |fail)
 refine HC1.out.mono ?_
 rintro e w3 ⟨g1,l1,rfl,m1,hb⟩
 rw[HS2.out]at l1
 have x3:=HX2.out.below hb HX2.out.lt
 have y3:=HY2.out.below hb HY2.out.lt
 have z3:=HZ2.out.below hb HZ2.out.lt
 have c3:w3.cell? ⟨h+2,3,none⟩=some (.slice none 0 0):=by rw[y3.cell,HYE.out];rfl
 have f3:w3.frozen? ⟨h+2,3,none⟩=false:=y3.free
 obtain⟨w4,hw4⟩:∃W,W=w3.setCell ⟨h+2,3,none⟩ (.slice (some ⟨g1,0,none⟩) 320 320):=⟨_,rfl⟩
 obtain⟨Y4,hY4⟩:∃Y:Array Value,Y=#[.int .u8 (kd:Int),.bool last,.int .i64 (left:Int),.slice (some ⟨g1,0,none⟩) 320 320,.slice none 0 0]:=⟨_,rfl⟩
 have HY4:Hid (BoxC w4 (h+2) Y4 73):=Lib.hid (by
  have a:=y3.set 3 (.slice (some ⟨g1,0,none⟩) 320 320)
  rw[HYE.out]at a
  rw[hw4,hY4];exact a)
 have hx4:BoxC w4 h X 28:=by rw[hw4];exact x3.other (by show h≠h+2;omega) _
 have HZ4:Hid (BoxC w4 (h+1) Z 73):=Lib.hid (by rw[hw4];exact z3.other (by show h+1≠h+2;omega) _)
 have HM1:Hid (RowW w4 g1 320 F):=Lib.hid (by rw[hw4];exact rowW_set m1 (by show g1≠h+2;omega) _)
 have HB4:Hid (Below h w w4):=Lib.hid (by rw[hw4];exact below_set13 (HB2.out.trans (hb.mono (by rw[HS2.out];omega))) _ (by show h≤h+2;omega) _)
 have HS4:Hid (h+3≤w4.heap.size):=Lib.hid (by have:=HY4.out.lt;omega)
 have HRB4:=Lib.hid (HRB.out w4 hx4)
 have HCC:=Lib.hid (HC2.out w4 HB4.out)
 have HL1:=Lib.hid l1;have HW4:=Lib.hid hw4;have HYE4:=Lib.hid hY4
 clear hw4 hY4 x3 y3 z3 hx4 m1 l1 hb
 go_wp2_with (first
  |(rw[←HW4.out])
  |(refine wpList_load_mid rfl _ _ rfl h 20 rfl (trL c2 v2) _ HRB4.out Tryz.underlying26 rfl (szTreeA _ _) ?_)
  |fail)
 refine HCC.out.mono ?_
 rintro e w5 ⟨g2,l2,rfl,m2,hb⟩
 have l2:h+3≤g2:=by have:=HS4.out;omega
 have y5:=HY4.out.below hb HY4.out.lt
 have z5:=HZ4.out.below hb HZ4.out.lt
 have m5:=HM1.out.below hb HM1.out.lt
 have c4:w5.cell? ⟨h+2,4,none⟩=some (.slice none 0 0):=by rw[y5.cell,HYE4.out];rfl
 have f4:w5.frozen? ⟨h+2,4,none⟩=false:=y5.free
 obtain⟨w6,hw6⟩:∃W,W=w5.setCell ⟨h+2,4,none⟩ (.slice (some ⟨g2,0,none⟩) 320 320):=⟨_,rfl⟩
 obtain⟨Y6,hY6⟩:∃Y:Array Value,Y=blkC k (some ⟨g1,0,none⟩) 320 (some ⟨g2,0,none⟩) 320:=⟨_,rfl⟩
 have HY6:Hid (BoxC w6 (h+2) Y6 73):=Lib.hid (by
  have a:=y5.set 4 (.slice (some ⟨g2,0,none⟩) 320 320)
  rw[HYE4.out]at a
  rw[hw6,hY6,HK1.out];exact a)
 have HZ6:Hid (BoxC w6 (h+1) Z 73):=Lib.hid (by rw[hw6];exact z5.other (by show h+1≠h+2;omega) _)
 have HM6:Hid (RowW w6 g1 320 F):=Lib.hid (by rw[hw6];exact rowW_set m5 (by show g1≠h+2;have:=HL1.out;omega) _)
 have HN6:Hid (RowW w6 g2 320 G):=Lib.hid (by rw[hw6];exact rowW_set m2 (by show g2≠h+2;omega) _)
 have HB6:Hid (Below h w w6):=Lib.hid (by rw[hw6];exact below_set13 (HB4.out.trans (hb.mono (by have:=HS4.out;omega))) _ (by show h≤h+2;omega) _)
 have HYS6:Hid (Y6.size=5):=Lib.hid (by rw[hY6];rfl)
 have HYO6:Hid (Y6.all (·.oneCell')=true):=Lib.hid (by rw[hY6];simp[blkC,Value.oneCell'])
 have HL2:=Lib.hid l2;have HW6:=Lib.hid hw6;have HYE6:=Lib.hid hY6
 clear hw6 hY6 y5 z5 m5 m2 l2 hb
 go_wp2_with (first
  |(rw[←HW6.out])
  |(refine wpList_load_row rfl _ _ rfl (h+2) rfl _ Y6 (0,0) _ HY6.out Tryz.underlying73 rfl (szBlk5 _ HYS6.out) ?_)
  |(refine wpList_store_rowTo rfl _ _ _ rfl rfl (h+1) Y6 rfl rfl 73 Z HZ6.out (szBlk5 _ HYS6.out) (by rw[HZS.out,HYS6.out]) HYO6.out ?_)
  |fail)
 refine bodyPost_ret (v:=.agg Y6) ?_ rfl ⟨_,rfl,?_,by rw[←HH.out];exact below_rowU13 HB6.out (by omega) _⟩
 ·exact results_cell_row rfl _ _ (h+1) _ _ (0,0) _ rfl (setRow_heap _ _ _ _ _ _ HZ6.out) Tryz.underlying73 rfl (szBlk5 _ HYS6.out)
 ·have r1:=HM6.out.rd HF8.out
  have r2:=HN6.out.rd HG8.out
  have e1:RdB (w6.setRow (h+1) Y6) (w6.setRow (h+1) Y6).heap.size (some ⟨g1,0,none⟩) 320 F:=r1.move fun bb o e h0=>by
   have hl:=rd_lt r1 h0 e;injection e with e;injection e with e1 _ _;subst e1
   exact⟨by rw[size_setRow];exact hl,setRow_other _ _ _ _ (by have:=HL1.out;omega)⟩
  have e2:RdB (w6.setRow (h+1) Y6) (w6.setRow (h+1) Y6).heap.size (some ⟨g2,0,none⟩) 320 G:=r2.move fun bb o e h0=>by
   have hl:=rd_lt r2 h0 e;injection e with e;injection e with e1 _ _;subst e1
   exact⟨by rw[size_setRow];exact hl,setRow_other _ _ _ _ (by have:=HL2.out;omega)⟩
  refine⟨some ⟨g1,0,none⟩,320,some ⟨g2,0,none⟩,320,by rw[HYE6.out],?_,?_⟩
  ·rw[HK1.out];exact e1
  ·rw[HK1.out];exact e2
end Go.Proofs.YtgokdgcmkcmjeaaGreat
namespace Go.Proofs.YtgokdgcmkcmjeaaGreat
open Go.RowKit
def offK(l:List Oper)(k:Nat)(t:Tmp):Bool:=(List.range l.length).all fun j=>match (l[j]?).bind (·.dst)with
 |some d=>d !=t||j==k||Region.waitsFor .any l.toArray j k
 |none=>true
theorem offK_is{l:List Oper}{k:Nat}{t:Tmp}(h:offK l k t=true){j:Nat}{d:Tmp}(hd:(l[j]?).bind (·.dst)=some d)(e:d=t):j=k∨Region.waitsFor .any l.toArray j k=true:=by
 have hj:j<l.length:=by
  cases hl:l[j]? with
  |none=>rw[hl]at hd;cases hd
  |some y=>exact(List.getElem?_eq_some_iff.1 hl).1
 have h1:=List.all_eq_true.1 h j (List.mem_range.2 hj)
 rw[hd]at h1
 simp only[Bool.or_eq_true,bne_iff_ne,ne_eq,beq_iff_eq]at h1
 rcases h1 with(h1|h1)|h1
 ·exact absurd e h1
 ·exact .inl h1
 ·exact .inr h1
def TwStepK(P:Program)(l:List Oper)(T:Nat→Value→Prop)(a0:Act)(W0 W1:World)(s k:Nat)(o:Oper):Prop:=
 ∀(a:Act) (w:World),(w=W0∨(w=W1∧k≠s∧Region.waitsFor .any l.toArray s k=false))→(∀t,offK l k t=true→a.eval (.tmp t)=a0.eval (.tmp t))→(∀j d,Region.waitsFor .any l.toArray k j=true→(l[j]?).bind (·.dst)=some d→T j (a.eval (.tmp d)))→
  ∀(K:Act→World→Prop) (Q:Exit→Act→World→Prop),(∀v,T k v→K (a.put o.dst v) (if k=s then W1 else w))→if Region.wanted o (yielded l.toArray a.tmps)=true then Oper.wp P o a w K Q else K (a.put o.dst undef) w
def TwAllK(P:Program)(l:List Oper)(T:Nat→Value→Prop)(a0:Act)(W0 W1:World)(s:Nat):Nat→List Oper→Prop
 |_,[]=>True
 |k,o::r=>TwStepK P l T a0 W0 W1 s k o∧TwAllK P l T a0 W0 W1 s (k+1) r
theorem TwAllK.get{P:Program}{l:List Oper}{T:Nat→Value→Prop}{a0:Act}{W0 W1:World}{s:Nat}:∀{r:List Oper} {k:Nat},TwAllK P l T a0 W0 W1 s k r→∀{j:Nat} {o:Oper},r[j]?=some o→TwStepK P l T a0 W0 W1 s (k+j) o
 |[],_,_,_,_,h=>by cases h
 |_::_,k,hA,0,_,h=>by cases h;exact hA.1
 |_::r,k,hA,j+1,o,h=>by
  have:=TwAllK.get (r:=r) hA.2 (j:=j) (by simpa using h)
  rw[show k+1+j=k+(j+1) by omega]at this
  exact this
theorem tw_anyK{P:Program}{Q:Exit→Act→World→Prop}{a0:Act}{W0 W1:World}{l:List Oper}{T:Nat→Value→Prop}{s:Nat}(hs:s<l.length)(hB:tabB l a0.tmps.size=true)(hstep:TwAllK P l T a0 W0 W1 s 0 l)
  (hend:∀listed a w,TwInv l T a0 W0 W1 s listed a w→(∀i,i<l.length→listed.getD i false=true)→Q .normal a w):
  ∀(f:Nat) (listed:Array Bool) (a:Act) (w:World),((List.range l.length).filter fun i=> !listed.getD i false).length=f→TwInv l T a0 W0 W1 s listed a w→wpAny P .any l.toArray Q f listed a w:=by
 have hB':=hB
 simp only[tabB,Bool.and_eq_true,decide_eq_true_eq]at hB'
 obtain⟨⟨hnd,hin⟩,hlow⟩:=hB'
 have hall:∀(listed:Array Bool),listed.size=l.length→Region.ready .any l.toArray listed=[]→∀i,i<l.length→listed.getD i false=true:=fun listed hsz hr i=>by
  induction i using Nat.strongRecOn with
  |_ i ih=>
   intro hi
   cases hu:listed.getD i false with
   |true=>rfl
   |false=>
    exfalso
    have h1:=List.all_eq_true.1 hlow i (List.mem_range.2 hi)
    have hoi:l[i]?=some l[i]:=List.getElem?_eq_getElem hi
    simp only[hoi]at h1
    have:i∈Region.ready .any l.toArray listed:=mem_ready.2 ⟨getD_in (by omega) hu,l[i],by simp[hi],fun e he hb=>by
     have h2:=Array.all_eq_true_iff_forall_mem.1 h1 e he
     simp only[hb,Bool.not_true,Bool.false_or,decide_eq_true_eq]at h2
     exact ih e.on h2 (by omega)⟩
    rw[hr]at this;cases this
 intro f
 induction f with
 |zero=>
  intro listed a w hf inv
  have hup:∀i,i<l.length→listed.getD i false=true:=fun i hi=>by
   have h0:=List.length_eq_zero_iff.1 hf
   have h1:=List.filter_eq_nil_iff.1 h0 i (List.mem_range.2 hi)
   simpa using h1
  refine⟨?_,hend listed a w inv hup⟩
  apply List.eq_nil_iff_forall_not_mem.2
  intro i hi
  obtain⟨h0,o,ho,_⟩:=mem_ready.1 hi
  have hlt:i<l.length:=by have:=(Array.getElem?_eq_some_iff.1 ho).1;simpa using this
  have h1:=hup i hlt
  rw[getD_both h0]at h1;cases h1
 |succ f ih=>
  intro listed a w hf inv
  refine⟨fun h0=>hend listed a w inv (hall listed inv.size h0),fun k hk=>?_⟩
  obtain⟨h0,o,ho,hafter⟩:=mem_ready.1 hk
  have hol:l[k]?=some o:=by simpa using ho
  have hlt:k<l.length:=(List.getElem?_eq_some_iff.1 hol).1
  have hst:TwStepK P l T a0 W0 W1 s k o:=by have:=hstep.get hol;rwa[Nat.zero_add]at this
  have heval:∀t,offK l k t=true→a.eval (.tmp t)=a0.eval (.tmp t):=fun t ht=>by
   show a.tmps.getD t undef=a0.tmps.getD t undef
   rw[Array.getD_eq_getD_getElem?,Array.getD_eq_getD_getElem?,inv.off t (fun j d hl hd e=>?_)]
   rcases offK_is ht hd e with e1|hw
   ·subst e1;rw[getD_both h0]at hl;cases hl
   ·obtain⟨oj,hoj,e,he,hb,hon⟩:=Region.waitsFor_spec hw
    have:=inv.closed j oj (by simpa using hoj) hl e he hb
    rw[hon,getD_both h0]at this;cases this
  have hfacts:∀j d,Region.waitsFor .any l.toArray k j=true→(l[j]?).bind (·.dst)=some d→T j (a.eval (.tmp d)):=fun j d hw hd=>by
   obtain⟨ok,hok,e,he,hb,hon⟩:=Region.waitsFor_spec hw
   rw[ho]at hok;cases hok
   exact inv.told j d (by have:=hafter e he hb;rwa[hon]at this) hd
  have hdlt:∀d,o.dst=some d→d<a.tmps.size:=fun d hd=>by
   have h1:=List.all_eq_true.1 hin o (List.mem_of_getElem? hol)
   simp only[hd,decide_eq_true_eq]at h1
   rw[inv.tmps];exact h1
  have hw01:w=W0∨(w=W1∧k≠s∧Region.waitsFor .any l.toArray s k=false):=by
   cases hls:listed.getD s false with
   |false=>left;have:=inv.world;rw[hls]at this;simpa using this
   |true=>
    right
    refine⟨by have:=inv.world;rw[hls]at this;simpa using this,fun e=>?_,?_⟩
    ·subst e;rw[getD_both h0]at hls;cases hls
    ·cases hw:Region.waitsFor .any l.toArray s k with
     |false=>rfl
     |true=>
      exfalso
      obtain⟨os,hos,e,he,hb,hon⟩:=Region.waitsFor_spec hw
      have:=inv.closed s os (by simpa using hos) hls e he hb
      rw[hon,getD_both h0]at this;cases this
  have hgo:=hst a w hw01 heval hfacts (wpAny P .any l.toArray Q f (listed.setIfInBounds k true)) Q (fun v hv=>by
   refine ih _ _ _ ?_ ⟨by simp[inv.size],?_,?_,fun t ht=>?_,fun j d hl hd=>?_,fun j oj hj hl e he hb=>?_,?_⟩
   ·have hfe:((List.range l.length).filter fun i=> !(listed.setIfInBounds k true).getD i false)=((List.range l.length).filter fun i=> !listed.getD i false).erase k:=by
     rw[List.Nodup.erase_eq_filter (List.nodup_range.filter _),List.filter_filter]
     apply List.filter_congr
     intro x hx
     by_cases e:x=k
     ·subst e
      have:x<listed.size:=by rw[inv.size];exact hlt
      simp[this]
     ·rw[getD_set_ne false (Ne.symm e)];simp[e]
    rw[hfe,List.length_erase_of_mem (List.mem_filter.2 ⟨List.mem_range.2 hlt,by rw[getD_both h0];rfl⟩),hf];rfl
   ·unfold Act.put;cases o.dst<;>simp[inv.tmps]
   ·unfold Act.put;cases o.dst<;>exact inv.defers
   ·rw[←inv.off t (fun j d hl hd=>ht j d (getD_set_true hl) hd)]
    unfold Act.put
    cases hd:o.dst with
    |none=>rfl
    |some d=>
     have e:d≠t:=ht k d (by have:k<listed.size:=(by rw[inv.size];exact hlt);simp[this]) (by rw[hol];simpa using hd)
     simp[Array.getElem?_setIfInBounds_ne e]
   ·by_cases e:j=k
    ·subst e
     rw[hol]at hd
     have hd':o.dst=some d:=by simpa using hd
     have hlt2:=hdlt d hd'
     have he:(a.put o.dst v).eval (.tmp d)=v:=by rw[hd'];simp[Act.put,Act.eval,hlt2]
     rw[he];exact hv
    ·rw[getD_set_ne false (Ne.symm e)]at hl
     have h1:=inv.told j d hl hd
     have he:(a.put o.dst v).eval (.tmp d)=a.eval (.tmp d):=Act.eval_put fun d' hd' hx=>by
      cases hx
      cases hj:l[j]? with
      |none=>rw[hj]at hd;cases hd
      |some y=>
       rw[hj]at hd
       exact e (tab_dst hnd hj hol (by simpa using hd) hd')
     rw[he];exact h1
   ·by_cases e':j=k
    ·subst e'
     rw[hol]at hj;cases hj
     exact getD_set_true (hafter e he hb)
    ·rw[getD_set_ne false (Ne.symm e')]at hl
     exact getD_set_true (inv.closed j oj hj hl e he hb)
   ·by_cases e:k=s
    ·subst e
     have:k<listed.size:=by rw[inv.size];exact hlt
     rw[if_pos rfl];simp[this]
    ·rw[if_neg e,getD_set_ne false e];exact inv.world)
  unfold wpOp
  simp only[ho]
  split at hgo
  ·rename_i hw;rw[if_pos hw];exact .inl hgo
  ·rename_i hw;rw[if_neg hw];exact hgo
theorem wp_region_twoK{P:Program}{id:Nat}{Q:Exit→Act→World→Prop}{a0:Act}{w0:World}{l:List Oper}(s:Nat)(T:Nat→Value→Prop)(W1:World)(hm:P.follows .mixedOrders=true)(hs:(decide (s<l.length)&&tabB l a0.tmps.size)=true)
  (hstep:TwAllK P l T a0 w0.drew W1 s 0 l)
  (hend:∀(vals:Tmp→Value),(∀j d,(l[j]?).bind (·.dst)=some d→T j (vals d))→Q .normal (putL (l.map (·.dst)) vals a0) W1):(Code.region id l.toArray true).wp P Q a0 w0:=by
 simp only[Bool.and_eq_true,decide_eq_true_eq]at hs
 obtain⟨hsl,hB⟩:=hs
 refine wp_region_any hm ?_
 have hl0:∀i,(Array.replicate l.toArray.size false).getD i false=false:=fun i=>getD_replicate_false _ _
 refine tw_anyK (T:=T) hsl hB hstep (fun listed a w inv hup=>?_) l.toArray.size _ _ _ ?_ ⟨by simp,rfl,rfl,fun _ _=>rfl,(fun j d h _=>by rw[hl0]at h;cases h),(fun j oj _ h=>by rw[hl0]at h;cases h),by rw[hl0];rfl⟩
 ·have ha:a=putL (l.map (·.dst)) (fun d=>a.eval (.tmp d)) a0:=by
   have ht:a.tmps=(putL (l.map (·.dst)) (fun d=>a.eval (.tmp d)) a0).tmps:=by
    apply Array.ext_getElem?
    intro t
    by_cases ht:some t∈l.map (·.dst)
    ·obtain⟨o,ho,hd⟩:=List.mem_map.1 ht
     simp only[tabB,Bool.and_eq_true,decide_eq_true_eq]at hB
     have h1:=List.all_eq_true.1 hB.1.2 o ho
     simp only[hd,decide_eq_true_eq]at h1
     rw[putL_in _ _ _ t (.inl ht) h1]
     have h2:t<a.tmps.size:=by rw[inv.tmps];exact h1
     simp[Act.eval,h2]
    ·rw[putL_out _ _ _ t ht]
     refine inv.off t (fun j d _ hd e=>ht ?_)
     cases hj:l[j]? with
     |none=>rw[hj]at hd;cases hd
     |some y=>
      rw[hj]at hd
      exact List.mem_map.2 ⟨y,List.mem_of_getElem? hj,by rw[←e];simpa using hd⟩
   have hdf:a.defers=(putL (l.map (·.dst)) (fun d=>a.eval (.tmp d)) a0).defers:=by rw[putL_defers];exact inv.defers
   cases a with
   |mk t df=>
    generalize hp:putL (l.map (·.dst)) (fun d=>(Act.mk t df).eval (.tmp d)) a0=p at*
    cases p with
    |mk t2 df2=>simp only at ht hdf;rw[ht,hdf]
  have hw:=inv.world
  rw[if_pos (hup s hsl)]at hw
  rw[ha,hw]
  refine hend _ fun j d hd=>?_
  refine inv.told j d (hup j ?_) hd
  cases hj:l[j]? with
  |none=>rw[hj]at hd;cases hd
  |some _=>exact(List.getElem?_eq_some_iff.1 hj).1
 ·rw[List.filter_eq_self.2 (fun i _=>by rw[hl0];rfl)];simp
theorem TwAllK.nil{P:Program}{l:List Oper}{T:Nat→Value→Prop}{a0:Act}{W0 W1:World}{s k:Nat}:TwAllK P l T a0 W0 W1 s k []:=trivial
theorem TwAllK.cons{P:Program}{l:List Oper}{T:Nat→Value→Prop}{a0:Act}{W0 W1:World}{s k:Nat}{o:Oper}{r:List Oper}(h:TwStepK P l T a0 W0 W1 s k o)(hr:TwAllK P l T a0 W0 W1 s (k+1) r):TwAllK P l T a0 W0 W1 s k (o::r):=⟨h,hr⟩
end Go.Proofs.YtgokdgcmkcmjeaaGreat
