/-
  The law SwellNames: the numbers of limits and errors, and the chapter's examples. No condition.
-/
import Derived.Test.Ytcmpmighjglnpaasaaw
import Derived.Test.Ytcmpmighjglnpaasabb
set_option maxRecDepth 100000
set_option maxHeartbeats 16000000
namespace Go.Proofs.Ytcmpmighjglnpaa
open Go.RowKit Go.ChangeShapes Go.WideShapes Go.ChangeAt Go.Joins
theorem wpList_buildOn14{P:Program}{ops:Array Oper}{rest:List Oper}{o:Oper}{a:Act}{w:World}{Q:Exit→Act→World→Prop}(hw:Region.wanted o (yielded ops a.tmps)=true)(t:TypeId)(parts:Array (Nat×Operand))(ho:o.op=.build t parts)
  (d:Option Tmp) (hd:o.dst=d) (cells:Array Value) (hf:P.built t (parts.map fun(i,x)=>(i,a.eval x)).toList=some cells) (h:wpList P ops Q rest (a.put d (.agg cells)) w):wpList P ops Q (o::rest) a w:=by
 subst hd
 exact wpList_build_on hw t parts ho (.agg cells) (run_build w t _ cells hf) h
def FeedB(s:Swm)(_L:List Nat)(C:Array Value)(n:Nat)(E:Int)(fr:Nat×Nat):Prop:=∀(W:World) (base:Nat) (u:UnV),SwO W base u s→Calls Try.prog 7 #[.agg (swA u.sw),.slice (some ⟨W.heap.size,0,none⟩) n n] (W.alloc (.cells C 5 fr)) fun e w'=>e=.returned (.tuple #[.agg (swA swZ),.slice none 0 0,.int .i64 0,.int .i64 E])∧Below W.heap.size W w'
theorem feedB_of{s:Swm}(g:GoodSw s)(L:List Nat)(C:Array Value)(hC:C=(bytesL L.length (lst L)).toArray)(hL:BytesP L)(n:Nat)(hn:n=L.length)(h9:n≤1000)(E:Int)(fr:Nat×Nat)(hE:fdoE s L=E)(h0:E≠0):FeedB s L C n E fr:=
 fun _ _ _ h=>feed_litE h g L C hC hL n hn h9 E fr hE h0
def FeedN(s:Swm)(E:Int):Prop:=∀(W:World) (base:Nat) (u:UnV),SwO W base u s→Calls Try.prog 7 #[.agg (swA u.sw),.slice none 0 0] W fun e w'=>e=.returned (.tuple #[.agg (swA swZ),.slice none 0 0,.int .i64 0,.int .i64 E])∧Below W.heap.size W w'
theorem feedN_of{s:Swm}(g:GoodSw s)(E:Int)(hE:fdoE s []=E)(h0:E≠0):FeedN s E:=fun W base u h=>by
 refine(feedO_any h g none 0 0 [] rfl (ByR.nil _ _ _ (fun j=>lst_lt (L:=[]) (fun x hx=>by cases hx) j))).mono ?_
 rintro e w' ⟨h1,_,h3⟩
 rw[hE]at h1
 exact⟨h1 h0,h3⟩
def nm_x:Swm:=nextM (begM 9) [75,4,0] (feedM (begM 9) [75,4,0])
theorem nm_xo:nm_x.over=true:=by
 unfold nm_x nextM
 rw[nm14_v,if_pos rfl]
theorem nm_xg:GoodSw nm_x:=next_good (begM_good (by decide:(9:Nat)≤131072)) (by intro x hx;simp at hx;omega) nm14_e
theorem new_bad(w:World)(n:Int)(h:n<0∨131072<n):Calls Try.prog 6 #[.int .i64 n] w fun e w'=>e=.returned (.tuple #[.agg (swA swZ),.int .i64 2])∧Below w.heap.size w w':=by
 refine(unew14_any w n).mono ?_
 rintro e w' ⟨rfl,hb⟩
 refine⟨?_,hb⟩
 rw[show newV14 n=swZ from if_pos h,show newE14 n=2 from if_pos h]
theorem swI_zero(w:World):SwI w unZ [] [] [] []:=
 have r:RdS w w.heap.size (.slice none 0 0) []:=rdS_nil14 _ _
 ⟨⟨none,0,rfl,ByR.nil _ _ _ (fun j=>lst_lt (L:=[]) (fun x hx=>by cases hx) j)⟩,⟨none,0,rfl,ByR.nil _ _ _ (fun j=>lst_lt (L:=[]) (fun x hx=>by cases hx) j)⟩,r,r,by decide,by decide,by decide,by decide,by decide,by decide,by decide,by decide,by decide⟩
theorem check_zero14(w:World):Calls Try.prog 9 #[.agg (swA swZ)] w fun e w'=>e=.returned (.int .i64 8)∧Below w.heap.size w w':=by
 have h:=ucheck14_any w unZ [] [] [] [] (swI_zero w) true ⟨fun _=>mayI_zero,fun _=>rfl⟩
 have e:mayW unZ ([]:List Nat).length ([]:List Nat).length [] [] true=false:=by
  unfold mayW
  rw[show kptW unZ ([]:List Nat).length=false from by decide]
  simp
 rw[e]at h
 exact h
theorem names14_law(w:World):Calls Try.prog 3 #[] w fun e w'=>e=.returned (.bool true)∧Below w.heap.size w w':=by
 have kc:=fun(w:World) (C:Array Value) (n c:Nat)=>Lib.run_convert_bytes_const (P:=Try.prog) w 22 5 C n c Try.underlying22 Try.underlying5
 obtain⟨Z,hZ⟩:∃Z,Z=swA swZ:=⟨_,rfl⟩
 have hz:∀u:World,(zeroValue 32).run Try.prog u=.ok (.agg Z) u:=by rw[hZ];exact(zero_of_info infoSwl).1
 have HZS:Hid (Z.size=45):=Lib.hid (by rw[hZ];exact swA_size rfl)
 have HZO:Hid (Z.all (·.oneCell')=true):=Lib.hid (by rw[hZ];exact swZ_one)
 have HZ:=Lib.hid hZ
 have HN9:Hid (∀w:World,Calls Try.prog 6 #[.int .i64 9] w fun e w'=>e=.returned (.tuple #[.agg (swA (newU ((9:Nat):Int)).sw),.int .i64 0])∧Below w.heap.size w w'):=Lib.hid fun w=>new_of w 9 (by omega)
 have HN0:Hid (∀w:World,Calls Try.prog 6 #[.int .i64 0] w fun e w'=>e=.returned (.tuple #[.agg (swA (newU ((0:Nat):Int)).sw),.int .i64 0])∧Below w.heap.size w w'):=Lib.hid fun w=>new_of w 0 (by omega)
 have HM1:Hid (∀w:World,Calls Try.prog 6 #[.int .i64 (-1)] w fun e w'=>e=.returned (.tuple #[.agg (swA swZ),.int .i64 2])∧Below w.heap.size w w'):=Lib.hid fun w=>new_bad w _ (by omega)
 have HM2:Hid (∀w:World,Calls Try.prog 6 #[.int .i64 131073] w fun e w'=>e=.returned (.tuple #[.agg (swA swZ),.int .i64 2])∧Below w.heap.size w w'):=Lib.hid fun w=>new_bad w _ (by omega)
 have so9:∀W,SwO W W.heap.size (newU ((9:Nat):Int)) (begM 9):=fun W=>SwO.new W _ 9
 have so0:∀W,SwO W W.heap.size (newU ((0:Nat):Int)) (begM 0):=fun W=>SwO.new W _ 0
 have g9:=begM_good (by decide:(9:Nat)≤131072)
 have g0:=begM_good (by decide:(0:Nat)≤131072)
 have HF1:Hid (FeedL (begM 9) [75,4,0] #[.int .u8 75,.int .u8 4,.int .u8 0] 3 1 3 [97]):=Lib.hid (feedL_of g9 _ _ (by rfl) (by intro x hx;simp at hx;omega) 3 rfl (by omega) [97] 3 1 (by rw[fdoE_ok rfl (by decide)];exact nm14_e) nm14_o nm14_u rfl)
 have HF2:Hid (FeedB (begM 0) [75,4,0] #[.int .u8 75,.int .u8 4,.int .u8 0] 3 140 (3,4)):=Lib.hid (feedB_of g0 _ _ (by rfl) (by intro x hx;simp at hx;omega) 3 rfl (by omega) 140 (3,4) (by rw[fdoE_ok rfl (by decide)];exact nm14_f) (by decide))
 have HF3:Hid (FeedB (begM 9) [7] #[.int .u8 7] 1 130 (0,0)):=Lib.hid (feedB_of g9 _ _ (by rfl) (by intro x hx;simp at hx;omega) 1 rfl (by omega) 130 (0,0) (by rw[fdoE_ok rfl (by decide)];exact nm14_g) (by decide))
 have HF4:Hid (FeedN nm_x 6):=Lib.hid (feedN_of nm_xg 6 (by unfold fdoE;rw[if_pos nm_xo]) (by decide))
 have HCZ:Hid (∀w:World,Calls Try.prog 9 #[.agg Z] w fun e w'=>e=.returned (.int .i64 8)∧Below w.heap.size w w'):=Lib.hid (by rw[hZ];exact check_zero14)
 have HZB:Hid (Try.prog.built 32 []=some Z):=Lib.hid (by rw[hZ];exact built_swZ)
 have HAL:=Lib.hid alive14_any
 obtain⟨X0,hX0⟩:∃X,X=swA (newU ((9:Nat):Int)).sw:=⟨_,rfl⟩
 obtain⟨Y0,hY0⟩:∃X,X=swA (newU ((0:Nat):Int)).sw:=⟨_,rfl⟩
 rw[←hX0]at HN9
 rw[←hY0]at HN0
 rw[←hZ]at HM1 HM2
 have HX0S:Hid (X0.size=45):=Lib.hid (by rw[hX0];exact swA_size (blkL_len ..))
 have HX0O:Hid (X0.all (·.oneCell')=true):=Lib.hid (by rw[hX0];exact(so9 w).one)
 have HY0S:Hid (Y0.size=45):=Lib.hid (by rw[hY0];exact swA_size (blkL_len ..))
 have HY0O:Hid (Y0.all (·.oneCell')=true):=Lib.hid (by rw[hY0];exact(so0 w).one)
 have HSO9:=Lib.hid so9;have HSO0:=Lib.hid so0;have HX0:=Lib.hid hX0;have HY0:=Lib.hid hY0
 have q1:(4:Int)==4:=rfl
 clear so9 so0 g9 g0 hX0 hY0 hZ q1
 go_enter Try.func3,Try.ntmps3
 go_wp2_with fail
 refine(HN9.out w).mono ?_
 rintro e w1 ⟨rfl,hb⟩
 have so:=HSO9.out w1
 obtain⟨b1,hn⟩:∃b,b=w1.heap.size:=⟨_,rfl⟩
 obtain⟨W1,hW⟩:∃W,W=mkV w1 Z X0 32:=⟨_,rfl⟩
 have hm:Below w1.heap.size w1 W1:=by rw[hW];exact mkV_below _ _ _ _
 have hv:BoxC W1 b1 X0 32:=by rw[hW,hn];exact mkV_row _ _ _ _
 have hb2:=hb.trans (hm.mono hb.size)
 have HB:=Lib.hid hb2
 have HVb1:=Lib.hid hv;have HNb1:=Lib.hid hn;have HEW1:=Lib.hid hW
 have HSs:=Lib.hid (so.on hm)
 clear hb hb2 hm hv hn hW so
 go_wp2_with (first
  |(refine wpList_store_rowTo rfl _ _ _ rfl rfl w1.heap.size X0 rfl rfl 32 Z (heap_alloc_new w1 _) (szSwl _ HX0S.out) (by first|rfl|rw[HZS.out,HX0S.out]) HX0O.out ?_;rw[show(w1.alloc (.cells Z 32)).setRow w1.heap.size X0=mkV w1 Z X0 32 from rfl,←HEW1.out,←HNb1.out])
  |(refine wpList_load_row rfl _ _ rfl b1 rfl _ X0 (0,0) _ HVb1.out Try.underlying32 rfl (szSwl _ HX0S.out) ?_)
  |fail)
 have f:=HF1.out _ _ _ HSs.out
 rw[←HX0.out]at f
 refine f.mono ?_
 clear f
 rintro e w2 ⟨u2,At2,ct2,rfl,so,own,hb⟩
 obtain⟨X1,hX⟩:∃X,X=swA u2.sw:=⟨_,rfl⟩
 rw[←hX]
 have HX1S:Hid (X1.size=45):=Lib.hid (by rw[hX];exact swA_size (blkL_len ..))
 have HX1O:Hid (X1.all (·.oneCell')=true):=Lib.hid (by rw[hX];exact so.one)
 have HX1:=Lib.hid hX
 clear hX
 obtain⟨b2,hn⟩:∃b,b=w2.heap.size:=⟨_,rfl⟩
 obtain⟨W2,hW⟩:∃W,W=mkV w2 Z X1 32:=⟨_,rfl⟩
 have hm:Below w2.heap.size w2 W2:=by rw[hW];exact mkV_below _ _ _ _
 have hv:BoxC W2 b2 X1 32:=by rw[hW,hn];exact mkV_row _ _ _ _
 have hb2:=hb.trans (hm.mono hb.size)
 have HVb1:=Lib.hid (HVb1.out.below hb2 HVb1.out.lt)
 have HSs:=Lib.hid (HSs.out.on hb2)
 have HB:=Lib.hid (HB.out.trans (hb2.mono HB.out.size))
 have HVb2:=Lib.hid hv;have HNb2:=Lib.hid hn;have HEW2:=Lib.hid hW
 have HSx:=Lib.hid (so.on hm)
 have HRr1:=Lib.hid (own_keep own hm)
 clear hb hb2 hm hv hn hW so own
 go_wp2_with (first
  |(refine wpList_store_rowTo rfl _ _ _ rfl rfl w2.heap.size X1 rfl rfl 32 Z (heap_alloc_new w2 _) (szSwl _ HX1S.out) (by first|rfl|rw[HZS.out,HX1S.out]) HX1O.out ?_;rw[show(w2.alloc (.cells Z 32)).setRow w2.heap.size X1=mkV w2 Z X1 32 from rfl,←HEW2.out,←HNb2.out])
  |(refine wpList_load_row rfl _ _ rfl b1 rfl _ X0 (0,0) _ HVb1.out Try.underlying32 rfl (szSwl _ HX0S.out) ?_)
  |(refine wpList_load_row rfl _ _ rfl b2 rfl _ X1 (0,0) _ HVb2.out Try.underlying32 rfl (szSwl _ HX1S.out) ?_)
  |fail)
 have HSx:Hid (SwO W2 _ u2 nm_x):=HSx
 refine(HN0.out W2).mono ?_
 rintro e w3 ⟨rfl,hb⟩
 have so:=HSO0.out w3
 obtain⟨b3,hn⟩:∃b,b=w3.heap.size:=⟨_,rfl⟩
 obtain⟨W3,hW⟩:∃W,W=mkV w3 Z Y0 32:=⟨_,rfl⟩
 have hm:Below w3.heap.size w3 W3:=by rw[hW];exact mkV_below _ _ _ _
 have hv:BoxC W3 b3 Y0 32:=by rw[hW,hn];exact mkV_row _ _ _ _
 have hb2:=hb.trans (hm.mono hb.size)
 have HVb1:=Lib.hid (HVb1.out.below hb2 HVb1.out.lt)
 have HVb2:=Lib.hid (HVb2.out.below hb2 HVb2.out.lt)
 have HSs:=Lib.hid (HSs.out.on hb2)
 have HSx:=Lib.hid (HSx.out.on hb2)
 have HRr1:=Lib.hid (own_keep HRr1.out hb2)
 have HB:=Lib.hid (HB.out.trans (hb2.mono HB.out.size))
 have HVb3:=Lib.hid hv;have HNb3:=Lib.hid hn;have HEW3:=Lib.hid hW
 have HSo:=Lib.hid (so.on hm)
 clear hb hb2 hm hv hn hW so
 go_wp2_with (first
  |(refine wpList_store_rowTo rfl _ _ _ rfl rfl w3.heap.size Y0 rfl rfl 32 Z (heap_alloc_new w3 _) (szSwl _ HY0S.out) (by first|rfl|rw[HZS.out,HY0S.out]) HY0O.out ?_;rw[show(w3.alloc (.cells Z 32)).setRow w3.heap.size Y0=mkV w3 Z Y0 32 from rfl,←HEW3.out,←HNb3.out])
  |(refine wpList_load_row rfl _ _ rfl b1 rfl _ X0 (0,0) _ HVb1.out Try.underlying32 rfl (szSwl _ HX0S.out) ?_)
  |(refine wpList_load_row rfl _ _ rfl b2 rfl _ X1 (0,0) _ HVb2.out Try.underlying32 rfl (szSwl _ HX1S.out) ?_)
  |(refine wpList_load_row rfl _ _ rfl b3 rfl _ Y0 (0,0) _ HVb3.out Try.underlying32 rfl (szSwl _ HY0S.out) ?_)
  |fail)
 have f:=HF2.out _ _ _ HSo.out
 rw[←HY0.out]at f
 refine f.mono ?_
 clear f
 rintro e w4 ⟨rfl,hb⟩
 rw[←HZ.out]
 obtain⟨b4,hn⟩:∃b,b=w4.heap.size:=⟨_,rfl⟩
 obtain⟨W4,hW⟩:∃W,W=mkV w4 Z Z 32:=⟨_,rfl⟩
 have hm:Below w4.heap.size w4 W4:=by rw[hW];exact mkV_below _ _ _ _
 have hv:BoxC W4 b4 Z 32:=by rw[hW,hn];exact mkV_row _ _ _ _
 have hb2:=hb.trans (hm.mono hb.size)
 have HVb1:=Lib.hid (HVb1.out.below hb2 HVb1.out.lt)
 have HVb2:=Lib.hid (HVb2.out.below hb2 HVb2.out.lt)
 have HVb3:=Lib.hid (HVb3.out.below hb2 HVb3.out.lt)
 have HSs:=Lib.hid (HSs.out.on hb2)
 have HSx:=Lib.hid (HSx.out.on hb2)
 have HSo:=Lib.hid (HSo.out.on hb2)
 have HRr1:=Lib.hid (own_keep HRr1.out hb2)
 have HB:=Lib.hid (HB.out.trans (hb2.mono HB.out.size))
 have HVb4:=Lib.hid hv;have HNb4:=Lib.hid hn;have HEW4:=Lib.hid hW
 clear hb hb2 hm hv hn hW
 go_wp2_with (first
  |(refine wpList_store_rowTo rfl _ _ _ rfl rfl w4.heap.size Z rfl rfl 32 Z (heap_alloc_new w4 _) (szSwl _ HZS.out) (by first|rfl|rw[HZS.out,HZS.out]) HZO.out ?_;rw[show(w4.alloc (.cells Z 32)).setRow w4.heap.size Z=mkV w4 Z Z 32 from rfl,←HEW4.out,←HNb4.out])
  |(refine wpList_load_row rfl _ _ rfl b1 rfl _ X0 (0,0) _ HVb1.out Try.underlying32 rfl (szSwl _ HX0S.out) ?_)
  |(refine wpList_load_row rfl _ _ rfl b2 rfl _ X1 (0,0) _ HVb2.out Try.underlying32 rfl (szSwl _ HX1S.out) ?_)
  |(refine wpList_load_row rfl _ _ rfl b3 rfl _ Y0 (0,0) _ HVb3.out Try.underlying32 rfl (szSwl _ HY0S.out) ?_)
  |(refine wpList_load_row rfl _ _ rfl b4 rfl _ Z (0,0) _ HVb4.out Try.underlying32 rfl (szSwl _ HZS.out) ?_)
  |fail)
 have f:=HF3.out _ _ _ HSs.out
 rw[←HX0.out]at f
 refine f.mono ?_
 clear f
 rintro e w5 ⟨rfl,hb⟩
 rw[←HZ.out]
 obtain⟨b5,hn⟩:∃b,b=w5.heap.size:=⟨_,rfl⟩
 obtain⟨W5,hW⟩:∃W,W=mkV w5 Z Z 32:=⟨_,rfl⟩
 have hm:Below w5.heap.size w5 W5:=by rw[hW];exact mkV_below _ _ _ _
 have hv:BoxC W5 b5 Z 32:=by rw[hW,hn];exact mkV_row _ _ _ _
 have hb2:=hb.trans (hm.mono hb.size)
 have HVb1:=Lib.hid (HVb1.out.below hb2 HVb1.out.lt)
 have HVb2:=Lib.hid (HVb2.out.below hb2 HVb2.out.lt)
 have HVb3:=Lib.hid (HVb3.out.below hb2 HVb3.out.lt)
 have HVb4:=Lib.hid (HVb4.out.below hb2 HVb4.out.lt)
 have HSs:=Lib.hid (HSs.out.on hb2)
 have HSx:=Lib.hid (HSx.out.on hb2)
 have HSo:=Lib.hid (HSo.out.on hb2)
 have HRr1:=Lib.hid (own_keep HRr1.out hb2)
 have HB:=Lib.hid (HB.out.trans (hb2.mono HB.out.size))
 have HVb5:=Lib.hid hv;have HNb5:=Lib.hid hn;have HEW5:=Lib.hid hW
 clear hb hb2 hm hv hn hW
 go_wp2_with (first
  |(refine wpList_store_rowTo rfl _ _ _ rfl rfl w5.heap.size Z rfl rfl 32 Z (heap_alloc_new w5 _) (szSwl _ HZS.out) (by first|rfl|rw[HZS.out,HZS.out]) HZO.out ?_;rw[show(w5.alloc (.cells Z 32)).setRow w5.heap.size Z=mkV w5 Z Z 32 from rfl,←HEW5.out,←HNb5.out])
  |(refine wpList_load_row rfl _ _ rfl b1 rfl _ X0 (0,0) _ HVb1.out Try.underlying32 rfl (szSwl _ HX0S.out) ?_)
  |(refine wpList_load_row rfl _ _ rfl b2 rfl _ X1 (0,0) _ HVb2.out Try.underlying32 rfl (szSwl _ HX1S.out) ?_)
  |(refine wpList_load_row rfl _ _ rfl b3 rfl _ Y0 (0,0) _ HVb3.out Try.underlying32 rfl (szSwl _ HY0S.out) ?_)
  |(refine wpList_load_row rfl _ _ rfl b4 rfl _ Z (0,0) _ HVb4.out Try.underlying32 rfl (szSwl _ HZS.out) ?_)
  |(refine wpList_load_row rfl _ _ rfl b5 rfl _ Z (0,0) _ HVb5.out Try.underlying32 rfl (szSwl _ HZS.out) ?_)
  |fail)
 have f:=HF4.out _ _ _ HSx.out
 rw[←HX1.out]at f
 refine f.mono ?_
 clear f
 rintro e w6 ⟨rfl,hb⟩
 rw[←HZ.out]
 obtain⟨b6,hn⟩:∃b,b=w6.heap.size:=⟨_,rfl⟩
 obtain⟨W6,hW⟩:∃W,W=mkV w6 Z Z 32:=⟨_,rfl⟩
 have hm:Below w6.heap.size w6 W6:=by rw[hW];exact mkV_below _ _ _ _
 have hv:BoxC W6 b6 Z 32:=by rw[hW,hn];exact mkV_row _ _ _ _
 have hb2:=hb.trans (hm.mono hb.size)
 have HVb1:=Lib.hid (HVb1.out.below hb2 HVb1.out.lt)
 have HVb2:=Lib.hid (HVb2.out.below hb2 HVb2.out.lt)
 have HVb3:=Lib.hid (HVb3.out.below hb2 HVb3.out.lt)
 have HVb4:=Lib.hid (HVb4.out.below hb2 HVb4.out.lt)
 have HVb5:=Lib.hid (HVb5.out.below hb2 HVb5.out.lt)
 have HSs:=Lib.hid (HSs.out.on hb2)
 have HSx:=Lib.hid (HSx.out.on hb2)
 have HSo:=Lib.hid (HSo.out.on hb2)
 have HRr1:=Lib.hid (own_keep HRr1.out hb2)
 have HB:=Lib.hid (HB.out.trans (hb2.mono HB.out.size))
 have HVb6:=Lib.hid hv;have HNb6:=Lib.hid hn;have HEW6:=Lib.hid hW
 clear hb hb2 hm hv hn hW
 go_wp2_with (first
  |(refine wpList_store_rowTo rfl _ _ _ rfl rfl w6.heap.size Z rfl rfl 32 Z (heap_alloc_new w6 _) (szSwl _ HZS.out) (by first|rfl|rw[HZS.out,HZS.out]) HZO.out ?_;rw[show(w6.alloc (.cells Z 32)).setRow w6.heap.size Z=mkV w6 Z Z 32 from rfl,←HEW6.out,←HNb6.out])
  |(refine wpList_load_row rfl _ _ rfl b1 rfl _ X0 (0,0) _ HVb1.out Try.underlying32 rfl (szSwl _ HX0S.out) ?_)
  |(refine wpList_load_row rfl _ _ rfl b2 rfl _ X1 (0,0) _ HVb2.out Try.underlying32 rfl (szSwl _ HX1S.out) ?_)
  |(refine wpList_load_row rfl _ _ rfl b3 rfl _ Y0 (0,0) _ HVb3.out Try.underlying32 rfl (szSwl _ HY0S.out) ?_)
  |(refine wpList_load_row rfl _ _ rfl b4 rfl _ Z (0,0) _ HVb4.out Try.underlying32 rfl (szSwl _ HZS.out) ?_)
  |(refine wpList_load_row rfl _ _ rfl b5 rfl _ Z (0,0) _ HVb5.out Try.underlying32 rfl (szSwl _ HZS.out) ?_)
  |(refine wpList_load_row rfl _ _ rfl b6 rfl _ Z (0,0) _ HVb6.out Try.underlying32 rfl (szSwl _ HZS.out) ?_)
  |fail)
 refine(HM1.out W6).mono ?_
 rintro e w7 ⟨rfl,hb⟩
 obtain⟨b7,hn⟩:∃b,b=w7.heap.size:=⟨_,rfl⟩
 obtain⟨W7,hW⟩:∃W,W=mkV w7 Z Z 32:=⟨_,rfl⟩
 have hm:Below w7.heap.size w7 W7:=by rw[hW];exact mkV_below _ _ _ _
 have hv:BoxC W7 b7 Z 32:=by rw[hW,hn];exact mkV_row _ _ _ _
 have hb2:=hb.trans (hm.mono hb.size)
 have HVb1:=Lib.hid (HVb1.out.below hb2 HVb1.out.lt)
 have HVb2:=Lib.hid (HVb2.out.below hb2 HVb2.out.lt)
 have HVb3:=Lib.hid (HVb3.out.below hb2 HVb3.out.lt)
 have HVb4:=Lib.hid (HVb4.out.below hb2 HVb4.out.lt)
 have HVb5:=Lib.hid (HVb5.out.below hb2 HVb5.out.lt)
 have HVb6:=Lib.hid (HVb6.out.below hb2 HVb6.out.lt)
 have HSs:=Lib.hid (HSs.out.on hb2)
 have HSx:=Lib.hid (HSx.out.on hb2)
 have HSo:=Lib.hid (HSo.out.on hb2)
 have HRr1:=Lib.hid (own_keep HRr1.out hb2)
 have HB:=Lib.hid (HB.out.trans (hb2.mono HB.out.size))
 have HVb7:=Lib.hid hv;have HNb7:=Lib.hid hn;have HEW7:=Lib.hid hW
 clear hb hb2 hm hv hn hW
 go_wp2_with (first
  |(refine wpList_store_rowTo rfl _ _ _ rfl rfl w7.heap.size Z rfl rfl 32 Z (heap_alloc_new w7 _) (szSwl _ HZS.out) (by first|rfl|rw[HZS.out,HZS.out]) HZO.out ?_;rw[show(w7.alloc (.cells Z 32)).setRow w7.heap.size Z=mkV w7 Z Z 32 from rfl,←HEW7.out,←HNb7.out])
  |(refine wpList_load_row rfl _ _ rfl b1 rfl _ X0 (0,0) _ HVb1.out Try.underlying32 rfl (szSwl _ HX0S.out) ?_)
  |(refine wpList_load_row rfl _ _ rfl b2 rfl _ X1 (0,0) _ HVb2.out Try.underlying32 rfl (szSwl _ HX1S.out) ?_)
  |(refine wpList_load_row rfl _ _ rfl b3 rfl _ Y0 (0,0) _ HVb3.out Try.underlying32 rfl (szSwl _ HY0S.out) ?_)
  |(refine wpList_load_row rfl _ _ rfl b4 rfl _ Z (0,0) _ HVb4.out Try.underlying32 rfl (szSwl _ HZS.out) ?_)
  |(refine wpList_load_row rfl _ _ rfl b5 rfl _ Z (0,0) _ HVb5.out Try.underlying32 rfl (szSwl _ HZS.out) ?_)
  |(refine wpList_load_row rfl _ _ rfl b6 rfl _ Z (0,0) _ HVb6.out Try.underlying32 rfl (szSwl _ HZS.out) ?_)
  |(refine wpList_load_row rfl _ _ rfl b7 rfl _ Z (0,0) _ HVb7.out Try.underlying32 rfl (szSwl _ HZS.out) ?_)
  |fail)
 refine(HM2.out W7).mono ?_
 rintro e w8 ⟨rfl,hb⟩
 obtain⟨b8,hn⟩:∃b,b=w8.heap.size:=⟨_,rfl⟩
 obtain⟨W8,hW⟩:∃W,W=mkV w8 Z Z 32:=⟨_,rfl⟩
 have hm:Below w8.heap.size w8 W8:=by rw[hW];exact mkV_below _ _ _ _
 have hv:BoxC W8 b8 Z 32:=by rw[hW,hn];exact mkV_row _ _ _ _
 have hb2:=hb.trans (hm.mono hb.size)
 have HVb1:=Lib.hid (HVb1.out.below hb2 HVb1.out.lt)
 have HVb2:=Lib.hid (HVb2.out.below hb2 HVb2.out.lt)
 have HVb3:=Lib.hid (HVb3.out.below hb2 HVb3.out.lt)
 have HVb4:=Lib.hid (HVb4.out.below hb2 HVb4.out.lt)
 have HVb5:=Lib.hid (HVb5.out.below hb2 HVb5.out.lt)
 have HVb6:=Lib.hid (HVb6.out.below hb2 HVb6.out.lt)
 have HVb7:=Lib.hid (HVb7.out.below hb2 HVb7.out.lt)
 have HSs:=Lib.hid (HSs.out.on hb2)
 have HSx:=Lib.hid (HSx.out.on hb2)
 have HSo:=Lib.hid (HSo.out.on hb2)
 have HRr1:=Lib.hid (own_keep HRr1.out hb2)
 have HB:=Lib.hid (HB.out.trans (hb2.mono HB.out.size))
 have HVb8:=Lib.hid hv;have HNb8:=Lib.hid hn;have HEW8:=Lib.hid hW
 clear hb hb2 hm hv hn hW
 go_wp2_with (first
  |(refine wpList_store_rowTo rfl _ _ _ rfl rfl w8.heap.size Z rfl rfl 32 Z (heap_alloc_new w8 _) (szSwl _ HZS.out) (by first|rfl|rw[HZS.out,HZS.out]) HZO.out ?_;rw[show(w8.alloc (.cells Z 32)).setRow w8.heap.size Z=mkV w8 Z Z 32 from rfl,←HEW8.out,←HNb8.out])
  |(refine wpList_load_row rfl _ _ rfl b1 rfl _ X0 (0,0) _ HVb1.out Try.underlying32 rfl (szSwl _ HX0S.out) ?_)
  |(refine wpList_load_row rfl _ _ rfl b2 rfl _ X1 (0,0) _ HVb2.out Try.underlying32 rfl (szSwl _ HX1S.out) ?_)
  |(refine wpList_load_row rfl _ _ rfl b3 rfl _ Y0 (0,0) _ HVb3.out Try.underlying32 rfl (szSwl _ HY0S.out) ?_)
  |(refine wpList_load_row rfl _ _ rfl b4 rfl _ Z (0,0) _ HVb4.out Try.underlying32 rfl (szSwl _ HZS.out) ?_)
  |(refine wpList_load_row rfl _ _ rfl b5 rfl _ Z (0,0) _ HVb5.out Try.underlying32 rfl (szSwl _ HZS.out) ?_)
  |(refine wpList_load_row rfl _ _ rfl b6 rfl _ Z (0,0) _ HVb6.out Try.underlying32 rfl (szSwl _ HZS.out) ?_)
  |(refine wpList_load_row rfl _ _ rfl b7 rfl _ Z (0,0) _ HVb7.out Try.underlying32 rfl (szSwl _ HZS.out) ?_)
  |(refine wpList_load_row rfl _ _ rfl b8 rfl _ Z (0,0) _ HVb8.out Try.underlying32 rfl (szSwl _ HZS.out) ?_)
  |fail)
 refine(HAL.out W8).mono ?_
 rintro e w9 ⟨rfl,hb⟩
 have c44:=swO_over (HSx.out.on hb) HX1.out (HVb2.out.below hb HVb2.out.lt) nm_xo
 have s1:(convert 22 9 (.slice At2 1 ct2)).run Try.prog w9=.ok (.string (strL [97])) w9:=run_str (ByR.of_own (own_keep HRr1.out hb) (lst_lt (by intro x hx;simp at hx;omega))).1 ct2
 rw[←strLs [97] #[97] rfl]at s1
 have HB:=Lib.hid (HB.out.trans (hb.mono HB.out.size))
 clear hb
 go_wp2_with (first
  |(refine wpList_buildOn14 (by rfl) 32 #[] rfl (some 115) rfl Z ?_ ?_;focus(simpa[Act.eval]using HZB.out))
  |fail)
 refine(HCZ.out w9).mono ?_
 rintro e w10 ⟨rfl,hb⟩
 have HB:=Lib.hid (HB.out.trans (hb.mono HB.out.size))
 clear hb s1 c44
 go_wp2
 go_ret
 exact⟨rfl,HB.out⟩
theorem names14_law_lifted(os:Os)(started:os.Started)(H:Type)(enc:TypeId×Value→H):
  ReturnsInHanded {} Try.checked os 3 .any (Rows.swellNamesSpec.pre6 enc Try.prog Try.f3 Rows.swellNamesRow.domain false) (Rows.swellNamesSpec.post enc Try.prog Try.f3 false true false false):=by
 refine returnsInHanded_of_change (C:=Try.checked) own started (by kernel_rfl) Try.func3
  (ChangeSpec.witness6 (enc:=enc) (C:=Try.checked) false ⟨#[],#[],[]⟩ 8 (by kernel_rfl) (by kernel_rfl) (by kernel_rfl) (by kernel_rfl)) ?_
 intro W base args ds gs before hval0 hW _ _
 have hval:∀(j:Nat) t v,Try.f3.params[j]?=some t→args[j]?=some v→Value.okWide Try.prog W .any base t v:=hval0
 have hW':=hW
 obtain⟨p,q,hA0,hV,rfl,_,_⟩:=hW
 have hA:DataW.TrodAll enc Try.prog W 0 (fun _=>true) true Try.f3.params.toList args.toList ds p:=hA0
 rw[Try.params3]at hA
 obtain⟨hargs,rfl,rfl⟩:=trodAll_nil hA
 obtain rfl:args=#[]:=by cases args;simp_all
 obtain⟨rfl,rfl⟩:=trodVars_none hV
 clear hA0 hval0
 refine(names14_law W).mono fun e W' ⟨he,bel⟩=>?_
 subst he
 exact⟨_,rfl,_,_,_,[],_,[],hW',trodAll_mk1 (shut_bool Try.underlying4 _),trodAll_mk0,rfl,bel.frame _,fun h=>by cases h⟩
theorem names14_law_holds:Rows.SwellNamesSaid:=
 OpenClaim.holds_of_wide 3 Try.f3 rfl rfl rfl rfl rfl rfl rfl ⟨rfl,rfl,rfl,rfl,rfl⟩ rfl rfl rfl rfl rfl (by kernel_rfl) Try.func3 (by kernel_rfl)
  (of_decide_eq_true (by kernel_rfl)) (by unfold Func.isWrapper;first|(rw[if_pos (by decide+kernel)];kernel_rfl)|(rw[if_neg (by decide+kernel)];exact⟨rfl,rfl⟩))
  (fun os started H enc _=>names14_law_lifted os started H enc)
#print axioms names14_law_holds
end Go.Proofs.Ytcmpmighjglnpaa
