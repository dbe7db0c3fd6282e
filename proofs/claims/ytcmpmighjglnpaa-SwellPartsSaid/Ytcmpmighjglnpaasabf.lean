/-
  Words and walks.
-/
import Derived.SizedLaws
import Derived.Test.Ytcmpmighjglnpaasaaa
import Derived.Test.Ytcmpmighjglnpaasaad
import Derived.Test.Ytcmpmighjglnpaasaah
import Derived.Test.Ytcmpmighjglnpaasaap
import Derived.Test.Ytcmpmighjglnpaasaav
import Derived.Test.Ytcmpmighjglnpaasaaw
import Derived.Test.Ytcmpmighjglnpaasaaz
import Derived.Test.Ytcmpmighjglnpaasabd
set_option maxRecDepth 100000
set_option maxHeartbeats 16000000
namespace Go.Proofs.Ytcmpmighjglnpaa
open Go.RowKit
def ansO(E:Int)(s:Swm)(b:List Nat):List Nat:=if E=0 then(feedM s b).out else[]
def ansU(E:Int)(s:Swm)(b:List Nat):Nat:=if E=0 then usedM s b (feedM s b)else 0
structure FeeR (W:World) (E:Int) (N:Swm) (O:List Nat) (X:Array Value) (At:Option Addr) (ct:Nat):Prop where
 bad:E≠0→X=swA swZ
 ok:E=0→∃u base,X=swA u.sw∧SwO W base u N
 own:∃base,W.ownsRow base 5 1 (.slice At O.length ct) O.length (bytesL O.length (lst O))
 bin:BytesP O
theorem FeeD.ans{w w':World}{E:Int}{s:Swm}{b:List Nat}{e:Ending}(h:FeeD w E s b e w'):
  ∃X At ct,e=.returned (.tuple #[.agg X,.slice At (ansO E s b).length ct,.int .i64 (ansU E s b:Int),.int .i64 E])∧FeeR w' E (nextM s b (feedM s b)) (ansO E s b) X At ct∧Below w.heap.size w w':=by
 by_cases h0:E=0
 ·obtain⟨u,At,ct,e1,e2,e3,e4⟩:=h.ok h0
  refine⟨_,At,ct,?_,⟨fun h=>absurd h0 h,fun _=>⟨u,w.heap.size,rfl,e2⟩,⟨w.heap.size,?_⟩,?_⟩,h.bel⟩
  ·unfold ansO ansU;rw[if_pos h0,if_pos h0,e1,h0]
  ·unfold ansO;rw[if_pos h0];exact e3
  ·unfold ansO;rw[if_pos h0];exact e4
 ·refine⟨_,none,0,?_,⟨fun _=>rfl,fun h=>absurd h h0,⟨0,?_⟩,?_⟩,h.bel⟩
  ·unfold ansO ansU;rw[if_neg h0,if_neg h0,h.bad h0];rfl
  ·unfold ansO;rw[if_neg h0];exact World.ownsRow_nil _ _ _ _
  ·unfold ansO;rw[if_neg h0];exact fun x hx=>by cases hx
theorem FeeR.on{W W':World}{E:Int}{N:Swm}{O:List Nat}{X:Array Value}{At:Option Addr}{ct:Nat}(h:FeeR W E N O X At ct)(hb:Below W.heap.size W W'):FeeR W' E N O X At ct:=by
 obtain⟨base,o⟩:=h.own
 exact⟨h.bad,fun h0=>(by obtain⟨u,b,e,s⟩:=h.ok h0;exact⟨u,b,e,s.on hb⟩),⟨base,own_keep o hb⟩,h.bin⟩
theorem FeeR.size{W:World}{E:Int}{N:Swm}{O:List Nat}{X:Array Value}{At:Option Addr}{ct:Nat}(h:FeeR W E N O X At ct):X.size=45:=by
 by_cases h0:E=0
 ·obtain⟨u,b,e,s⟩:=h.ok h0;rw[e];exact swA_size (blkL_len ..)
 ·rw[h.bad h0];exact swA_size rfl
theorem FeeR.one{W:World}{E:Int}{N:Swm}{O:List Nat}{X:Array Value}{At:Option Addr}{ct:Nat}(h:FeeR W E N O X At ct):X.all (·.oneCell')=true:=by
 by_cases h0:E=0
 ·obtain⟨u,b,e,s⟩:=h.ok h0
  obtain⟨A,c,e1,_⟩:=s.W
  rw[e];exact swA_one s.I.one (by show u.W.oneCell'=true;rw[e1];rfl) s.blk.one
 ·rw[h.bad h0];exact swZ_one
theorem FeeR.row{W:World}{E:Int}{N:Swm}{O:List Nat}{X:Array Value}{At:Option Addr}{ct:Nat}(h:FeeR W E N O X At ct):ByR W W.heap.size At O.length ct (lst O):=by
 obtain⟨base,o⟩:=h.own
 exact ByR.of_own o (lst_lt h.bin)
theorem own_box{w:World}{base sz n ad:Nat}{e t:TypeId}{v:Value}{xs:List Value}{cs:Array Value}(h:w.ownsRow base e sz v n xs)(bx:BoxC w ad cs t)(hne:(e==t)=false)(Y:Array Value):(w.setRow ad Y).ownsRow base e sz v n xs:=
 own_blk h fun j hj=>setRow_other w ad j Y fun he=>own_typeG h bx hne (by rw[hj,he])
theorem SwO.box{w:World}{base ad:Nat}{u:UnV}{s:Swm}{cs:Array Value}(h:SwO w base u s)(bx:BoxC w ad cs 32)(Y:Array Value):SwO (w.setRow ad Y) base u s:=by
 obtain⟨A,c,e1,e2⟩:=h.I
 obtain⟨A',c',e3,e4,e5⟩:=h.W
 have hne:∀g,(∃cur,w.heap[g]?=some (.cells cur 5 (0,0)))→g≠ad:=fun g hg he=>by
  obtain⟨cur,hg⟩:=hg
  rw[he]at hg
  have hbx:w.heap[ad]?=some (.cells cs 32 (0,0)):=bx
  rw[hbx]at hg
  injection hg with hg
  injection hg with _ h2 _
  exact absurd h2 (by decide)
 have hB:BlkT (w.setRow ad Y) base u s.st:=by
  have hb:=h.blk
  cases hst:s.st with
  |none=>rw[hst]at hb;obtain⟨h1,h2,h3,h4,h5,h6,h7,h8⟩:=hb;exact⟨h1,h2,h3,h4,h5,h6,own_box h7 bx (by decide) Y,own_box h8 bx (by decide) Y⟩
  |some k=>rw[hst]at hb;obtain⟨h1,h2,s1,s2,h3,h4,h5,h6,h7⟩:=hb;exact⟨h1,h2,s1,s2,h3,h4,own_box h5 bx (by decide) Y,own_box h6 bx (by decide) Y,h7⟩
 refine⟨h.M,h.D,h.a,h.S,h.ov,⟨A,c,e1,own_box e2 bx (by decide) Y⟩,⟨A',c',e3,?_,fun h9=>?_⟩,hB⟩
 ·rw[size_setRow]
  refine⟨e4.1.setRow Y fun g o h0 e=>hne g ?_,e4.2⟩
  obtain⟨g',o',cur,y1,y2,y3⟩:=e5 h0
  rw[e]at y1;injection y1 with y1;injection y1 with y1
  exact⟨cur,y1▸y3⟩
 ·obtain⟨g',o',cur,y1,y2,y3⟩:=e5 h9
  exact⟨g',o',cur,y1,y2,(setRow_other w ad g' Y (hne g' ⟨cur,y3⟩)).trans y3⟩
theorem FeeR.box{W:World}{E:Int}{N:Swm}{O:List Nat}{X:Array Value}{At:Option Addr}{ct ad:Nat}{cs:Array Value}(h:FeeR W E N O X At ct)(bx:BoxC W ad cs 32)(Y:Array Value):FeeR (W.setRow ad Y) E N O X At ct:=by
 obtain⟨base,o⟩:=h.own
 exact⟨h.bad,fun h0=>(by obtain⟨u,b,e,s⟩:=h.ok h0;exact⟨u,b,e,s.box bx Y⟩),⟨base,own_box o bx (by decide) Y⟩,h.bin⟩
end Go.Proofs.Ytcmpmighjglnpaa
namespace Go.Proofs.Ytcmpmighjglnpaa
open Go.RowKit
def strE14(a b:List Nat):Bool:=(strB a.length (lst a)).toList==(strB b.length (lst b)).toList
theorem usameW_any(w:World)(S S':Int)(A A':Option Addr)(c c':Nat)(wa wb:List Nat)(h1:ByR w w.heap.size A wa.length c (lst wa))(h2:ByR w w.heap.size A' wb.length c' (lst wb)):
  Calls Try.prog 23 #[.agg #[.int .i64 S,.slice A wa.length c],.agg #[.int .i64 S',.slice A' wb.length c']] w fun e w'=>e=.returned (.bool ((S==S')&&strE14 wa wb))∧Below w.heap.size w w':=by
 obtain⟨W1,hW1⟩:∃W,W=(w.alloc (.cells #[.int .i64 S,.slice A wa.length c] 30)).alloc (.cells #[.int .i64 S',.slice A' wb.length c'] 30):=⟨_,rfl⟩
 have hb1:Below w.heap.size w W1:=by rw[hW1];exact((Below.refl _ _).alloc (Nat.le_refl _) _).alloc (by simp) _
 have x1:BoxC W1 w.heap.size #[.int .i64 S,.slice A wa.length c] 30:=by rw[hW1];exact(BoxC.new w _ _).old _
 have y1:BoxC W1 (w.heap.size+1) #[.int .i64 S',.slice A' wb.length c'] 30:=by rw[hW1];have:=BoxC.new (w.alloc (.cells #[.int .i64 S,.slice A wa.length c] 30)) #[.int .i64 S',.slice A' wb.length c'] 30;rwa[World.size_alloc]at this
 have a0:W1.cell? ⟨w.heap.size,0,none⟩=some (.int .i64 S):=x1.cell.trans rfl
 have a1:W1.cell? ⟨w.heap.size,1,none⟩=some (.slice A wa.length c):=x1.cell.trans rfl
 have b0:W1.cell? ⟨w.heap.size+1,0,none⟩=some (.int .i64 S'):=y1.cell.trans rfl
 have b1:W1.cell? ⟨w.heap.size+1,1,none⟩=some (.slice A' wb.length c'):=y1.cell.trans rfl
 have HE:=Lib.hid (equalb_any W1 W1.heap.size A A' wa.length c wb.length c' (lst wa) (lst wb) ((h1.1.below hb1 (Nat.le_refl _)).more hb1.size) ((h2.1.below hb1 (Nat.le_refl _)).more hb1.size))
 obtain⟨q,hq⟩:∃q,q=strE14 wa wb:=⟨_,rfl⟩
 have HQ:=Lib.hid hq
 obtain⟨p0,hp0⟩:∃p,p=(S==S'):=⟨_,rfl⟩
 rw[←hq,←hp0]
 have e0:=hp0.symm
 have HW1:=Lib.hid hW1;have HB1:=Lib.hid hb1
 clear hW1 hb1 x1 y1 h1 h2 hq hp0
 cases p0
 ·go_enter Try.func23,Try.ntmps23
  go_wp2_with (first|(rw[←HW1.out])|fail)
  go_ret
  exact⟨rfl,HB1.out⟩
 ·go_enter Try.func23,Try.ntmps23
  go_wp2_with (first|(rw[←HW1.out])|fail)
  refine HE.out.mono ?_
  rintro e w2 ⟨rfl,rfl⟩
  rw[show((strB wa.length (lst wa)).toList==(strB wb.length (lst wb)).toList)=q from HQ.out.symm]
  go_wp2
  go_ret
  exact⟨rfl,HB1.out⟩
def sameSw(u v:UnV)(ia ib wa wb:List Nat)(s1 s2 t1 t2:List Int):Bool:=(u.M==v.M)&&(u.D==v.D)&&(u.a==v.a)&&(u.op==v.op)&&(u.ov==v.ov)&&strE14 ia ib&&sameK u.kd v.kd u.last v.last u.left v.left u.c1 v.c1 s1 t1 u.c2 v.c2 s2 t2&&((u.S==v.S)&&strE14 wa wb)
theorem usame14_any(w:World)(u v:UnV)(ia ib wa wb:List Nat)(s1 s2 t1 t2:List Int)(h:SwI w u ia wa s1 s2)(h':SwI w v ib wb t1 t2):
  Calls Try.prog 11 #[.agg (swA u.sw),.agg (swA v.sw)] w fun e w'=>e=.returned (.bool (sameSw u v ia ib wa wb s1 s2 t1 t2))∧Below w.heap.size w w':=by
 obtain⟨sb,hsb⟩:∃b,b=w.heap.size:=⟨_,rfl⟩
 obtain⟨X,hX⟩:∃X,X=swA u.sw:=⟨_,rfl⟩
 obtain⟨Y,hY⟩:∃X,X=swA v.sw:=⟨_,rfl⟩
 obtain⟨W1,hW1⟩:∃W,W=(w.alloc (.cells X 32)).alloc (.cells Y 32):=⟨_,rfl⟩
 have hb1:Below w.heap.size w W1:=by rw[hW1];exact((Below.refl _ _).alloc (Nat.le_refl _) _).alloc (by simp) _
 have x1:BoxC W1 sb X 32:=by rw[hW1,hsb];exact(BoxC.new w _ _).old _
 have y1:BoxC W1 (sb+1) Y 32:=by rw[hW1,hsb];have:=BoxC.new (w.alloc (.cells X 32)) Y 32;rwa[World.size_alloc]at this
 obtain⟨A1,c1,e1,r1⟩:=h.I
 obtain⟨A2,c2,e2,r2⟩:=h.W
 obtain⟨B1,d1,e3,r3⟩:=h'.I
 obtain⟨B2,d2,e4,r4⟩:=h'.W
 obtain⟨a0,a1,a2,a3,a41,a42,a43,a44⟩:=sw_x hX x1
 obtain⟨b0,b1,b2,b3,b41,b42,b43,b44⟩:=sw_x hY y1
 rw[e1]at a2
 rw[e3]at b2
 obtain⟨p0,hp0⟩:∃p,p=(u.M==v.M):=⟨_,rfl⟩
 obtain⟨p1,hp1⟩:∃p,p=(u.D==v.D):=⟨_,rfl⟩
 obtain⟨p2,hp2⟩:∃p,p=(u.a==v.a):=⟨_,rfl⟩
 obtain⟨p3,hp3⟩:∃p,p=(u.op==v.op):=⟨_,rfl⟩
 obtain⟨p4,hp4⟩:∃p,p=(u.ov==v.ov):=⟨_,rfl⟩
 obtain⟨p5,hp5⟩:∃p,p=strE14 ia ib:=⟨_,rfl⟩
 obtain⟨p6,hp6⟩:∃p,p=sameK u.kd v.kd u.last v.last u.left v.left u.c1 v.c1 s1 t1 u.c2 v.c2 s2 t2:=⟨_,rfl⟩
 obtain⟨p7,hp7⟩:∃p,p=((u.S==v.S)&&strE14 wa wb):=⟨_,rfl⟩
 have hres:sameSw u v ia ib wa wb s1 s2 t1 t2=(p0&&p1&&p2&&p3&&p4&&p5&&p6&&p7):=by unfold sameSw;rw[←hp0,←hp1,←hp2,←hp3,←hp4,←hp5,←hp6,←hp7]
 rw[hres,←hX,←hY]
 have up:∀V,Below W1.heap.size W1 V→Below w.heap.size w V:=fun V hV=>hb1.trans (hV.mono hb1.size)
 have HEQ:Hid (Calls Try.prog 21 #[.slice A1 ia.length c1,.slice B1 ib.length d1] W1 fun e w'=>e=.returned (.bool p5)∧w'=W1):=Lib.hid (by
  have:=equalb_any W1 W1.heap.size A1 B1 ia.length c1 ib.length d1 (lst ia) (lst ib) ((r1.1.below hb1 (Nat.le_refl _)).more hb1.size) ((r3.1.below hb1 (Nat.le_refl _)).more hb1.size)
  rw[show((strB ia.length (lst ia)).toList==(strB ib.length (lst ib)).toList)=p5 from hp5.symm]at this
  exact this)
 have HBK:Hid (Calls Try.prog 22 #[.agg u.blk.toArray,.agg v.blk.toArray] W1 fun e w'=>e=.returned (.bool p6)∧Below W1.heap.size W1 w'):=Lib.hid (by
  have q:=h.on hb1;have q':=h'.on hb1
  have:=usameK_any W1 u.kd v.kd u.last v.last u.left v.left u.c1 v.c1 u.c2 v.c2 u.v1 u.v2 v.v1 v.v2 s1 s2 t1 t2 q.r1 q.r2 q'.r1 q'.r2 q.n1 q.n2 q'.n1 q'.n2
  rw[←hp6]at this;exact this)
 have HWN:Hid (∀V,Below W1.heap.size W1 V→Calls Try.prog 23 #[.agg #[.int .i64 u.S,.slice A2 wa.length c2],.agg #[.int .i64 v.S,.slice B2 wb.length d2]] V fun e w'=>e=.returned (.bool p7)∧Below V.heap.size V w'):=Lib.hid fun V hV=>by
  have bv:=up V hV
  have:=usameW_any V u.S v.S A2 B2 c2 d2 wa wb ((r2.below bv (Nat.le_refl _)).more bv.size) ((r4.below bv (Nat.le_refl _)).more bv.size)
  rw[←hp7]at this;exact this
 have RA:=Lib.hid (show W1.rangeAt sb 4 u.blk from sw_blk (x:=u.sw) (by rw[←hX];exact x1))
 have RB:=Lib.hid (show W1.rangeAt (sb+1) 4 v.blk from sw_blk (x:=v.sw) (by rw[←hY];exact y1))
 have KW:Hid (∀V,Below W1.heap.size W1 V→V.cell? ⟨sb,42,none⟩=some (.int .i64 u.S)∧V.cell? ⟨sb,43,none⟩=some (.slice A2 wa.length c2)∧V.cell? ⟨sb+1,42,none⟩=some (.int .i64 v.S)∧V.cell? ⟨sb+1,43,none⟩=some (.slice B2 wb.length d2)):=Lib.hid fun V hV=>by
  obtain⟨_,_,_,_,_,q42,q43,_⟩:=sw_x hX (x1.below hV x1.lt)
  obtain⟨_,_,_,_,_,z42,z43,_⟩:=sw_x hY (y1.below hV y1.lt)
  rw[e2]at q43
  rw[e4]at z43
  exact⟨q42,q43,z42,z43⟩
 have g0:=hp0.symm;have g1:=hp1.symm;have g2:=hp2.symm;have g3:=hp3.symm;have g4:=hp4.symm
 have HB1:=Lib.hid hb1;have HW1:=Lib.hid hW1;have HSB:=Lib.hid hsb
 clear h h' hX hY hW1 hsb hb1 x1 y1 e1 e2 e3 e4 r1 r2 r3 r4 hp0 hp1 hp2 hp3 hp4 hp5 hp6 hp7 hres up a42 a43 b42 b43
 cases p0
 ·clear HEQ HBK HWN RA RB KW
  go_enter Try.func11,Try.ntmps11
  go_wp2_with (first|(rw[←HW1.out,←HSB.out])|fail)
  go_ret
  exact⟨rfl,HB1.out⟩
 cases p1
 ·clear HEQ HBK HWN RA RB KW
  go_enter Try.func11,Try.ntmps11
  go_wp2_with (first|(rw[←HW1.out,←HSB.out])|fail)
  go_ret
  exact⟨rfl,HB1.out⟩
 cases p2
 ·clear HEQ HBK HWN RA RB KW
  go_enter Try.func11,Try.ntmps11
  go_wp2_with (first|(rw[←HW1.out,←HSB.out])|fail)
  go_ret
  exact⟨rfl,HB1.out⟩
 cases p3
 ·clear HEQ HBK HWN RA RB KW
  go_enter Try.func11,Try.ntmps11
  go_wp2_with (first|(rw[←HW1.out,←HSB.out])|fail)
  go_ret
  exact⟨rfl,HB1.out⟩
 cases p4
 ·clear HEQ HBK HWN RA RB KW
  go_enter Try.func11,Try.ntmps11
  go_wp2_with (first|(rw[←HW1.out,←HSB.out])|fail)
  go_ret
  exact⟨rfl,HB1.out⟩
 go_enter Try.func11,Try.ntmps11
 go_wp2_with (first|(rw[←HW1.out,←HSB.out])|fail)
 refine HEQ.out.mono ?_
 rintro e w2 ⟨rfl,rfl⟩
 cases p5
 ·go_wp2
  go_ret
  exact⟨rfl,HB1.out⟩
 go_wp2_with (first
  |(refine wpList_load_mid_on (by rfl) _ _ rfl sb 4 rfl u.blk _ RA.out Try.underlying28 rfl (szBlkL _ _ _ _ _ _ _) ?_)
  |(refine wpList_load_mid_on (by rfl) _ _ rfl (sb+1) 4 rfl v.blk _ RB.out Try.underlying28 rfl (szBlkL _ _ _ _ _ _ _) ?_)
  |fail)
 refine HBK.out.mono ?_
 rintro e w3 ⟨rfl,hb3⟩
 have HB3:=Lib.hid (HB1.out.trans (hb3.mono HB1.out.size))
 have HC:=Lib.hid (HWN.out w3 hb3)
 obtain⟨k1,k2,k3,k4⟩:=KW.out w3 hb3
 clear hb3
 cases p6
 ·go_wp2
  go_ret
  exact⟨rfl,HB3.out⟩
 go_wp2_with fail
 refine HC.out.mono ?_
 rintro e w4 ⟨rfl,hb4⟩
 have HB4:=Lib.hid (HB3.out.trans (hb4.mono HB3.out.size))
 clear hb4
 go_wp2
 go_ret
 exact⟨rfl,HB4.out⟩
end Go.Proofs.Ytcmpmighjglnpaa
namespace Go.Proofs.Ytcmpmighjglnpaa
open Go.RowKit
theorem strE14_self(a:List Nat):strE14 a a=true:=by unfold strE14;simp
theorem sameT_tree{c d:Nat→Int}{s t:List Int}{f:Nat→Nat}(h:IsTree c s f)(h':IsTree d t f):sameT c d s t=true:=by
 unfold sameT
 rw[Bool.and_eq_true,sameC_iff]
 exact⟨fun m hm=>by rw[h.2.2.1 m hm,h'.2.2.1 m hm],by rw[h.2.2.2,h'.2.2.2];simp⟩
theorem sameT_empty{c d:Nat→Int}{s t:List Int}(h:emptyT c s=true)(h':emptyT d t=true):sameT c d s t=true:=by
 unfold emptyT sameT at h h'
 unfold sameT
 rw[Bool.and_eq_true,sameC_iff,decide_eq_true_eq]at h h'⊢
 exact⟨fun m hm=>(h.1 m hm).trans (h'.1 m hm).symm,h.2.trans h'.2.symm⟩
theorem sameK_C{u v:UnV}{st:Option Blk13}{s1 s2 t1 t2:List Int}(hb:BlkC u s1 s2 st)(hb':BlkC v t1 t2 st):u.op=v.op∧sameK u.kd v.kd u.last v.last u.left v.left u.c1 v.c1 s1 t1 u.c2 v.c2 s2 t2=true:=by
 cases st with
 |none=>
  obtain⟨a1,a2,a3,a4,a5,a6,a7,a8⟩:=hb
  obtain⟨b1,b2,b3,b4,b5,b6,b7,b8⟩:=hb'
  refine⟨a1.trans b1.symm,?_⟩
  rw[a2,a3,a4,a5,a6,a7,a8,b2,b3,b4,b5,b6,b7,b8]
  exact sameK_zero
 |some k=>
  obtain⟨a1,_,a3,a4⟩:=hb
  obtain⟨b1,_,b3,b4⟩:=hb'
  refine⟨a1.trans b1.symm,?_⟩
  obtain⟨x1,x2,x3,_,_,_,x7⟩:=a4
  obtain⟨y1,y2,y3,_,_,_,y7⟩:=b4
  have key:sameT u.c1 v.c1 s1 t1=true∧sameT u.c2 v.c2 s2 t2=true:=by
   by_cases h0:u.kd=0
   ·have h0':v.kd=0:=by rw[←y1,x1,h0]
    rcases a3 with⟨_,_,_,p1,p2⟩|⟨h,_⟩
    ·rcases b3 with⟨_,_,_,q1,q2⟩|⟨h,_⟩
     ·exact⟨sameT_empty p1 q1,sameT_empty p2 q2⟩
     ·omega
    ·omega
   ·have h0':v.kd≠0:=by rw[←y1,x1];exact h0
    obtain⟨p1,p2⟩:=x7 h0
    obtain⟨q1,q2⟩:=y7 h0'
    exact⟨sameT_tree p1 q1,sameT_tree p2 q2⟩
  unfold sameK
  rw[key.1,key.2,←x1,←y1,←x2,←y2,←x3,←y3]
  simp
theorem sameO_any{w:World}{base base':Nat}{u v:UnV}{s:Swm}(h:SwO w base u s)(h':SwO w base' v s)(g:GoodSw s):Calls Try.prog 11 #[.agg (swA u.sw),.agg (swA v.sw)] w fun e w'=>e=.returned (.bool true)∧Below w.heap.size w w':=by
 obtain⟨s1,s2,i,bc,_⟩:=h.into g
 obtain⟨t1,t2,i',bc',_⟩:=h'.into g
 have:=usame14_any w u v s.inn s.inn s.win s.win s1 s2 t1 t2 i i'
 obtain⟨ho,hk⟩:=sameK_C bc bc'
 have e:sameSw u v s.inn s.inn s.win s.win s1 s2 t1 t2=true:=by
  unfold sameSw
  rw[hk,ho,h.M,h'.M,h.D,h'.D,h.a,h'.a,h.ov,h'.ov,h.S,h'.S,strE14_self,strE14_self]
  simp
 rw[e]at this
 exact this
end Go.Proofs.Ytcmpmighjglnpaa
namespace Go.Proofs.Ytcmpmighjglnpaa
open Go.RowKit Go.ChangeShapes Go.WideShapes Go.ChangeAt Go.Joins
theorem weigh{H:Type}{P:Program}{ts:List TypeId}{ds:List (DataW H)}(h:(DataW.weightsEach P ts ds).all (·≤reachBytes)=true){j:Nat}{t:TypeId}{d:DataW H}(ht:ts[j]?=some t)(hd:ds[j]?=some d):∀n∈d.weights P t,n≤reachBytes:=fun n hn=>by
 simpa using List.all_eq_true.1 h n (DataW.weights_mem_each ht hd n hn)
theorem byl_weigh0{H:Type}{enc:TypeId×Value→H}{W:World}{base:Nat}{sp:Nat→Bool}{hd:Bool}{a:Option Addr}{len cap:Nat}{y:DataW H×List MemPlace}{fuel:Nat}
  (hf:DataW.trod enc Try.prog W base sp hd fuel 22 [Value.slice a len cap]=some y) (hw:∀n∈y.1.weights Try.prog 22,n≤reachBytes):len≤140737488355328:=by
 rcases open_ints Try.underlying22 Try.underlying5 (by kernel_rfl) hf with⟨hcs,_⟩|⟨x,l,c,zs,hcs,_,hl,_,hz,hy,_,_⟩
 ·simp at hcs
  omega
 ·simp at hcs
  obtain⟨rfl,rfl,rfl⟩:=hcs
  subst hy
  have hb:Try.prog.bytesOf 5=1:=by kernel_rfl
  have h1:=hw ((zs.take len).length+(zs.drop len).length) (by
   simp only[DataW.weights,Try.underlying22,hb,lits,List.length_map,Nat.mul_one]
   exact List.mem_cons_self ..)
  have hzl:len≤zs.length:=by rw[hz];split<;>omega
  rw[List.length_take,List.length_drop]at h1
  unfold reachBytes at h1
  omega
theorem byl_weigh{H:Type}{enc:TypeId×Value→H}{W:World}{base:Nat}{sp:Nat→Bool}{hd:Bool}{a:Option Addr}{len cap:Nat}{d:DataW H}{p:List MemPlace}
  (h:DataW.Trod enc Try.prog W base sp hd 22 (Value.slice a len cap) d p) (hw:∀n∈d.weights Try.prog 22,n≤reachBytes):len≤140737488355328:=by
 obtain⟨fuel,hf⟩:=h
 exact byl_weigh0 (y:=(d,p)) hf hw
end Go.Proofs.Ytcmpmighjglnpaa
namespace Go.Proofs.Ytcmpmighjglnpaa
open Go.RowKit
structure TabInvK (l:List Oper) (T:Nat→Value→World→Prop) (a0:Act) (U:World) (D:List Nat) (k0:Nat) (listed:Array Bool) (a:Act) (w:World):Prop where
 size:listed.size=l.length
 tmps:a.tmps.size=a0.tmps.size
 defers:a.defers=a0.defers
 below:Below U.heap.size U w
 off:∀s,(∀j d,listed.getD j false=true→(l[j]?).bind (·.dst)=some d→d≠s)→a.tmps[s]?=a0.tmps[s]?
 told:∀j d,listed.getD j false=true→(j∈D→listed.getD k0 false=false)→(l[j]?).bind (·.dst)=some d→Up (T j) (a.eval (.tmp d)) w
 closed:∀j oj,l[j]?=some oj→listed.getD j false=true→∀e∈oj.after,Region.binds .any e=true→listed.getD e.on false=true
def TabStepK(P:Program)(l:List Oper)(T:Nat→Value→World→Prop)(a0:Act)(U:World)(D L:List Nat)(k0 k:Nat)(o:Oper):Prop:=
 ∀(a:Act) (w:World),Below U.heap.size U w→(∀s,offB l s=true→a.eval (.tmp s)=a0.eval (.tmp s))→(∀j d,Region.waitsFor .any l.toArray k j=true→(j∈D→k=k0)→(l[j]?).bind (·.dst)=some d→Up (T j) (a.eval (.tmp d)) w)→
  ∀(K:Act→World→Prop) (Q:Exit→Act→World→Prop),(∀v w',(if k=k0 then Below U.heap.size U w'∧∀j u,j≠k0→j∉D→j∉L→Up (T j) u w→Up (T j) u w' else Below w.heap.size w w')→Up (T k) v w'→K (a.put o.dst v) w')→if Region.wanted o (yielded l.toArray a.tmps)=true then Oper.wp P o a w K Q else K (a.put o.dst undef) w
def TabAllK(P:Program)(l:List Oper)(T:Nat→Value→World→Prop)(a0:Act)(U:World)(D L:List Nat)(k0:Nat):Nat→List Oper→Prop
 |_,[]=>True
 |k,o::r=>TabStepK P l T a0 U D L k0 k o∧TabAllK P l T a0 U D L k0 (k+1) r
theorem TabAllK.get{P:Program}{l:List Oper}{T:Nat→Value→World→Prop}{a0:Act}{U:World}{D L:List Nat}{k0:Nat}:∀{r:List Oper} {k:Nat},TabAllK P l T a0 U D L k0 k r→∀{j:Nat} {o:Oper},r[j]?=some o→TabStepK P l T a0 U D L k0 (k+j) o
 |[],_,_,_,_,h=>by cases h
 |_::_,k,hA,0,_,h=>by cases h;exact hA.1
 |_::r,k,hA,j+1,o,h=>by
  have:=TabAllK.get (r:=r) hA.2 (j:=j) (by simpa using h)
  rw[show k+1+j=k+(j+1) by omega]at this
  exact this
theorem TabAllK.nil{P:Program}{l:List Oper}{T:Nat→Value→World→Prop}{a0:Act}{U:World}{D L:List Nat}{k0 k:Nat}:TabAllK P l T a0 U D L k0 k []:=trivial
theorem TabAllK.cons {P:Program} {l:List Oper} {T:Nat→Value→World→Prop} {a0:Act} {U:World} {D L:List Nat} {k0 k:Nat} {o:Oper} {r:List Oper} (hne:decide (k=k0)=false) (h:∀(a:Act) (w:World),Below U.heap.size U w→(∀s,offB l s=true→a.eval (.tmp s)=a0.eval (.tmp s))→(∀j d,(Region.waitsFor .any l.toArray k j&& !D.contains j)=true→(l[j]?).bind (·.dst)=some d→Up (T j) (a.eval (.tmp d)) w)→
  ∀(K:Act→World→Prop) (Q:Exit→Act→World→Prop),(∀v w',Below w.heap.size w w'→Up (T k) v w'→K (a.put o.dst v) w')→if Region.wanted o (yielded l.toArray a.tmps)=true then Oper.wp P o a w K Q else K (a.put o.dst undef) w) (hr:TabAllK P l T a0 U D L k0 (k+1) r):TabAllK P l T a0 U D L k0 k (o::r):=
 ⟨fun a w hb ho hS K Q hK=>h a w hb ho (fun j d hw hd=>by
  simp only[Bool.and_eq_true,Bool.not_eq_true',List.contains_eq_mem,decide_eq_false_iff_not]at hw
  exact hS j d hw.1 (fun hj=>absurd hj hw.2) hd) K Q (fun v w' hb' hv=>hK v w' (by rw[if_neg (of_decide_eq_false hne)];exact hb') hv),hr⟩
theorem TabAllK.consK {P:Program} {l:List Oper} {T:Nat→Value→World→Prop} {a0:Act} {U:World} {D L:List Nat} {k0 k:Nat} {o:Oper} {r:List Oper} (he:k=k0) (h:∀(a:Act) (w:World),Below U.heap.size U w→(∀s,offB l s=true→a.eval (.tmp s)=a0.eval (.tmp s))→(∀j d,Region.waitsFor .any l.toArray k j=true→(l[j]?).bind (·.dst)=some d→Up (T j) (a.eval (.tmp d)) w)→
  ∀(K:Act→World→Prop) (Q:Exit→Act→World→Prop),(∀v w',Below U.heap.size U w'→(∀j u,j≠k0→j∉D→j∉L→Up (T j) u w→Up (T j) u w')→Up (T k) v w'→K (a.put o.dst v) w')→if Region.wanted o (yielded l.toArray a.tmps)=true then Oper.wp P o a w K Q else K (a.put o.dst undef) w) (hr:TabAllK P l T a0 U D L k0 (k+1) r):TabAllK P l T a0 U D L k0 k (o::r):=
 ⟨fun a w hb ho hS K Q hK=>h a w hb ho (fun j d hw hd=>hS j d hw (fun _=>he) hd) K Q (fun v w' h1 h2 hv=>hK v w' (by rw[if_pos he];exact⟨h1,h2⟩) hv),hr⟩
def lateB(l:List Oper)(L:List Nat)(k0:Nat):Bool:=L.all fun j=>Region.waitsFor .any l.toArray j k0||L.any fun i=>decide (i<j)&&Region.waitsFor .any l.toArray j i
theorem late_un{l:List Oper}{L:List Nat}{k0:Nat}(hL:lateB l L k0=true){listed:Array Bool}(hcl:∀j oj,l[j]?=some oj→listed.getD j false=true→∀e∈oj.after,Region.binds .any e=true→listed.getD e.on false=true)(hk:listed.getD k0 false=false):∀j,j∈L→listed.getD j false=false:=by
 intro j
 induction j using Nat.strongRecOn with
 |_ j ih=>
  intro hj
  cases hl:listed.getD j false with
  |false=>rfl
  |true=>
   exfalso
   have h1:=List.all_eq_true.1 hL j hj
   simp only[Bool.or_eq_true]at h1
   rcases h1 with h1|h1
   ·obtain⟨ok,hok,e,he,hb,hon⟩:=Region.waitsFor_spec h1
    have:=hcl j ok (by simpa using hok) hl e he hb
    rw[hon,hk]at this;cases this
   ·obtain⟨i,hi,h2⟩:=List.any_eq_true.1 h1
    simp only[Bool.and_eq_true,decide_eq_true_eq]at h2
    obtain⟨ok,hok,e,he,hb,hon⟩:=Region.waitsFor_spec h2.2
    have h3:=hcl j ok (by simpa using hok) hl e he hb
    rw[hon,ih i h2.1 hi]at h3;cases h3
def FloatAtK(P:Program)(l:List Oper)(T:Nat→Value→World→Prop)(a0:Act)(U:World)(Q:Exit→Act→World→Prop)(D:List Nat)(i0:Nat):Prop:=
 ∃o0 d0,l[i0]?=some o0∧o0.guard=none∧o0.dst=some d0∧(∀v c a w,Q (.panic c) (a.put o0.dst v) w→Q (.panic c) a w)∧
  ∀(a:Act) (w:World),Below U.heap.size U w→(∀s,offB l s=true→a.eval (.tmp s)=a0.eval (.tmp s))→(∀j d,(Region.waitsFor .any l.toArray i0 j&& !D.contains j)=true→(l[j]?).bind (·.dst)=some d→Up (T j) (a.eval (.tmp d)) w)→∃v,(∀w',(execOp a.eval o0).run P w'=.ok (.value v) w')∧Up (T i0) v w
theorem tabk_any{P:Program}{Q:Exit→Act→World→Prop}{a0:Act}{U:World}{l:List Oper}{T:Nat→Value→World→Prop}{n:Nat}{F D L:List Nat}{k0:Nat}(hk0F:k0∉F)(hL:lateB l L k0=true)(hFn:∀i∈F,i<n)(hn:n<l.length)(hs:sinkG l F n=true)(hfl:∀i∈F,floatB l i=true)(hsel:Region.noSelect l.toArray=true)(hF:∀i∈F,FloatAtK P l T a0 U Q D i)
   (hc:Region.chainB .any l.toArray n=true)
  (hseq:Region.seqB .any l.toArray (l.length-n) n (doneA n (l.length-n))=true) (hB:tabB l a0.tmps.size=true) (hstep:TabAllK P l T a0 U D L k0 0 (l.take n))
  (hend:∀listed a w,TabInvK l T a0 U D k0 listed a w→(∀i,i<n→listed.getD i false=true)→(∀i,n≤i→i<l.length→listed.getD i true=false)→wpList P l.toArray Q (l.drop n) a w):
  ∀(f:Nat) (listed:Array Bool) (a:Act) (w:World),((List.range n).filter fun i=> !listed.getD i false).length=f→TabInvK l T a0 U D k0 listed a w→HeadInv .any l.toArray n listed→wpAny P .any l.toArray Q (f+(l.length-n)) listed a w:=by
 have hB':=hB
 simp only[tabB,Bool.and_eq_true,decide_eq_true_eq]at hB'
 obtain⟨⟨hnd,hin⟩,hlow⟩:=hB'
 intro f
 induction f with
 |zero=>
  intro listed a w hf inv hi
  have hup:∀i,i<n→listed.getD i false=true:=fun i hi=>by
   have h0:=List.length_eq_zero_iff.1 hf
   have h1:=List.filter_eq_nil_iff.1 h0 i (List.mem_range.2 hi)
   simpa using h1
  have hk:=hend listed a w inv hup (fun i h1 h2=>hi.tail i h1 (by simpa using h2))
  have he:=split_done (n:=n) (g:=l.length-n) (listed:=listed) (by rw[inv.size];omega) (fun i h=>by
   have h1:=hup i h
   cases h2:listed.getD i true with
   |true=>rfl
   |false=>rw[getD_both h2]at h1;cases h1) (fun t ht ht2=>hi.tail t ht (by simp;omega))
  subst he
  have h3:=wpAny_of_seq (P:=P) (md:=.any) (Q':=Q) (l.drop n) n (doneA n (l.length-n)) a w (fun j=>by simp[List.getElem?_drop]) (by rw[List.length_drop];exact hseq) hk
  rw[List.length_drop]at h3
  rw[Nat.zero_add];exact h3
 |succ f ih=>
  intro listed a w hf inv hi
  rw[show f+1+(l.length-n)=(f+(l.length-n))+1 by omega]
  obtain⟨x,hxn,hxu⟩:∃x,x<n∧listed.getD x false=false:=by
   have:0<((List.range n).filter fun i=> !listed.getD i false).length:=by omega
   obtain⟨x,hx⟩:=List.exists_mem_of_length_pos this
   obtain⟨h1,h2⟩:=List.mem_filter.1 hx
   exact⟨x,List.mem_range.1 h1,by simpa using h2⟩
  by_cases hrF:∃i0,i0∈F∧i0∈Region.ready .any l.toArray listed
  ·
   obtain⟨i0,hi0F,hr0⟩:=hrF
   have hi0n:=hFn i0 hi0F
   have hfl:=hfl i0 hi0F
   obtain⟨o0,d0,hi0,hg0,hd0,hQ0,hy0⟩:=hF i0 hi0F
   obtain⟨h0,o,ho,hafter⟩:=mem_ready.1 hr0
   have hol:l[i0]?=some o:=by simpa using ho
   have hoo:o=o0:=by rw[hi0]at hol;exact(Option.some.inj hol).symm
   subst hoo
   have hlt:i0<l.length:=(List.getElem?_eq_some_iff.1 hol).1
   have heval:∀s,offB l s=true→a.eval (.tmp s)=a0.eval (.tmp s):=fun s hs=>by
    show a.tmps.getD s undef=a0.tmps.getD s undef
    rw[Array.getD_eq_getD_getElem?,Array.getD_eq_getD_getElem?,inv.off s (fun _ _ _ hd=>offB_is hs hd)]
   have hfacts:∀j d,(Region.waitsFor .any l.toArray i0 j&& !D.contains j)=true→(l[j]?).bind (·.dst)=some d→Up (T j) (a.eval (.tmp d)) w:=fun j d hw hd=>by
    simp only[Bool.and_eq_true,Bool.not_eq_true',List.contains_eq_mem,decide_eq_false_iff_not]at hw
    obtain⟨hw,hjD⟩:=hw
    obtain⟨ok,hok,e,he,hb,hon⟩:=Region.waitsFor_spec hw
    rw[ho]at hok;cases hok
    exact inv.told j d (by have:=hafter e he hb;rwa[hon]at this) (fun h=>absurd h hjD) hd
   obtain⟨v,hv1,hv2⟩:=hy0 a w inv.below heval hfacts
   have hdlt:d0<a.tmps.size:=by
    have h1:=List.all_eq_true.1 hin o (List.mem_of_getElem? hol)
    simp only[hd0,decide_eq_true_eq]at h1
    rw[inv.tmps];exact h1
   refine wpAny_first (oi:=o) (v:=v) ho (Region.noSelect_spec hsel) (hQ0 v) (f+(l.length-n)) listed a w (fun j oj hj hne hun hno=>?_) hr0 (.inl ⟨by simp[Region.wanted,hg0],hv1⟩) ?_
   ·have hjl:j<l.length:=by have:=(Array.getElem?_eq_some_iff.1 hj).1;simpa using this
    have h1:=List.all_eq_true.1 hfl j (List.mem_range.2 hjl)
    have hj2:l[j]?=some oj:=by simpa using hj
    simp only[hi0,hj2,Bool.or_eq_true,beq_iff_eq]at h1
    rcases h1 with((h1|h1)|h1)|h1
    ·exact absurd h1 hne
    ·obtain⟨ok,hok,e,he,hb,hon⟩:=Region.waitsFor_spec h1
     rw[ho]at hok;cases hok
     have h2:=hafter e he hb
     rw[hon,getD_both hun]at h2;cases h2
    ·obtain⟨ok,hok,e,he,hb,hon⟩:=Region.waitsFor_spec h1
     rw[hj]at hok;cases hok
     exact absurd hon (hno e he hb)
    ·exact h1
   ·refine ih _ _ _ ?_ ⟨by simp[inv.size],?_,?_,inv.below,fun s hs=>?_,fun j d hl hD hd=>?_,fun j oj hj hl e he hb=>?_⟩ (hi.set hr0 hi0n)
    ·have hfe:((List.range n).filter fun i=> !(listed.setIfInBounds i0 true).getD i false)=((List.range n).filter fun i=> !listed.getD i false).erase i0:=by
      rw[List.Nodup.erase_eq_filter (List.nodup_range.filter _),List.filter_filter]
      apply List.filter_congr
      intro x hx
      by_cases e:x=i0
      ·subst e
       have:x<listed.size:=by rw[inv.size];exact hlt
       simp[this]
      ·rw[getD_set_ne false (Ne.symm e)];simp[e]
     rw[hfe,List.length_erase_of_mem (List.mem_filter.2 ⟨List.mem_range.2 hi0n,by rw[getD_both h0];rfl⟩),hf];rfl
    ·unfold Act.put;cases o.dst<;>simp[inv.tmps]
    ·unfold Act.put;cases o.dst<;>exact inv.defers
    ·rw[←inv.off s (fun j d hl hd=>hs j d (getD_set_true hl) hd),hd0]
     have e:d0≠s:=hs i0 d0 (by have:i0<listed.size:=(by rw[inv.size];exact hlt);simp[this]) (by rw[hol];simpa using hd0)
     simp[Act.put,Array.getElem?_setIfInBounds_ne e]
    ·by_cases e:j=i0
     ·subst e
      rw[hol]at hd
      have hd':o.dst=some d:=by simpa using hd
      have hdd:d=d0:=by rw[hd0]at hd';exact(Option.some.inj hd').symm
      subst hdd
      have he:(a.put o.dst v).eval (.tmp d)=v:=by rw[hd'];simp[Act.put,Act.eval,hdlt]
      rw[he];exact hv2
     ·rw[getD_set_ne false (Ne.symm e)]at hl
      have h1:=inv.told j d hl (fun hj=>by have:=hD hj;rwa[getD_set_ne false (fun h=>hk0F (by rw[←h];exact hi0F))]at this) hd
      have he:(a.put o.dst v).eval (.tmp d)=a.eval (.tmp d):=Act.eval_put fun d' hd' hx=>by
       cases hx
       cases hj:l[j]? with
       |none=>rw[hj]at hd;cases hd
       |some y=>
        rw[hj]at hd
        exact e (tab_dst hnd hj hol (by simpa using hd) hd')
      rw[he];exact h1
    ·by_cases e':j=i0
     ·subst e'
      rw[hol]at hj;cases hj
      exact getD_set_true (hafter e he hb)
     ·rw[getD_set_ne false (Ne.symm e')]at hl
      exact getD_set_true (inv.closed j oj hj hl e he hb)
  obtain⟨y,hyn,hy0',hyu⟩:∃y,y<n∧y∉F∧listed.getD y false=false:=by
   have key:∀x,x<n→listed.getD x false=false→∃y,y<n∧y∉F∧listed.getD y false=false:=by
    intro x
    induction x using Nat.strongRecOn with
    |_ x ihx=>
     intro hxn hxu
     by_cases e:x∈F
     ·have hex:∃o0:Oper,l[x]?=some o0∧∃e,e∈o0.after∧Region.binds .any e=true∧listed.getD e.on false≠true:=by
       refine⟨l[x]'(by omega),List.getElem?_eq_getElem (by omega),?_⟩
       apply Classical.byContradiction
       intro hno
       exact hrF ⟨x,e,mem_ready.2 ⟨getD_in (by rw[inv.size];omega) hxu,l[x]'(by omega),by simp,fun e he hb=>Classical.byContradiction fun hne=>hno ⟨e,he,hb,hne⟩⟩⟩
      obtain⟨o0,ho0,e,he,hb,hne⟩:=hex
      have h1:=List.all_eq_true.1 hlow x (List.mem_range.2 (by omega))
      simp only[ho0]at h1
      have h2:=Array.all_eq_true_iff_forall_mem.1 h1 e he
      simp only[hb,Bool.not_true,Bool.false_or,decide_eq_true_eq]at h2
      exact ihx e.on h2 (by omega) (by simpa using hne)
     ·exact⟨x,hxn,e,hxu⟩
   exact key x hxn hxu
  have hxt:listed.getD y true=false:=getD_in (by rw[inv.size];omega) hyu
  have hready:∀i,i∈Region.ready .any l.toArray listed→i<n:=fun i hr=>by
   rcases Nat.lt_or_ge i n with g|g
   ·exact g
   ·exact absurd hr (tail_lateG hs hc hn hi hyn hy0' hxt i g)
  refine⟨fun h0=>?_,fun k hk=>?_⟩
  ·exfalso
   have hall:∀i,i<l.length→listed.getD i false=true:=fun i=>by
    induction i using Nat.strongRecOn with
    |_ i ih2=>
     intro hil
     cases hu:listed.getD i false with
     |true=>rfl
     |false=>
      exfalso
      have h1:=List.all_eq_true.1 hlow i (List.mem_range.2 hil)
      have hoi:l[i]?=some l[i]:=List.getElem?_eq_getElem hil
      simp only[hoi]at h1
      have:i∈Region.ready .any l.toArray listed:=mem_ready.2 ⟨getD_in (by rw[inv.size];exact hil) hu,l[i],by simp[hil],fun e he hb=>by
       have h2:=Array.all_eq_true_iff_forall_mem.1 h1 e he
       simp only[hb,Bool.not_true,Bool.false_or,decide_eq_true_eq]at h2
       exact ih2 e.on h2 (by omega)⟩
      rw[h0]at this;cases this
   have:=hall x (by omega)
   rw[hxu]at this;cases this
  ·have hkn:=hready k hk
   obtain⟨h0,o,ho,hafter⟩:=mem_ready.1 hk
   have hol:l[k]?=some o:=by simpa using ho
   have hlt:k<l.length:=(List.getElem?_eq_some_iff.1 hol).1
   have hst:TabStepK P l T a0 U D L k0 k o:=by
    have:=hstep.get (j:=k) (o:=o) (by rw[List.getElem?_take_of_lt hkn];exact hol)
    rwa[Nat.zero_add]at this
   have heval:∀s,offB l s=true→a.eval (.tmp s)=a0.eval (.tmp s):=fun s hs=>by
    show a.tmps.getD s undef=a0.tmps.getD s undef
    rw[Array.getD_eq_getD_getElem?,Array.getD_eq_getD_getElem?,inv.off s (fun _ _ _ hd=>offB_is hs hd)]
   have hfacts:∀j d,Region.waitsFor .any l.toArray k j=true→(j∈D→k=k0)→(l[j]?).bind (·.dst)=some d→Up (T j) (a.eval (.tmp d)) w:=fun j d hw hjD hd=>by
    obtain⟨ok,hok,e,he,hb,hon⟩:=Region.waitsFor_spec hw
    rw[ho]at hok;cases hok
    exact inv.told j d (by have:=hafter e he hb;rwa[hon]at this) (fun hj=>by rw[←hjD hj];cases hq:listed.getD k false with|false=>rfl|true=>rw[getD_both h0]at hq;cases hq) hd
   have hdlt:∀d,o.dst=some d→d<a.tmps.size:=fun d hd=>by
    have h1:=List.all_eq_true.1 hin o (List.mem_of_getElem? hol)
    simp only[hd,decide_eq_true_eq]at h1
    rw[inv.tmps];exact h1
   have hgo:=hst a w inv.below heval hfacts (wpAny P .any l.toArray Q (f+(l.length-n)) (listed.setIfInBounds k true)) Q (fun v w' hb hv=>by
    have hbel:Below U.heap.size U w':=by
     by_cases e:k=k0
     ·rw[if_pos e]at hb;exact hb.1
     ·rw[if_neg e]at hb;exact inv.below.trans (hb.mono inv.below.size)
    refine ih _ _ _ ?_ ⟨by simp[inv.size],?_,?_,hbel,fun s hs=>?_,fun j d hl hD hd=>?_,fun j oj hj hl e he hb'=>?_⟩ (hi.set hk hkn)
    ·have hfe:((List.range n).filter fun i=> !(listed.setIfInBounds k true).getD i false)=((List.range n).filter fun i=> !listed.getD i false).erase k:=by
      rw[List.Nodup.erase_eq_filter (List.nodup_range.filter _),List.filter_filter]
      apply List.filter_congr
      intro x hx
      by_cases e:x=k
      ·subst e
       have:x<listed.size:=by rw[inv.size];exact hlt
       simp[this]
      ·rw[getD_set_ne false (Ne.symm e)];simp[e]
     rw[hfe,List.length_erase_of_mem (List.mem_filter.2 ⟨List.mem_range.2 hkn,by rw[getD_both h0];rfl⟩),hf];rfl
    ·unfold Act.put;cases o.dst<;>simp[inv.tmps]
    ·unfold Act.put;cases o.dst<;>exact inv.defers
    ·rw[←inv.off s (fun j d hl hd=>hs j d (getD_set_true hl) hd)]
     unfold Act.put
     cases hd:o.dst with
     |none=>rfl
     |some d=>
      have e:d≠s:=hs k d (by have:k<listed.size:=(by rw[inv.size];exact hlt);simp[this]) (by rw[hol];simpa using hd)
      simp[Array.getElem?_setIfInBounds_ne e]
    ·by_cases e:j=k
     ·subst e
      rw[hol]at hd
      have hd':o.dst=some d:=by simpa using hd
      have hlt2:=hdlt d hd'
      have he:(a.put o.dst v).eval (.tmp d)=v:=by rw[hd'];simp[Act.put,Act.eval,hlt2]
      rw[he];exact hv
     ·rw[getD_set_ne false (Ne.symm e)]at hl
      have hk0l:k=k0→j∉D:=fun ek hj=>by
       have:=hD hj
       rw[←ek]at this
       have hks:k<listed.size:=by rw[inv.size];exact hlt
       simp[hks]at this
      have h1:=inv.told j d hl (fun hj=>by
       have:=hD hj
       by_cases ek:k=k0
       ·exact absurd hj (hk0l ek)
       ·rwa[getD_set_ne false ek]at this) hd
      have he:(a.put o.dst v).eval (.tmp d)=a.eval (.tmp d):=Act.eval_put fun d' hd' hx=>by
       cases hx
       cases hj:l[j]? with
       |none=>rw[hj]at hd;cases hd
       |some y=>
        rw[hj]at hd
        exact e (tab_dst hnd hj hol (by simpa using hd) hd')
      rw[he]
      by_cases ek:k=k0
      ·rw[if_pos ek]at hb
       have hun:=late_un hL inv.closed (by rw[←ek];cases hq:listed.getD k false with|false=>rfl|true=>rw[getD_both h0]at hq;cases hq)
       refine hb.2 j _ (fun h=>e (h.trans ek.symm)) (hk0l ek) (fun hjL=>?_) h1
       rw[hun j hjL]at hl;cases hl
      ·rw[if_neg ek]at hb;exact h1.on hb
    ·by_cases e':j=k
     ·subst e'
      rw[hol]at hj;cases hj
      exact getD_set_true (hafter e he hb')
     ·rw[getD_set_ne false (Ne.symm e')]at hl
      exact getD_set_true (inv.closed j oj hj hl e he hb'))
   unfold wpOp
   simp only[ho]
   split at hgo
   ·rename_i hw;rw[if_pos hw];exact .inl hgo
   ·rename_i hw;rw[if_neg hw];exact hgo
theorem tab_appK{l:List Oper}{o:Oper}{a:Act}{w w':World}{T:Value→World→Prop}{R:World→Prop}{K:Act→World→Prop}{Q:Exit→Act→World→Prop}{E:Prop}(hw:Region.wanted o (yielded l.toArray a.tmps)=true)(x y:Operand)(t:TypeId)(ho:o.op=.call {callee:=.builtin .append,args:=#[x,y],argTypes:=#[t,t]})(u z v:Value)(hx:a.eval x=u)(hy:a.eval y=z)
  (hr:(Builtin.append_ #[t,t] o.type #[u,z]).run Try.prog w=.ok v w') {P1:World→Prop} (h1:P1 w') (h2:R w') (hT:Up T v w') (hK:∀v w',P1 w'→R w'→Up T v w'→K (a.put o.dst v) w'):if Region.wanted o (yielded l.toArray a.tmps)=true then Oper.wp Try.prog o a w K Q else E:=by
 rw[if_pos hw]
 unfold Oper.wp
 rw[show(execOp a.eval o).run Try.prog w=.ok (.value v) w' by simp[execOp,ho,resolve,invoke,builtin,hx,hy,hr,Result.andThen]]
 exact hK v w' h1 h2 hT
def tabkB(l:List Oper)(F L:List Nat)(k0 n m:Nat):Bool:= !F.contains k0&&lateB l L k0&&(F.all fun i=>decide (i<n))&&(F.all fun i=>floatB l i)&&Region.noSelect l.toArray&&decide (n<l.length)&&sinkG l F n&&Region.chainB .any l.toArray n&&Region.seqB .any l.toArray (l.length-n) n (doneA n (l.length-n))&&tabB l m
theorem wp_region_tabk{P:Program}{id:Nat}{Q:Exit→Act→World→Prop}{a0:Act}{w0:World}{l:List Oper}(n:Nat)(F D L:List Nat)(k0:Nat)(T:Nat→Value→World→Prop)(U:World)(hU:Below U.heap.size U w0)(hm:P.follows .mixedOrders=true)(hB:tabkB l F L k0 n a0.tmps.size=true)(hF:∀i∈F,FloatAtK P l T a0 U Q D i)
  (hstep:TabAllK P l T a0 U D L k0 0 (l.take n))
  (hend:∀(vals:Tmp→Value) (w:World),Below U.heap.size U w→(∀j d,((l.take n)[j]?).bind (·.dst)=some d→j∉D→Up (T j) (vals d) w)→wpList P l.toArray Q (l.drop n) (putL ((l.take n).map (·.dst)) vals a0) w):(Code.region id l.toArray true).wp P Q a0 w0:=by
 simp only[tabkB,Bool.and_eq_true,decide_eq_true_eq,Bool.not_eq_true',List.contains_eq_mem,decide_eq_false_iff_not]at hB
 obtain⟨⟨⟨⟨⟨⟨⟨⟨⟨hk0F,hL⟩,hFn⟩,hfl⟩,hsel⟩,hn⟩,hs⟩,hc⟩,hseq⟩,hB⟩:=hB
 refine wp_region_any hm ?_
 have hl0:∀i,(Array.replicate l.toArray.size false).getD i false=false:=fun i=>getD_replicate_false _ _
 have hinv:HeadInv .any l.toArray n (Array.replicate l.toArray.size false):=⟨by simp,(fun j oj _ hl=>by rw[hl0]at hl;cases hl),(fun t _ ht=>by simp at ht;simp[ht])⟩
 have key:=tabk_any (P:=P) (Q:=Q) (T:=T) (U:=U) (F:=F) (D:=D) (L:=L) (k0:=k0) hk0F hL (fun i hi=>of_decide_eq_true (List.all_eq_true.1 hFn i hi)) hn hs (fun i hi=>List.all_eq_true.1 hfl i hi) hsel hF hc hseq hB hstep (fun listed a w inv hup htl=>by
  have ha:a=putL ((l.take n).map (·.dst)) (fun d=>a.eval (.tmp d)) a0:=by
   have hB2:=hB
   simp only[tabB,Bool.and_eq_true,decide_eq_true_eq]at hB2
   have ht:a.tmps=(putL ((l.take n).map (·.dst)) (fun d=>a.eval (.tmp d)) a0).tmps:=by
    apply Array.ext_getElem?
    intro s
    by_cases hs:some s∈(l.take n).map (·.dst)
    ·obtain⟨o,ho,hd⟩:=List.mem_map.1 hs
     have h1:=List.all_eq_true.1 hB2.1.2 o (List.mem_of_mem_take ho)
     simp only[hd,decide_eq_true_eq]at h1
     rw[putL_in _ _ _ s (.inl hs) h1]
     have h2:s<a.tmps.size:=by rw[inv.tmps];exact h1
     simp[Act.eval,h2]
    ·rw[putL_out _ _ _ s hs]
     refine inv.off s (fun j d hl hd e=>hs ?_)
     cases hj:l[j]? with
     |none=>rw[hj]at hd;cases hd
     |some y=>
      have hjl:j<l.length:=(List.getElem?_eq_some_iff.1 hj).1
      have hjn:j<n:=by
       rcases Nat.lt_or_ge j n with g|g
       ·exact g
       ·have:=getD_both (htl j g hjl)
        rw[hl]at this;cases this
      rw[hj]at hd
      exact List.mem_map.2 ⟨y,List.mem_of_getElem? (i:=j) (by rw[List.getElem?_take_of_lt hjn];exact hj),by rw[←e];simpa using hd⟩
   have hdf:a.defers=(putL ((l.take n).map (·.dst)) (fun d=>a.eval (.tmp d)) a0).defers:=by rw[putL_defers];exact inv.defers
   cases a with
   |mk t df=>
    generalize hp:putL ((l.take n).map (·.dst)) (fun d=>(Act.mk t df).eval (.tmp d)) a0=p at*
    cases p with
    |mk t2 df2=>simp only at ht hdf;rw[ht,hdf]
  rw[ha]
  refine hend _ w inv.below fun j d hd hjD=>?_
  rcases Nat.lt_or_ge j n with g|g
  ·rw[List.getElem?_take_of_lt g]at hd
   exact inv.told j d (hup j g) (fun h=>absurd h hjD) hd
  ·rw[List.getElem?_eq_none (by rw[List.length_take];omega)]at hd;cases hd) n (Array.replicate l.toArray.size false) a0 w0.drew (by rw[List.filter_eq_self.2 (fun i _=>by rw[hl0];rfl)];simp) ⟨by simp,rfl,rfl,hU.drew,fun _ _=>rfl,(fun j d h _ _=>by rw[hl0]at h;cases h),(fun j oj _ h=>by rw[hl0]at h;cases h)⟩ hinv
 rw[show n+(l.length-n)=l.toArray.size by simp;omega]at key
 exact key
end Go.Proofs.Ytcmpmighjglnpaa
namespace Go.Proofs.Ytcmpmighjglnpaa
open Go.RowKit
theorem rangeMid{w:World}{g:Nat}{cs:Array Value}{t:TypeId}(h:BoxC w g cs t)(k:Nat)(l:List Value)(hl:∀i,i<l.length→cs[k+i]?=l[i]?):w.rangeAt g k l:=fun i v hv=>by
 have hi:i<l.length:=by
  rcases Nat.lt_or_ge i l.length with h|h
  ·exact h
  ·rw[List.getElem?_eq_none h]at hv;cases hv
 rw[h.cell,hl i hi];exact hv
end Go.Proofs.Ytcmpmighjglnpaa
