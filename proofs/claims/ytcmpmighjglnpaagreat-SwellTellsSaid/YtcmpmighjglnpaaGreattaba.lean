/-
  Words and walks.
-/
import Derived.Lib.SlBytesConst
import Derived.Test.YtcmpmighjglnpaaGreattaaa
import Derived.Test.YtcmpmighjglnpaaGreattaad
import Derived.Test.YtcmpmighjglnpaaGreattaal
import Derived.Test.YtcmpmighjglnpaaGreattaam
import Derived.Test.YtcmpmighjglnpaaGreattaas
import Derived.Test.YtcmpmighjglnpaaGreattaat
import Derived.Test.YtcmpmighjglnpaaGreattaax
import Derived.Test.YtcmpmighjglnpaaGreattaay
import Derived.Test.YtcmpmighjglnpaaGreattaaz
set_option maxRecDepth 100000
set_option maxHeartbeats 16000000
namespace Go.Proofs.YtcmpmighjglnpaaGreat
open Go.RowKit Go.ChangeShapes Go.WideShapes Go.ChangeAt Go.Joins
def strL(L:List Nat):ByteArray:=strB L.length (lst L)
theorem strL_eq(L:List Nat):strL L=⟨(L.map UInt8.ofNat).toArray⟩:=by
 unfold strL strB strOfNums
 congr 1
 congr 1
 apply List.ext_getElem?
 intro j
 simp[lst]
 rcases Nat.lt_or_ge j L.length with h|h
 ·simp[h]
 ·simp[h]
end Go.Proofs.YtcmpmighjglnpaaGreat
namespace Go.Proofs.YtcmpmighjglnpaaGreat
open Go.RowKit Go.ChangeShapes Go.WideShapes Go.ChangeAt Go.Joins
theorem strLs(L:List Nat)(d:Array UInt8)(h:(L.map UInt8.ofNat).toArray=d):(⟨d⟩:ByteArray)=strL L:=by rw[strL_eq,h]
theorem by_lit14(w:World)(L:List Nat)(C:Array Value)(hC:C=(bytesL L.length (lst L)).toArray)(hL:BytesP L)(n:Nat)(hn:n=L.length)(hm:n≤1000)(fr:Nat×Nat):ByR (w.alloc (.cells C 5 fr)) (w.alloc (.cells C 5 fr)).heap.size (some ⟨w.heap.size,0,none⟩) n n (lst L):=by
 subst hn
 refine⟨⟨lst_lt hL,fun _=>⟨w.heap.size,0,rfl,by simp,fun j hj=>?_⟩⟩,(fun h=>by cases h),Nat.le_refl _,by unfold maxLen;omega⟩
 rw[Nat.zero_add,cell_of_row _ w.heap.size j _ _ _ (heap_alloc_new w _),hC]
 simp[bytesL,hj]
theorem SwO.one{w:World}{base:Nat}{u:UnV}{s:Swm}(h:SwO w base u s):(swA u.sw).all (·.oneCell')=true:=by
 obtain⟨A,c,e1,_⟩:=h.W
 exact swA_one h.I.one (by show u.W.oneCell'=true;rw[e1];rfl) h.blk.one
theorem feed_lit{W:World}{base:Nat}{u:UnV}{s:Swm}(h:SwO W base u s)(g:GoodSw s)(L:List Nat)(C:Array Value)(hC:C=(bytesL L.length (lst L)).toArray)(hL:BytesP L)(n:Nat)(hn:n=L.length)(h9:n≤1000)(O:List Nat)(k m:Nat)(hE:fdoE s L=0)(hO:(feedM s L).out=O)(hk:usedM s L (feedM s L)=k)(hm:m=O.length):
  Calls Tryz.prog 9 #[.agg (swA u.sw),.slice (some ⟨W.heap.size,0,none⟩) n n] (W.alloc (.cells C 5 (n,n+1))) fun e w'=>∃u' At ct,e=.returned (.tuple #[.agg (swA u'.sw),.slice At m ct,.int .i64 (k:Int),.int .i64 0])∧SwO w' (W.heap.size+1) u' (nextM s L (feedM s L))∧w'.ownsRow (W.heap.size+1) 5 1 (.slice At m ct) m (bytesL m (lst O))∧Below W.heap.size W w':=by
 have hb:Below W.heap.size W (W.alloc (.cells C 5 (n,n+1))):=(Below.refl _ _).alloc (Nat.le_refl _) _
 have hs:(W.alloc (.cells C 5 (n,n+1))).heap.size=W.heap.size+1:=by simp
 refine(feedO_any (h.on hb) g _ n n L hn (by_lit14 W L C hC hL n hn h9 _)).mono ?_
 rintro e w' ⟨_,h2,h3⟩
 obtain⟨u',At,ct,e1,e2,e3,_⟩:=h2 hE
 rw[hs,hO,←hm]at e3
 rw[hO,←hm,hk]at e1
 rw[hs]at e2 h3
 exact⟨u',At,ct,e1,e2,e3,hb.trans (h3.mono (by omega))⟩
theorem fdoE_ok{s:Swm}{b:List Nat}(h:s.over=false)(h2:b.length≤131072):fdoE s b=(feedM s b).err:=by
 unfold fdoE;rw[h,if_neg (by decide),if_neg (by omega)]
theorem new_of(w:World)(m:Nat)(h:m≤131072):Calls Tryz.prog 7 #[.int .i64 (m:Int)] w fun e w'=>e=.returned (.tuple #[.agg (swA (newU (m:Int)).sw),.int .i64 0])∧Below w.heap.size w w':=by
 refine(unew14_any w (m:Int)).mono ?_
 rintro e w' ⟨rfl,hb⟩
 refine⟨?_,hb⟩
 rw[newU_sw (by omega) (by omega),show newE14 (m:Int)=0 from if_neg (by omega)]
def al_y:Swm:=nextM (begM 9) [75,4] (feedM (begM 9) [75,4])
theorem al_yo:al_y.over=false:=by
 unfold al_y nextM
 rw[al_v1,if_neg (by decide)]
theorem al_yg:GoodSw al_y:=next_good (begM_good (by decide:(9:Nat)≤131072)) (by intro x hx;simp at hx;omega) al_e1
theorem al_k1:usedM (begM 9) [75,4] (feedM (begM 9) [75,4])=2:=by
 unfold usedM
 rw[al_v1,if_neg (by decide)]
 rfl
end Go.Proofs.YtcmpmighjglnpaaGreat
namespace Go.Proofs.YtcmpmighjglnpaaGreat
open Go.RowKit Go.ChangeShapes Go.WideShapes Go.ChangeAt Go.Joins
def FeedL(s:Swm)(L:List Nat)(C:Array Value)(n m k:Nat)(O:List Nat):Prop:=∀(W:World) (base:Nat) (u:UnV),SwO W base u s→Calls Tryz.prog 9 #[.agg (swA u.sw),.slice (some ⟨W.heap.size,0,none⟩) n n] (W.alloc (.cells C 5 (n,n+1))) fun e w'=>∃u' At ct,e=.returned (.tuple #[.agg (swA u'.sw),.slice At m ct,.int .i64 (k:Int),.int .i64 0])∧SwO w' (W.heap.size+1) u' (nextM s L (feedM s L))∧w'.ownsRow (W.heap.size+1) 5 1 (.slice At m ct) m (bytesL m (lst O))∧Below W.heap.size W w'
theorem feedL_of{s:Swm}(g:GoodSw s)(L:List Nat)(C:Array Value)(hC:C=(bytesL L.length (lst L)).toArray)(hL:BytesP L)(n:Nat)(hn:n=L.length)(h9:n≤1000)(O:List Nat)(k m:Nat)(hE:fdoE s L=0)(hO:(feedM s L).out=O)(hk:usedM s L (feedM s L)=k)(hm:m=O.length):FeedL s L C n m k O:=
 fun _ _ _ h=>feed_lit h g L C hC hL n hn h9 O k m hE hO hk hm
theorem swO_over{w:World}{base:Nat}{u:UnV}{s:Swm}{X:Array Value}{b:Nat}{v:Bool}(h:SwO w base u s)(hX:X=swA u.sw)(x:BoxC w b X 32)(hv:s.over=v):w.cell? ⟨b,44,none⟩=some (.bool v):=by
 obtain⟨_,_,_,_,_,_,_,c⟩:=sw_x hX x
 rw[c,h.ov,hv]
theorem alive14_any(w:World):Calls Tryz.prog 15 #[] w fun e w'=>e=.returned (.bool true)∧Below w.heap.size w w':=by
 have kc:=fun(w:World) (C:Array Value) (n c:Nat)=>Lib.run_convert_bytes_const (P:=Tryz.prog) w 22 5 C n c Tryz.underlying22 Tryz.underlying5
 obtain⟨Z,hZ⟩:∃Z,Z=swA swZ:=⟨_,rfl⟩
 have hz:∀u:World,(zeroValue 32).run Tryz.prog u=.ok (.agg Z) u:=by rw[hZ];exact(zero_of_info infoSwl).1
 have HZS:Hid (Z.size=45):=Lib.hid (by rw[hZ];exact swA_size rfl)
 have HZO:Hid (Z.all (·.oneCell')=true):=Lib.hid (by rw[hZ];exact swZ_one)
 have hnew:=new_of w 9 (by omega)
 have so0:∀W,SwO W W.heap.size (newU ((9:Nat):Int)) (begM 9):=fun W=>SwO.new W _ 9
 obtain⟨X0,hX0⟩:∃X,X=swA (newU ((9:Nat):Int)).sw:=⟨_,rfl⟩
 have f1:FeedL (begM 9) [75,4] #[.int .u8 75,.int .u8 4] 2 1 2 [97]:=feedL_of (begM_good (by decide:(9:Nat)≤131072)) _ _ (by rfl) (by intro x hx;simp at hx;omega) 2 rfl (by omega) [97] 2 1 (by rw[fdoE_ok rfl (by decide)];exact al_e1) al_o1 al_k1 rfl
 have f2:FeedL al_y [0,255] #[.int .u8 0,.int .u8 255] 2 0 1 []∧(nextM al_y [0,255] (feedM al_y [0,255])).over=true:=by
  obtain⟨a1,a2,a3,a4⟩:=al_two
  have a1':(feedM al_y [0,255]).err=0:=a1
  have a3':(feedM al_y [0,255]).over=true:=a3
  refine⟨feedL_of al_yg _ _ (by rfl) (by intro x hx;simp at hx;omega) 2 rfl (by omega) [] 1 0 (by rw[fdoE_ok al_yo (by decide)];exact a1') a2 a4 rfl,?_⟩
  unfold nextM
  rw[a3',if_pos rfl]
 rw[←hX0]at hnew
 have HX0S:Hid (X0.size=45):=Lib.hid (by rw[hX0];exact swA_size (blkL_len ..))
 have HX0O:Hid (X0.all (·.oneCell')=true):=Lib.hid (by rw[hX0];exact(so0 w).one)
 have HNEW:=Lib.hid hnew;have HF1:=Lib.hid f1;have HF2:=Lib.hid f2.1;have HOV:=Lib.hid f2.2;have HSO:=Lib.hid so0;have HX0:=Lib.hid hX0
 clear hnew f1 f2 so0 hX0 hZ
 go_enter Tryz.func15,Tryz.ntmps15
 go_wp2_with fail
 refine HNEW.out.mono ?_
 rintro e w1 ⟨rfl,hb⟩
 have so:=HSO.out w1
 obtain⟨b1,hn⟩:∃b,b=w1.heap.size:=⟨_,rfl⟩
 obtain⟨W1,hW⟩:∃W,W=mkV w1 Z X0 32:=⟨_,rfl⟩
 have hm:Below w1.heap.size w1 W1:=by rw[hW];exact mkV_below _ _ _ _
 have hv:BoxC W1 b1 X0 32:=by rw[hW,hn];exact mkV_row _ _ _ _
 have hb2:=hb.trans (hm.mono hb.size)
 have HB:=Lib.hid hb2
 have HVb1:=Lib.hid hv;have HNb1:=Lib.hid hn;have HEW1:=Lib.hid hW
 have HSs:=Lib.hid (so.on hm)
 clear hb hb2 hm hv hn hW so
 go_wp2_with (first
  |(refine wpList_store_rowTo rfl _ _ _ rfl rfl w1.heap.size X0 rfl rfl 32 Z (heap_alloc_new w1 _) (szSwl _ HX0S.out) (by first|rfl|rw[HZS.out,HX0S.out]) HX0O.out ?_;rw[show(w1.alloc (.cells Z 32)).setRow w1.heap.size X0=mkV w1 Z X0 32 from rfl,←HEW1.out,←HNb1.out])
  |(refine wpList_load_row rfl _ _ rfl b1 rfl _ X0 (0,0) _ HVb1.out Tryz.underlying32 rfl (szSwl _ HX0S.out) ?_)
  |fail)
 have f:=HF1.out _ _ _ HSs.out
 rw[←HX0.out]at f
 refine f.mono ?_
 clear f
 rintro e w2 ⟨u2,At2,ct2,rfl,so,own,hb⟩
 obtain⟨X1,hX⟩:∃X,X=swA u2.sw:=⟨_,rfl⟩
 rw[←hX]
 have HX1S:Hid (X1.size=45):=Lib.hid (by rw[hX];exact swA_size (blkL_len ..))
 have HX1O:Hid (X1.all (·.oneCell')=true):=Lib.hid (by rw[hX];exact so.one)
 have HX1:=Lib.hid hX
 clear hX
 obtain⟨b2,hn⟩:∃b,b=w2.heap.size:=⟨_,rfl⟩
 obtain⟨W2,hW⟩:∃W,W=mkV w2 Z X1 32:=⟨_,rfl⟩
 have hm:Below w2.heap.size w2 W2:=by rw[hW];exact mkV_below _ _ _ _
 have hv:BoxC W2 b2 X1 32:=by rw[hW,hn];exact mkV_row _ _ _ _
 have hb2:=hb.trans (hm.mono hb.size)
 have HVb1:=Lib.hid (HVb1.out.below hb2 HVb1.out.lt)
 have HSs:=Lib.hid (HSs.out.on hb2)
 have HB:=Lib.hid (HB.out.trans (hb2.mono HB.out.size))
 have HVb2:=Lib.hid hv;have HNb2:=Lib.hid hn;have HEW2:=Lib.hid hW
 have HSy:=Lib.hid (so.on hm)
 have HRr1:=Lib.hid (own_keep own hm)
 clear hb hb2 hm hv hn hW so own
 go_wp2_with (first
  |(refine wpList_store_rowTo rfl _ _ _ rfl rfl w2.heap.size X1 rfl rfl 32 Z (heap_alloc_new w2 _) (szSwl _ HX1S.out) (by first|rfl|rw[HZS.out,HX1S.out]) HX1O.out ?_;rw[show(w2.alloc (.cells Z 32)).setRow w2.heap.size X1=mkV w2 Z X1 32 from rfl,←HEW2.out,←HNb2.out])
  |(refine wpList_load_row rfl _ _ rfl b1 rfl _ X0 (0,0) _ HVb1.out Tryz.underlying32 rfl (szSwl _ HX0S.out) ?_)
  |(refine wpList_load_row rfl _ _ rfl b2 rfl _ X1 (0,0) _ HVb2.out Tryz.underlying32 rfl (szSwl _ HX1S.out) ?_)
  |fail)
 have HSy:Hid (SwO W2 _ u2 al_y):=HSy
 have f:=HF2.out _ _ _ HSy.out
 rw[←HX1.out]at f
 refine f.mono ?_
 clear f
 rintro e w3 ⟨u3,At3,ct3,rfl,so,own,hb⟩
 obtain⟨X2,hX⟩:∃X,X=swA u3.sw:=⟨_,rfl⟩
 rw[←hX]
 have HX2S:Hid (X2.size=45):=Lib.hid (by rw[hX];exact swA_size (blkL_len ..))
 have HX2O:Hid (X2.all (·.oneCell')=true):=Lib.hid (by rw[hX];exact so.one)
 have HX2:=Lib.hid hX
 clear hX
 obtain⟨b3,hn⟩:∃b,b=w3.heap.size:=⟨_,rfl⟩
 obtain⟨W3,hW⟩:∃W,W=mkV w3 Z X2 32:=⟨_,rfl⟩
 have hm:Below w3.heap.size w3 W3:=by rw[hW];exact mkV_below _ _ _ _
 have hv:BoxC W3 b3 X2 32:=by rw[hW,hn];exact mkV_row _ _ _ _
 have hb2:=hb.trans (hm.mono hb.size)
 have HVb1:=Lib.hid (HVb1.out.below hb2 HVb1.out.lt)
 have HVb2:=Lib.hid (HVb2.out.below hb2 HVb2.out.lt)
 have HSs:=Lib.hid (HSs.out.on hb2)
 have HSy:=Lib.hid (HSy.out.on hb2)
 have HRr1:=Lib.hid (own_keep HRr1.out hb2)
 have HB:=Lib.hid (HB.out.trans (hb2.mono HB.out.size))
 have HVb3:=Lib.hid hv;have HNb3:=Lib.hid hn;have HEW3:=Lib.hid hW
 have HSz:=Lib.hid (so.on hm)
 have HRr2:=Lib.hid (own_keep own hm)
 clear hb hb2 hm hv hn hW so own
 have c44:=swO_over HSz.out HX2.out HVb3.out HOV.out
 have c45:=swO_over HSy.out HX1.out HVb2.out al_yo
 have s1:(convert 22 9 (.slice At2 1 ct2)).run Tryz.prog W3=.ok (.string (strL [97])) W3:=run_str (ByR.of_own HRr1.out (lst_lt (by intro x hx;simp at hx;omega))).1 ct2
 rw[←strLs [97] #[97] rfl]at s1
 go_wp2_with (first
  |(refine wpList_store_rowTo rfl _ _ _ rfl rfl w3.heap.size X2 rfl rfl 32 Z (heap_alloc_new w3 _) (szSwl _ HX2S.out) (by first|rfl|rw[HZS.out,HX2S.out]) HX2O.out ?_;rw[show(w3.alloc (.cells Z 32)).setRow w3.heap.size X2=mkV w3 Z X2 32 from rfl,←HEW3.out,←HNb3.out])
  |(refine wpList_load_row rfl _ _ rfl b1 rfl _ X0 (0,0) _ HVb1.out Tryz.underlying32 rfl (szSwl _ HX0S.out) ?_)
  |(refine wpList_load_row rfl _ _ rfl b2 rfl _ X1 (0,0) _ HVb2.out Tryz.underlying32 rfl (szSwl _ HX1S.out) ?_)
  |(refine wpList_load_row rfl _ _ rfl b3 rfl _ X2 (0,0) _ HVb3.out Tryz.underlying32 rfl (szSwl _ HX2S.out) ?_)
  |fail)
 go_ret
 exact⟨rfl,HB.out⟩
end Go.Proofs.YtcmpmighjglnpaaGreat
namespace Go.Proofs.YtcmpmighjglnpaaGreat
open Go.RowKit
def ansO(E:Int)(s:Swm)(b:List Nat):List Nat:=if E=0 then(feedM s b).out else[]
def ansU(E:Int)(s:Swm)(b:List Nat):Nat:=if E=0 then usedM s b (feedM s b)else 0
structure FeeR (W:World) (E:Int) (N:Swm) (O:List Nat) (X:Array Value) (At:Option Addr) (ct:Nat):Prop where
 bad:E≠0→X=swA swZ
 ok:E=0→∃u base,X=swA u.sw∧SwO W base u N
 own:∃base,W.ownsRow base 5 1 (.slice At O.length ct) O.length (bytesL O.length (lst O))
 bin:BytesP O
theorem FeeD.ans{w w':World}{E:Int}{s:Swm}{b:List Nat}{e:Ending}(h:FeeD w E s b e w'):
  ∃X At ct,e=.returned (.tuple #[.agg X,.slice At (ansO E s b).length ct,.int .i64 (ansU E s b:Int),.int .i64 E])∧FeeR w' E (nextM s b (feedM s b)) (ansO E s b) X At ct∧Below w.heap.size w w':=by
 by_cases h0:E=0
 ·obtain⟨u,At,ct,e1,e2,e3,e4⟩:=h.ok h0
  refine⟨_,At,ct,?_,⟨fun h=>absurd h0 h,fun _=>⟨u,w.heap.size,rfl,e2⟩,⟨w.heap.size,?_⟩,?_⟩,h.bel⟩
  ·unfold ansO ansU;rw[if_pos h0,if_pos h0,e1,h0]
  ·unfold ansO;rw[if_pos h0];exact e3
  ·unfold ansO;rw[if_pos h0];exact e4
 ·refine⟨_,none,0,?_,⟨fun _=>rfl,fun h=>absurd h h0,⟨0,?_⟩,?_⟩,h.bel⟩
  ·unfold ansO ansU;rw[if_neg h0,if_neg h0,h.bad h0];rfl
  ·unfold ansO;rw[if_neg h0];exact World.ownsRow_nil _ _ _ _
  ·unfold ansO;rw[if_neg h0];exact fun x hx=>by cases hx
theorem FeeR.on{W W':World}{E:Int}{N:Swm}{O:List Nat}{X:Array Value}{At:Option Addr}{ct:Nat}(h:FeeR W E N O X At ct)(hb:Below W.heap.size W W'):FeeR W' E N O X At ct:=by
 obtain⟨base,o⟩:=h.own
 exact⟨h.bad,fun h0=>(by obtain⟨u,b,e,s⟩:=h.ok h0;exact⟨u,b,e,s.on hb⟩),⟨base,own_keep o hb⟩,h.bin⟩
theorem FeeR.size{W:World}{E:Int}{N:Swm}{O:List Nat}{X:Array Value}{At:Option Addr}{ct:Nat}(h:FeeR W E N O X At ct):X.size=45:=by
 by_cases h0:E=0
 ·obtain⟨u,b,e,s⟩:=h.ok h0;rw[e];exact swA_size (blkL_len ..)
 ·rw[h.bad h0];exact swA_size rfl
theorem FeeR.one{W:World}{E:Int}{N:Swm}{O:List Nat}{X:Array Value}{At:Option Addr}{ct:Nat}(h:FeeR W E N O X At ct):X.all (·.oneCell')=true:=by
 by_cases h0:E=0
 ·obtain⟨u,b,e,s⟩:=h.ok h0
  obtain⟨A,c,e1,_⟩:=s.W
  rw[e];exact swA_one s.I.one (by show u.W.oneCell'=true;rw[e1];rfl) s.blk.one
 ·rw[h.bad h0];exact swZ_one
theorem FeeR.row{W:World}{E:Int}{N:Swm}{O:List Nat}{X:Array Value}{At:Option Addr}{ct:Nat}(h:FeeR W E N O X At ct):ByR W W.heap.size At O.length ct (lst O):=by
 obtain⟨base,o⟩:=h.own
 exact ByR.of_own o (lst_lt h.bin)
theorem own_box{w:World}{base sz n ad:Nat}{e t:TypeId}{v:Value}{xs:List Value}{cs:Array Value}(h:w.ownsRow base e sz v n xs)(bx:BoxC w ad cs t)(hne:(e==t)=false)(Y:Array Value):(w.setRow ad Y).ownsRow base e sz v n xs:=
 own_blk h fun j hj=>setRow_other w ad j Y fun he=>own_typeG h bx hne (by rw[hj,he])
theorem SwO.box{w:World}{base ad:Nat}{u:UnV}{s:Swm}{cs:Array Value}(h:SwO w base u s)(bx:BoxC w ad cs 32)(Y:Array Value):SwO (w.setRow ad Y) base u s:=by
 obtain⟨A,c,e1,e2⟩:=h.I
 obtain⟨A',c',e3,e4,e5⟩:=h.W
 have hne:∀g,(∃cur,w.heap[g]?=some (.cells cur 5 (0,0)))→g≠ad:=fun g hg he=>by
  obtain⟨cur,hg⟩:=hg
  rw[he]at hg
  have hbx:w.heap[ad]?=some (.cells cs 32 (0,0)):=bx
  rw[hbx]at hg
  injection hg with hg
  injection hg with _ h2 _
  exact absurd h2 (by decide)
 have hB:BlkT (w.setRow ad Y) base u s.st:=by
  have hb:=h.blk
  cases hst:s.st with
  |none=>rw[hst]at hb;obtain⟨h1,h2,h3,h4,h5,h6,h7,h8⟩:=hb;exact⟨h1,h2,h3,h4,h5,h6,own_box h7 bx (by decide) Y,own_box h8 bx (by decide) Y⟩
  |some k=>rw[hst]at hb;obtain⟨h1,h2,s1,s2,h3,h4,h5,h6,h7⟩:=hb;exact⟨h1,h2,s1,s2,h3,h4,own_box h5 bx (by decide) Y,own_box h6 bx (by decide) Y,h7⟩
 refine⟨h.M,h.D,h.a,h.S,h.ov,⟨A,c,e1,own_box e2 bx (by decide) Y⟩,⟨A',c',e3,?_,fun h9=>?_⟩,hB⟩
 ·rw[size_setRow]
  refine⟨e4.1.setRow Y fun g o h0 e=>hne g ?_,e4.2⟩
  obtain⟨g',o',cur,y1,y2,y3⟩:=e5 h0
  rw[e]at y1;injection y1 with y1;injection y1 with y1
  exact⟨cur,y1▸y3⟩
 ·obtain⟨g',o',cur,y1,y2,y3⟩:=e5 h9
  exact⟨g',o',cur,y1,y2,(setRow_other w ad g' Y (hne g' ⟨cur,y3⟩)).trans y3⟩
theorem FeeR.box{W:World}{E:Int}{N:Swm}{O:List Nat}{X:Array Value}{At:Option Addr}{ct ad:Nat}{cs:Array Value}(h:FeeR W E N O X At ct)(bx:BoxC W ad cs 32)(Y:Array Value):FeeR (W.setRow ad Y) E N O X At ct:=by
 obtain⟨base,o⟩:=h.own
 exact⟨h.bad,fun h0=>(by obtain⟨u,b,e,s⟩:=h.ok h0;exact⟨u,b,e,s.box bx Y⟩),⟨base,own_box o bx (by decide) Y⟩,h.bin⟩
end Go.Proofs.YtcmpmighjglnpaaGreat
namespace Go.Proofs.YtcmpmighjglnpaaGreat
theorem beg_told(most:Nat)(b:List Nat):FedTold [] [] (toldA (lst b) b.length most none [] 0) (feedM (begM most) b):=
 fed_told (g:=lst b) (L:=b.length) (most:=most) _ none [] [] 0 (Nat.zero_le _) (Nat.lt_succ_self _)
theorem infl_of{g:Nat→Nat}{l lim:Nat}(hl:l≤300)(hm:lim≤4000):inflR g l 0 (lim:Int)=inflT (toldA g l lim none [] 0)∧prefR g l (lim:Int)=prefT (toldA g l lim none [] 0):=by
 have e1:asked13 l 0=0:=by unfold asked13;rw[if_neg (by omega),if_neg (by omega)]
 have e2:limE (lim:Int)=0:=by unfold limE;rw[if_neg (by omega)]
 have e3:told g l lim (fuel13 l) none [] 0=toldA g l lim none [] 0:=told_A (Nat.zero_le _) (mu_le l 0 none)
 constructor
 ·unfold inflR
  rw[e1,e2,if_neg (by omega),if_neg (by omega),Int.toNat_natCast,Int.toNat_zero,e3]
 ·unfold prefR
  rw[e1,e2,if_neg (by omega),if_neg (by omega),Int.toNat_natCast,e3]
theorem infl_neg{g:Nat→Nat}{l:Nat}{lim:Int}(hl:l≤300)(hm:lim<0):(inflR g l 0 lim).2.2=2:=by
 have e1:asked13 l 0=0:=by unfold asked13;rw[if_neg (by omega),if_neg (by omega)]
 have e2:limE lim=2:=by unfold limE;rw[if_pos (by omega)]
 unfold inflR
 rw[e1,e2,if_neg (by omega),if_pos (by omega)]
theorem tells_whole{most:Nat}{b:List Nat}(hl:b.length≤300)(hm:most≤4000):
  let Q:=feedM (begM most) b
  let I:=inflR (lst b) b.length 0 (most:Int)
  let P:=prefR (lst b) b.length (most:Int)
  (I.2.2=0→Q.err=0∧Q.over=true∧Q.out=I.1∧usedM (begM most) b Q=(I.2.1+7)/8∧Q.made=I.1.length)∧
  (I.2.2≠0→I.2.2≠10→Q.err=I.2.2)∧
  (I.2.2=10→P.2=0∧Q.err=0∧Q.over=false∧Q.out=P.1∧usedM (begM most) b Q=b.length):=by
 have T:=beg_told most b
 obtain⟨e1,e2⟩:=infl_of (g:=lst b) hl hm
 dsimp only
 rw[e1,e2]
 generalize toldA (lst b) b.length most none [] 0=r at T
 generalize hQ:feedM (begM most) b=Q at T
 obtain⟨-,t2,t3,t4⟩:=T
 unfold inflT prefT
 by_cases h0:r.2.2=0
 ·rw[if_neg (by omega)]
  have:=t3 h0
  subst this
  refine⟨fun _=>⟨rfl,rfl,?_,?_,rfl⟩,fun h=>absurd rfl h,fun h=>(by have h9:(0:Int)=10:=h;omega)⟩
  ·simp
  ·unfold usedM;rw[if_pos rfl];exact Nat.sub_zero _
 ·rw[if_pos h0]
  refine⟨fun h=>absurd h h0,fun _ h10=>?_,fun h10=>?_⟩
  ·rw[t2 h0 h10];rfl
  ·have h10':r.2.2=10:=h10
   obtain⟨st,hst⟩:=t4 h10'
   subst hst
   rw[if_neg (by omega)]
   refine⟨rfl,rfl,rfl,?_,?_⟩
   ·simp
   ·unfold usedM;rw[if_neg (fun h=>by cases h)]
end Go.Proofs.YtcmpmighjglnpaaGreat
namespace Go.Proofs.YtcmpmighjglnpaaGreat
open Go.RowKit Go.ChangeShapes Go.WideShapes Go.ChangeAt Go.Joins
def rdE(A:Option Addr)(l c:Nat)(a e:Int):Array Value:=#[.slice A l c,.int .i64 a,.int .i64 e]
theorem pkeep_err(w:World)(p:Nat)(A:Option Addr)(l c:Nat)(a s:Int)(h:BoxC w p (rdE A l c a s) 70)(hs:s≠0)(x:Int):
  Calls Tryz.prog 77 #[.pointer (some ⟨p,0,none⟩),.int .i64 x] w fun e w'=>e=.returned (.tuple #[])∧w=w':=by
 have c2:w.cell? ⟨p,2,none⟩=some (.int .i64 s):=h.cell.trans rfl
 have d0:(s==0)=false:=beq_eq_false_iff_ne.2 hs
 clear h hs
 go_enter Tryz.func77,Tryz.ntmps77
 go_wp2
 go_end0
 exact⟨rfl,rfl⟩
theorem pwant_err(w:World)(p:Nat)(A:Option Addr)(l c:Nat)(a s:Int)(h:BoxC w p (rdE A l c a s) 70)(hs:s≠0)(b:Bool)(x:Int):
  Calls Tryz.prog 54 #[.pointer (some ⟨p,0,none⟩),.bool b,.int .i64 x] w fun e w'=>e=.returned (.tuple #[])∧w=w':=by
 have HK:=Lib.hid (pkeep_err w p A l c a s h hs x)
 clear h hs
 cases b
 ·go_enter Tryz.func54,Tryz.ntmps54
  go_wp2_with fail
  refine HK.out.mono ?_
  rintro e w2 ⟨rfl,rfl⟩
  go_wp2
  go_end0
  exact⟨rfl,rfl⟩
 ·go_enter Tryz.func54,Tryz.ntmps54
  go_wp2
  go_end0
  exact⟨rfl,rfl⟩
theorem ptokens_err(w:World)(p:Nat)(A:Option Addr)(l c:Nat)(a s:Int)(h:BoxC w p (rdE A l c a s) 70)(hs:s≠0)(m:Int):
  Calls Tryz.prog 56 #[.pointer (some ⟨p,0,none⟩),.int .i64 m] w fun e w'=>e=.returned (.slice none 0 0)∧Below w.heap.size w w':=by
 obtain⟨W1,hW1⟩:∃W1,W1=(((w.alloc (.cells #[.pointer (some ⟨p,0,none⟩)] 123)).alloc (.cells #[.int .i64 m] 3)).alloc (.cells #[.slice none 0 0] 94)).alloc (.cells #[.int .i64 0] 3):=⟨_,rfl⟩
 have hb1:Below w.heap.size w W1:=by rw[hW1];exact((((Below.refl _ _).alloc (Nat.le_refl _) _).alloc (by simp) _).alloc (by simp;omega) _).alloc (by simp;omega) _
 obtain⟨z,hz⟩:∃z,z=w.heap.size:=⟨_,rfl⟩
 have c2:W1.cell? ⟨p,2,none⟩=some (.int .i64 s):=(h.below hb1 h.lt).cell.trans rfl
 have cp:W1.cell? ⟨z,0,none⟩=some (.pointer (some ⟨p,0,none⟩)):=by
  have h1:Boxed W1 z 123 (.pointer (some ⟨p,0,none⟩)):=by rw[hW1,hz];exact(((Boxed.new w _ _).alloc _).alloc _).alloc _
  exact h1.cell
 have cl:W1.cell? ⟨z+2,0,none⟩=some (.slice none 0 0):=by
  have h1:Boxed W1 (z+2) 94 (.slice none 0 0):=by
   have:=(Boxed.new ((w.alloc (.cells #[.pointer (some ⟨p,0,none⟩)] 123)).alloc (.cells #[.int .i64 m] 3)) 94 (.slice none 0 0)).alloc (.cells #[.int .i64 0] 3)
   rw[World.size_alloc,World.size_alloc,←hz]at this
   rw[hW1];exact this
  exact h1.cell
 have d0:(s==0)=false:=beq_eq_false_iff_ne.2 hs
 have HB:=Lib.hid hb1;have HW1:=Lib.hid hW1;have HZ:=Lib.hid hz
 clear h hs hb1 hW1 hz
 go_enter Tryz.func56,Tryz.ntmps56
 go_wp2_with fail
 simp only[Nat.add_assoc,Nat.reduceAdd]
 rw[←HW1.out,←HZ.out]
 go_loopw [7] (fun lv wr=>lv=.bool false∧wr=W1) (fun _ _=>0)
 case atStart=>exact⟨rfl,rfl⟩
 case round=>
  obtain⟨rfl,rfl⟩:=hrel
  go_wp2
  go_ret
  exact⟨rfl,HB.out⟩
def tellE(_g:Nat→Nat)(l:Nat)(a lim:Int)(R:List Nat×Nat×Int):Int:=if asked13 l a≠0 then asked13 l a else if limE lim≠0 then limE lim else R.2.2
def tellO(_g:Nat→Nat)(l:Nat)(a lim:Int)(R:List Nat×Nat×Int):List Nat:=if asked13 l a≠0 then[]else if limE lim≠0 then[]else R.1
def TellP(w:World)(g:Nat→Nat)(l:Nat)(a lim:Int)(R:List Nat×Nat×Int)(e:Ending)(w':World):Prop:=∃(A':Option Addr) (c':Nat) (A2:Option Addr) (l2 c2:Nat) (pl:Int),
 e=.returned (.tuple #[.slice A' (tellO g l a lim R).length c',.agg (rdE A2 l2 c2 pl (tellE g l a lim R))])∧ByR w' w'.heap.size A' (tellO g l a lim R).length c' (lst (tellO g l a lim R))∧NewB w' w.heap.size A' (tellO g l a lim R).length∧Below w.heap.size w w'∧(tellE g l a lim R=0→pl=(R.2.1:Int))
theorem built_rdrE(A:Option Addr)(l c:Nat)(a e:Int):Tryz.prog.built 70 [(0,.slice A l c),(1,.int .i64 a),(2,.int .i64 e)]=some (rdE A l c a e):=by kernel_rfl
theorem rdE_one(A:Option Addr)(l c:Nat)(a e:Int):(rdE A l c a e).all (·.oneCell')=true:=by simp[rdE,Value.oneCell']
theorem cell_rdr2{fn:Func}{p u:Tmp}(h:fn.results=#[.tmp u,.cell p 70])(tmps:Array Value)(w:World)(g:Nat)(cs:Array Value)(hs:cs.size=3)(hp:tmps.getD p undef=.pointer (some ⟨g,0,none⟩))(ht:w.heap[g]?=some (.cells cs 70 (0,0))):
  (results fn tmps).run Tryz.prog w=.ok (.tuple #[tmps.getD u undef,.agg cs]) w:=by
 have hp':tmps[p]?.getD undef=.pointer (some ⟨g,0,none⟩):=by simpa using hp
 have hl:=run_loadVar_row (P:=Tryz.prog) w g 70 70 cs (0,0) _ ht Tryz.underlying70 rfl (szRdr13 hs)
 simp[results,h,hp',asAddr,hl]
theorem ptell_any(w:World)(A:Option Addr)(l c:Nat)(g:Nat→Nat)(hg:RdB w w.heap.size A l g)(a:Int)(ha1: -9223372036854775808≤a)(ha2:a≤9223372036854775807)(hl:l≤1000000)(lim:Int)(hl1: -9223372036854775808≤lim)(hl2:lim≤9223372036854775807):
  Calls Tryz.prog 36 #[.slice A l c,.int .i64 a,.int .i64 lim] w fun e w'=>TellP w g l a lim (toldA g l lim.toNat none [] a.toNat) e w':=by
 obtain⟨R,hR⟩:∃R,R=toldA g l lim.toNat none [] a.toNat:=⟨_,rfl⟩
 rw[←hR]
 obtain⟨h,hh⟩:∃h,h=w.heap.size:=⟨_,rfl⟩
 obtain⟨Z,hZ⟩:∃Z,Z=rdrA none 0 0 (0,0):=⟨_,rfl⟩
 obtain⟨W1,hW1⟩:∃W1,W1=w.alloc (.cells Z 70):=⟨_,rfl⟩
 have hb1:Below h w W1:=by rw[hW1,hh];exact(Below.refl _ _).alloc (Nat.le_refl _) _
 have t1:BoxC W1 h Z 70:=by rw[hW1,hh];exact BoxC.new w _ _
 have s1:W1.heap.size=h+1:=by rw[hW1,hh];simp
 have hzr:∀u:World,(zeroValue 70).run Tryz.prog u=.ok (.agg Z) u:=by rw[hZ];exact(zero_of_info infoRdr).1
 have HZS:Hid (Z.size=3):=Lib.hid (by rw[hZ];rfl)
 have HZE:=Lib.hid hZ
 obtain⟨q,hq⟩:∃q,q=asked13 l a:=⟨_,rfl⟩
 have hask:=pwithin_any W1 A l c a ha1 ha2 hl
 rw[←hq]at hask
 obtain⟨Y,hY⟩:∃Y,Y=rdE A l c a q:=⟨_,rfl⟩
 have HYS:Hid (Y.size=3):=Lib.hid (by rw[hY];rfl)
 have HYO:Hid (Y.all (·.oneCell')=true):=Lib.hid (by rw[hY];exact rdE_one ..)
 have HYB:Hid (Tryz.prog.built 70 [(0,.slice A l c),(1,.int .i64 a),(2,.int .i64 q)]=some Y):=Lib.hid (by rw[hY];exact built_rdrE A l c a q)
 obtain⟨W2,hW2⟩:∃W,W=mkV W1 Z Y 70:=⟨_,rfl⟩
 have hb2:Below W1.heap.size W1 W2:=by rw[hW2];exact mkV_below _ _ _ _
 have y2:BoxC W2 (h+1) Y 70:=by have:=mkV_row W1 Z Y 70;rw[s1]at this;rw[hW2];exact this
 have hB2:Below h w W2:=hb1.trans (hb2.mono (by rw[s1];omega))
 have HT2:=Lib.hid (t1.below hb2 t1.lt)
 have hsz2:W2.heap.size=h+2:=by rw[hW2,mkV_size,s1]
 obtain⟨bb,hbb⟩:∃b:Bool,b=decide (0≤lim∧lim≤131072):=⟨_,rfl⟩
 have HAS:=Lib.hid hask;have HG:=Lib.hid hg;have HH:=Lib.hid hh;have HW1:=Lib.hid hW1;have HS1:=Lib.hid s1;have HQ:=Lib.hid hq
 have HW2:=Lib.hid hW2;have HSZ2:=Lib.hid hsz2;have HB2:=Lib.hid hB2;have HY2:=Lib.hid y2;have HYE:=Lib.hid hY;have HR:=Lib.hid hR
 have HCS:Hid ((0≤lim∧lim≤131072∧bb=true)∨(0≤lim∧¬lim≤131072∧bb=false)∨(¬0≤lim∧bb=false)):=Lib.hid (by
  by_cases a1:0≤lim
  ·by_cases a2:lim≤131072
   ·exact .inl ⟨a1,a2,by rw[hbb];exact decide_eq_true ⟨a1,a2⟩⟩
   ·exact .inr (.inl ⟨a1,a2,by rw[hbb];exact decide_eq_false fun h=>a2 h.2⟩)
  ·exact .inr (.inr ⟨a1,by rw[hbb];exact decide_eq_false fun h=>a1 h.1⟩))
 clear hask hg hh hW1 t1 hb1 s1 hq hW2 hb2 y2 hB2 hsz2 hbb hZ hY hR
 by_cases q0:q=0
 ·have hl3:l≤131072∧0≤a∧a≤8*(l:Int):=by
   have:=asked_ok (L:=l) (a:=a) (HQ.out.symm.trans q0)
   omega
  obtain⟨hl131,ha0,ha8⟩:=hl3
  obtain⟨n,rfl⟩:=Int.eq_ofNat_of_zero_le ha0
  have HRR:Hid (R=toldA g l lim.toNat none [] n):=Lib.hid (by have:=HR.out;rwa[Int.toNat_natCast]at this)
  subst q0
  have HRD:Hid (Rdr W2 (h+1) A l c (n,0)):=Lib.hid (by have:=HY2.out;rw[HYE.out]at this;exact this)
  have HRF:Hid (RdF (At (h+1)) W2 A l g):=Lib.hid (by
   refine⟨(HG.out.below (HH.out▸HB2.out) (Nat.le_refl _)).more (by have:=HB2.out.size;omega),fun b o h0 e hb=>?_⟩
   obtain⟨b',o',e',hbb,_⟩:=HG.out.2 h0
   rw[e]at e';cases e'
   have:b=h+1:=hb
   have:=HH.out;omega)
  have HWA:=Lib.hid fun b=>pwant_any W2 (h+1) A l c (n,0) HRD.out b 2
  rcases HCS.out with⟨z1,z2,hb⟩|⟨z1,z2,hb⟩|⟨z1,hb⟩
  ·obtain⟨m,rfl⟩:=Int.eq_ofNat_of_zero_le z1
   have HRM:Hid (toldA g l m none [] n=R):=Lib.hid (by rw[HRR.out,Int.toNat_natCast])
   have hlimE:limE (m:Int)=0:=by unfold limE;rw[if_neg (by omega)]
   have hTE:tellE g l (n:Int) (m:Int) R=R.2.2:=by unfold tellE;rw[←HQ.out,if_neg (fun h=>h rfl),hlimE,if_neg (fun h=>h rfl)]
   have hTO:tellO g l (n:Int) (m:Int) R=R.1:=by unfold tellO;rw[←HQ.out,if_neg (fun h=>h rfl),hlimE,if_neg (fun h=>h rfl)]
   have HTE:=Lib.hid hTE;have HTO:=Lib.hid hTO
   have d1:decide ((0:Int)≤(m:Int))=true:=decY z1
   have d2:decide ((m:Int)≤131072)=true:=decY z2
   have d2':decide (m≤131072)=true:=decY0 (by omega)
   have hm:m≤131072:=by omega
   have hn8:n≤8*l:=by omega
   clear z1 z2 hlimE hTE hTO hb
   go_enter Tryz.func36,Tryz.ntmps36
   go_wp2_with (first
    |(rw[←HW1.out,←HH.out])
    |fail)
   refine HAS.out.mono ?_
   rintro e w9 ⟨rfl,rfl⟩
   go_wp2_with (first
    |(refine wpList_buildTo rfl 70 #[(0,.tmp 11),(1,.tmp 12),(2,.tmp 15)] rfl (some 16) rfl Y ?_ ?_;focus(simpa[Act.eval]using HYB.out))
    |(refine wpList_store_rowTo rfl _ _ _ rfl rfl W1.heap.size Y rfl rfl 70 Z (heap_alloc_new W1 _) (szRdr13 HYS.out) (by rw[HZS.out,HYS.out]) HYO.out ?_;change wpList _ _ _ _ _ (mkV W1 Z Y 70);rw[←HW2.out,HS1.out])
    |fail)
   refine(HWA.out true).mono ?_
   rintro e w3 ⟨rfl,r3,f3⟩
   have r3':Rdr w3 (h+1) A l c (n,0):=r3
   have ht3:=HT2.out.fr f3 (by show¬h=h+1;omega)
   have hs3:h+2≤w3.heap.size:=by have:=f3.size;have:=HSZ2.out;omega
   obtain⟨x,hx⟩:∃x:Lie,x=⟨w3,h+1,A,l,c,w3.heap.size,m,[],w3.heap.size,⟨rfl,by omega⟩,Nat.le_refl _⟩:=⟨_,rfl⟩
   have htk:=ptokens_x x (by rw[hx]) (by rw[hx]) g n (by rw[hx];exact r3') (by rw[hx];exact HRF.out.fr f3) (by rw[hx];exact hl) (by rw[hx];exact hn8) (by rw[hx];exact hm) R (by rw[hx];exact HRM.out)
   have htk2:Calls Tryz.prog 56 #[.pointer (some ⟨h+1,0,none⟩),.int .i64 (m:Int)] w3 fun e w'=>∃(T:List Tok) (qa:Nat) (qe:Int) (B:Option Addr) (k:Nat),e=.returned (.slice B T.length k)∧TkR w' w'.heap.size B T.length k T∧Rdr w' (h+1) A l c (qa,qe)∧Fr (At (h+1)) w3 w'∧(TBad m R T (qa,qe)∨TFin m R T (qa,qe)):=by
    rw[hx]at htk
    refine htk.mono ?_
    rintro e w' ⟨T,⟨qa,qe⟩,B,k,e1,e2,e3,e4,e5⟩
    exact⟨T,qa,qe,B,k,e1,e2,e3,e4,e5⟩
   have HTK:=Lib.hid htk2;have HT3:=Lib.hid ht3;have HF3:=Lib.hid f3;have HS3:=Lib.hid hs3
   clear r3 r3' f3 ht3 hs3 hx htk htk2 x HWA
   go_wp2_with fail
   refine HTK.out.mono ?_
   rintro e w4 ⟨T,qa,qe,B,k,rfl,tk4,r4,f4,hfin⟩
   have hok:∃M,TOk T M∧M≤m:=by rcases hfin with h|h;exact h.ok;exact h.ok
   obtain⟨M,hM1,hM2⟩:=hok
   have hout:T.foldl stpT []=R.1:=by rcases hfin with h|h;exact h.out;exact h.out
   have herr:qe=R.2.2:=by rcases hfin with h|h;exact h.same;exact h.err.trans h.same.symm
   have hpl:R.2.2=0→qa=R.2.1:=fun e=>by rcases hfin with h|h;exact absurd (herr.trans e) h.err;exact h.place
   have hpy:=play8_any w4 none 0 0 nof13 B T.length k T (ByR.nil _ _ _ (fun j=>by unfold nof13;omega)) tk4 (fun t ht=>by
    obtain⟨m1,m2⟩:=hM1.may t ht
    rcases mayT_is m1 with h|h
    ·exact⟨m2,by omega,by omega⟩
    ·exact⟨m2,by omega,by omega⟩)
   rw[hM1.play (by omega),hout]at hpy
   have ht4:=HT3.out.fr f4 (by show¬h=h+1;omega)
   have HPY:=Lib.hid hpy;have HT4:=Lib.hid ht4;have HR4:=Lib.hid r4;have HF4:=Lib.hid (HF3.out.trans f4);have HER:=Lib.hid herr;have HPL:=Lib.hid hpl
   have HS4:Hid (h+2≤w4.heap.size):=Lib.hid (Nat.le_trans HS3.out f4.size)
   clear tk4 r4 f4 hfin hM1 hM2 hout herr hpl hpy ht4 HTK HT3 HF3
   go_wp2_with fail
   refine HPY.out.mono ?_
   rintro e w5 ⟨A5,n5,c5,rfl,hn5,hby,hb5,hnb⟩
   have ht5:=HT4.out.below hb5 HT4.out.lt
   have hr5:BoxC w5 (h+1) (rdE A l c (qa:Int) qe) 70:=BoxC.below HR4.out hb5 HR4.out.lt
   obtain⟨S,hS⟩:∃S,S=rdE A l c (qa:Int) qe:=⟨_,rfl⟩
   rw[←hS]at hr5
   have HSS:Hid (S.size=3):=Lib.hid (by rw[hS];rfl)
   have HSO:Hid (S.all (·.oneCell')=true):=Lib.hid (by rw[hS];exact rdE_one ..)
   have HX5:Hid (BoxC w5.drew (h+1) S 70):=Lib.hid hr5
   have HX6:Hid (BoxC (w5.drew.setRow h S) (h+1) S 70):=Lib.hid (BoxC.rowO HX5.out (by omega) _)
   have HT5:Hid (BoxC w5.drew h Z 70):=Lib.hid ht5
   have HFIN:Hid (TellP w g l (n:Int) (m:Int) R (.returned (.tuple #[.slice A5 n5 c5,.agg S])) (w5.drew.setRow h S)):=Lib.hid (by
    refine⟨A5,c5,A,l,c,(qa:Int),?_,?_,?_,?_,?_⟩
    ·rw[HTO.out,HTE.out,hS,hn5,HER.out]
    ·rw[HTO.out,←hn5]
     have hd:RdF (At h) w5.drew A5 n5 (lst R.1):=⟨hby.1,fun b o h0 e (hb:b=h)=>by
      obtain⟨g0,o0,cur,e1,e2,_⟩:=hnb h0
      rw[e]at e1;cases e1
      have:=HS4.out;omega⟩
     exact⟨(hd.fr (Fr.row _ h S)).1,hby.2⟩
    ·rw[HTO.out,←hn5]
     intro h0
     obtain⟨g0,o0,cur,e1,e2,e3⟩:=hnb h0
     refine⟨g0,o0,cur,e1,by have:=HS4.out;have:=HH.out;omega,?_⟩
     exact(setRow_other _ _ _ _ (by have:=HS4.out;omega)).trans e3
    ·have b1:Below h w w5:=HB2.out.trans (((HF4.out.below (B:=h) (fun j (e:j=h+1)=>by omega) (by have:=HSZ2.out;omega))).trans (hb5.mono (by have:=HS4.out;omega)))
     rw[←HH.out];exact below_rowC (Below.drew b1) (Nat.le_refl _) _
    ·rw[HTE.out];intro e;rw[HPL.out e])
   clear hn5 hby hb5 hnb ht5 hr5 hS HPY HR4 HF4 HER HPL
   go_wp2_with fail
   refine wp_region_two 3 (twT [fun v=>v=.slice A5 n5 c5,fun v=>v=.agg S,fun v=>v=.slice A5 n5 c5,fun v=>v=undef]) ((w5.drew).setRow h S) (by kernel_rfl) (by kernel_rfl) ?_ ?_
   case refine_1=>
    refine TwAll.cons (fun aa wv hw ha hS Kk Qq hK=>tw_val (k:=0) (s:=3) (by decide) (tab_free rfl) (.slice A5 n5 c5) (by have e:=(show aa.eval (.tmp 9)=.slice A5 n5 c5 from((ha 9 (by kernel_rfl)).trans rfl));unfold execOp;simp only[e];rfl) hK rfl) ?_
    refine TwAll.cons (fun aa wv hw ha hS Kk Qq hK=>tw_val (k:=1) (s:=3) (by decide) (tab_free rfl) (.agg S) (by have e:=(show aa.eval (.tmp 8)=.pointer (some ⟨h+1,0,none⟩)from((ha 8 (by kernel_rfl)).trans rfl));have hx:BoxC wv (h+1) S 70:=by {rcases hw with hw|⟨hw,_,_⟩<;>first|(rw[hw];exact HX5.out)|(rw[hw];exact HX6.out)};have hl:=run_loadVar_row (P:=Tryz.prog) wv (h+1) 70 70 S (0,0) _ hx Tryz.underlying70 rfl (szRdr13 HSS.out);unfold execOp;simp only[e,Instr.loadAt,Instr.sureAddr,Sem.run_bind,Sem.run_pure,Result.andThen_ok,hl]) hK rfl) ?_
    refine TwAll.cons (fun aa wv hw ha hS Kk Qq hK=>tw_val (k:=2) (s:=3) (by decide) (tab_free rfl) (.slice A5 n5 c5) (by have e:=(show aa.eval (.tmp 30)=.slice A5 n5 c5 from hS 0 30 (by kernel_rfl) rfl);unfold execOp;simp only[e];rfl) hK rfl) ?_
    refine TwAll.cons (fun aa wv hw ha hS Kk Qq hK=>tw_store (s:=3) (tab_free rfl) rfl (by have e1:=(show aa.eval (.tmp 7)=.pointer (some ⟨h,0,none⟩)from((ha 7 (by kernel_rfl)).trans rfl));have e2:=(show aa.eval (.tmp 31)=.agg S from hS 1 31 (by kernel_rfl) rfl);have hww:wv=w5.drew:=by {rcases hw with hw|⟨_,hw,_⟩<;>first|exact hw|exact absurd rfl hw};subst hww;have hst:=run_storeVar_row (P:=Tryz.prog) (w5.drew) h 70 70 Z S HT5.out (szRdr13 HSS.out) (by rw[HZS.out,HSS.out]) HSO.out;unfold execOp;simp only[e1,e2,Instr.storeAt,Instr.sureAddr,Sem.run_bind,Sem.run_pure,Result.andThen_ok,hst]) hK rfl) ?_
    exact TwAll.nil
   intro vals hv
   have e3:vals 6=.slice A5 n5 c5:=hv 2 6 rfl
   clear hv
   simp only[List.map_cons,List.map_nil,putL,Act.put,List.setIfInBounds_toArray,List.set_cons_zero,List.set_cons_succ,e3]
   clear e3
   go_wp2
   refine bodyPost_ret (v:=.tuple #[.slice A5 n5 c5,.agg S]) ((cell_rdr2 rfl _ _ h S HSS.out rfl (HT5.out.row S)).trans rfl) rfl HFIN.out
  ·have hlimE:limE lim=2:=by unfold limE;rw[if_pos (by omega)]
   have HTE:Hid (tellE g l (n:Int) lim R=2):=Lib.hid (by unfold tellE;rw[←HQ.out,if_neg (fun h=>h rfl),hlimE,if_pos (by decide)])
   have HTO:Hid (tellO g l (n:Int) lim R=[]):=Lib.hid (by unfold tellO;rw[←HQ.out,if_neg (fun h=>h rfl),hlimE,if_pos (by decide)])
   have d1:decide ((0:Int)≤lim)=true:=decY z1
   have d2:decide (lim≤131072)=false:=decN z2
   clear hlimE
   go_enter Tryz.func36,Tryz.ntmps36
   go_wp2_with (first
    |(rw[←HW1.out,←HH.out])
    |fail)
   refine HAS.out.mono ?_
   rintro e w9 ⟨rfl,rfl⟩
   go_wp2_with (first
    |(refine wpList_buildTo rfl 70 #[(0,.tmp 11),(1,.tmp 12),(2,.tmp 15)] rfl (some 16) rfl Y ?_ ?_;focus(simpa[Act.eval]using HYB.out))
    |(refine wpList_store_rowTo rfl _ _ _ rfl rfl W1.heap.size Y rfl rfl 70 Z (heap_alloc_new W1 _) (szRdr13 HYS.out) (by rw[HZS.out,HYS.out]) HYO.out ?_;change wpList _ _ _ _ _ (mkV W1 Z Y 70);rw[←HW2.out,HS1.out])
    |fail)
   refine(HWA.out false).mono ?_
   rintro e w3 ⟨rfl,r3,f3⟩
   have HX3:Hid (BoxC w3 (h+1) (rdE A l c (n:Int) 2) 70):=Lib.hid r3
   have HT3:=Lib.hid (HT2.out.fr f3 (by show¬h=h+1;omega))
   have HB3:=Lib.hid (HB2.out.trans (f3.below (B:=h) (fun j (e:j=h+1)=>by omega) (by have:=HSZ2.out;omega)))
   have hE:(2:Int)≠0:=by decide
   have HE0:=Lib.hid hE
   clear r3 f3 HWA
   have HTK:=Lib.hid (ptokens_err w3 (h+1) A l c (n:Int) 2 HX3.out hE lim)
   clear hE
   go_wp2_with fail
   refine HTK.out.mono ?_
   rintro e w4 ⟨rfl,hb4⟩
   have hpy:=play8_any w4 none 0 0 nof13 none 0 0 [] (ByR.nil _ _ _ (fun j=>by unfold nof13;omega)) (TkR.nil _ _) (fun t ht=>by simp at ht)
   rw[show plyO nof13 0 []=(0,[])from rfl]at hpy
   have HPY:=Lib.hid hpy;have HT4:=Lib.hid (HT3.out.below hb4 HT3.out.lt);have HX4:=Lib.hid (HX3.out.below hb4 HX3.out.lt)
   have HB4:=Lib.hid (HB3.out.trans (hb4.mono (by have:=HX3.out.lt;omega)))
   clear hpy hb4 HTK
   go_wp2_with fail
   refine HPY.out.mono ?_
   rintro e w5 ⟨A5,n5,c5,rfl,hn5,hby,hb5,hnb⟩
   have hn0:n5=0:=hn5
   subst hn0
   obtain⟨S,hS⟩:∃S,S=rdE A l c (n:Int) 2:=⟨_,rfl⟩
   have hr5:BoxC w5 (h+1) S 70:=by rw[hS];exact HX4.out.below hb5 HX4.out.lt
   have HSS:Hid (S.size=3):=Lib.hid (by rw[hS];rfl)
   have HSO:Hid (S.all (·.oneCell')=true):=Lib.hid (by rw[hS];exact rdE_one ..)
   have HX5:Hid (BoxC w5.drew (h+1) S 70):=Lib.hid hr5
   have HX6:Hid (BoxC (w5.drew.setRow h S) (h+1) S 70):=Lib.hid (BoxC.rowO HX5.out (by omega) _)
   have ht5:BoxC w5 h Z 70:=HT4.out.below hb5 HT4.out.lt
   have HT5:Hid (BoxC w5.drew h Z 70):=Lib.hid ht5
   have HFIN:Hid (TellP w g l (n:Int) lim R (.returned (.tuple #[.slice A5 0 c5,.agg S])) (w5.drew.setRow h S)):=Lib.hid (by
    refine⟨A5,c5,A,l,c,(n:Int),?_,?_,?_,?_,?_⟩
    ·rw[HTO.out,HTE.out,hS];rfl
    ·rw[HTO.out]
     exact⟨⟨hby.1.1,fun h0=>absurd h0 (Nat.lt_irrefl 0)⟩,hby.2⟩
    ·rw[HTO.out];exact NewB.nil _ _ _
    ·have b1:Below h w w5:=HB4.out.trans (hb5.mono (by have:=HX4.out.lt;omega))
     rw[←HH.out];exact below_rowC (Below.drew b1) (Nat.le_refl _) _
    ·rw[HTE.out];intro e;exact absurd e HE0.out)
   clear hn5 hby hb5 hnb hr5 hS HPY HX4 ht5
   go_wp2_with fail
   refine wp_region_two 3 (twT [fun v=>v=.slice A5 0 c5,fun v=>v=.agg S,fun v=>v=.slice A5 0 c5,fun v=>v=undef]) ((w5.drew).setRow h S) (by kernel_rfl) (by kernel_rfl) ?_ ?_
   case refine_1=>
    refine TwAll.cons (fun aa wv hw ha hS Kk Qq hK=>tw_val (k:=0) (s:=3) (by decide) (tab_free rfl) (.slice A5 0 c5) (by have e:=(show aa.eval (.tmp 9)=.slice A5 0 c5 from((ha 9 (by kernel_rfl)).trans rfl));unfold execOp;simp only[e];rfl) hK rfl) ?_
    refine TwAll.cons (fun aa wv hw ha hS Kk Qq hK=>tw_val (k:=1) (s:=3) (by decide) (tab_free rfl) (.agg S) (by have e:=(show aa.eval (.tmp 8)=.pointer (some ⟨h+1,0,none⟩)from((ha 8 (by kernel_rfl)).trans rfl));have hx:BoxC wv (h+1) S 70:=by {rcases hw with hw|⟨hw,_,_⟩<;>first|(rw[hw];exact HX5.out)|(rw[hw];exact HX6.out)};have hl:=run_loadVar_row (P:=Tryz.prog) wv (h+1) 70 70 S (0,0) _ hx Tryz.underlying70 rfl (szRdr13 HSS.out);unfold execOp;simp only[e,Instr.loadAt,Instr.sureAddr,Sem.run_bind,Sem.run_pure,Result.andThen_ok,hl]) hK rfl) ?_
    refine TwAll.cons (fun aa wv hw ha hS Kk Qq hK=>tw_val (k:=2) (s:=3) (by decide) (tab_free rfl) (.slice A5 0 c5) (by have e:=(show aa.eval (.tmp 30)=.slice A5 0 c5 from hS 0 30 (by kernel_rfl) rfl);unfold execOp;simp only[e];rfl) hK rfl) ?_
    refine TwAll.cons (fun aa wv hw ha hS Kk Qq hK=>tw_store (s:=3) (tab_free rfl) rfl (by have e1:=(show aa.eval (.tmp 7)=.pointer (some ⟨h,0,none⟩)from((ha 7 (by kernel_rfl)).trans rfl));have e2:=(show aa.eval (.tmp 31)=.agg S from hS 1 31 (by kernel_rfl) rfl);have hww:wv=w5.drew:=by {rcases hw with hw|⟨_,hw,_⟩<;>first|exact hw|exact absurd rfl hw};subst hww;have hst:=run_storeVar_row (P:=Tryz.prog) (w5.drew) h 70 70 Z S HT5.out (szRdr13 HSS.out) (by rw[HZS.out,HSS.out]) HSO.out;unfold execOp;simp only[e1,e2,Instr.storeAt,Instr.sureAddr,Sem.run_bind,Sem.run_pure,Result.andThen_ok,hst]) hK rfl) ?_
    exact TwAll.nil
   intro vals hv
   have e3:vals 6=.slice A5 0 c5:=hv 2 6 rfl
   clear hv
   simp only[List.map_cons,List.map_nil,putL,Act.put,List.setIfInBounds_toArray,List.set_cons_zero,List.set_cons_succ,e3]
   clear e3
   go_wp2
   refine bodyPost_ret (v:=.tuple #[.slice A5 0 c5,.agg S]) ((cell_rdr2 rfl _ _ h S HSS.out rfl (HT5.out.row S)).trans rfl) rfl HFIN.out
  ·have hlimE:limE lim=2:=by unfold limE;rw[if_pos (by omega)]
   have HTE:Hid (tellE g l (n:Int) lim R=2):=Lib.hid (by unfold tellE;rw[←HQ.out,if_neg (fun h=>h rfl),hlimE,if_pos (by decide)])
   have HTO:Hid (tellO g l (n:Int) lim R=[]):=Lib.hid (by unfold tellO;rw[←HQ.out,if_neg (fun h=>h rfl),hlimE,if_pos (by decide)])
   have d1:decide ((0:Int)≤lim)=false:=decN z1
   clear hlimE
   go_enter Tryz.func36,Tryz.ntmps36
   go_wp2_with (first
    |(rw[←HW1.out,←HH.out])
    |fail)
   refine HAS.out.mono ?_
   rintro e w9 ⟨rfl,rfl⟩
   go_wp2_with (first
    |(refine wpList_buildTo rfl 70 #[(0,.tmp 11),(1,.tmp 12),(2,.tmp 15)] rfl (some 16) rfl Y ?_ ?_;focus(simpa[Act.eval]using HYB.out))
    |(refine wpList_store_rowTo rfl _ _ _ rfl rfl W1.heap.size Y rfl rfl 70 Z (heap_alloc_new W1 _) (szRdr13 HYS.out) (by rw[HZS.out,HYS.out]) HYO.out ?_;change wpList _ _ _ _ _ (mkV W1 Z Y 70);rw[←HW2.out,HS1.out])
    |fail)
   refine(HWA.out false).mono ?_
   rintro e w3 ⟨rfl,r3,f3⟩
   have HX3:Hid (BoxC w3 (h+1) (rdE A l c (n:Int) 2) 70):=Lib.hid r3
   have HT3:=Lib.hid (HT2.out.fr f3 (by show¬h=h+1;omega))
   have HB3:=Lib.hid (HB2.out.trans (f3.below (B:=h) (fun j (e:j=h+1)=>by omega) (by have:=HSZ2.out;omega)))
   have hE:(2:Int)≠0:=by decide
   have HE0:=Lib.hid hE
   clear r3 f3 HWA
   have HTK:=Lib.hid (ptokens_err w3 (h+1) A l c (n:Int) 2 HX3.out hE lim)
   clear hE
   go_wp2_with fail
   refine HTK.out.mono ?_
   rintro e w4 ⟨rfl,hb4⟩
   have hpy:=play8_any w4 none 0 0 nof13 none 0 0 [] (ByR.nil _ _ _ (fun j=>by unfold nof13;omega)) (TkR.nil _ _) (fun t ht=>by simp at ht)
   rw[show plyO nof13 0 []=(0,[])from rfl]at hpy
   have HPY:=Lib.hid hpy;have HT4:=Lib.hid (HT3.out.below hb4 HT3.out.lt);have HX4:=Lib.hid (HX3.out.below hb4 HX3.out.lt)
   have HB4:=Lib.hid (HB3.out.trans (hb4.mono (by have:=HX3.out.lt;omega)))
   clear hpy hb4 HTK
   go_wp2_with fail
   refine HPY.out.mono ?_
   rintro e w5 ⟨A5,n5,c5,rfl,hn5,hby,hb5,hnb⟩
   have hn0:n5=0:=hn5
   subst hn0
   obtain⟨S,hS⟩:∃S,S=rdE A l c (n:Int) 2:=⟨_,rfl⟩
   have hr5:BoxC w5 (h+1) S 70:=by rw[hS];exact HX4.out.below hb5 HX4.out.lt
   have HSS:Hid (S.size=3):=Lib.hid (by rw[hS];rfl)
   have HSO:Hid (S.all (·.oneCell')=true):=Lib.hid (by rw[hS];exact rdE_one ..)
   have HX5:Hid (BoxC w5.drew (h+1) S 70):=Lib.hid hr5
   have HX6:Hid (BoxC (w5.drew.setRow h S) (h+1) S 70):=Lib.hid (BoxC.rowO HX5.out (by omega) _)
   have ht5:BoxC w5 h Z 70:=HT4.out.below hb5 HT4.out.lt
   have HT5:Hid (BoxC w5.drew h Z 70):=Lib.hid ht5
   have HFIN:Hid (TellP w g l (n:Int) lim R (.returned (.tuple #[.slice A5 0 c5,.agg S])) (w5.drew.setRow h S)):=Lib.hid (by
    refine⟨A5,c5,A,l,c,(n:Int),?_,?_,?_,?_,?_⟩
    ·rw[HTO.out,HTE.out,hS];rfl
    ·rw[HTO.out]
     exact⟨⟨hby.1.1,fun h0=>absurd h0 (Nat.lt_irrefl 0)⟩,hby.2⟩
    ·rw[HTO.out];exact NewB.nil _ _ _
    ·have b1:Below h w w5:=HB4.out.trans (hb5.mono (by have:=HX4.out.lt;omega))
     rw[←HH.out];exact below_rowC (Below.drew b1) (Nat.le_refl _) _
    ·rw[HTE.out];intro e;exact absurd e HE0.out)
   clear hn5 hby hb5 hnb hr5 hS HPY HX4 ht5
   go_wp2_with fail
   refine wp_region_two 3 (twT [fun v=>v=.slice A5 0 c5,fun v=>v=.agg S,fun v=>v=.slice A5 0 c5,fun v=>v=undef]) ((w5.drew).setRow h S) (by kernel_rfl) (by kernel_rfl) ?_ ?_
   case refine_1=>
    refine TwAll.cons (fun aa wv hw ha hS Kk Qq hK=>tw_val (k:=0) (s:=3) (by decide) (tab_free rfl) (.slice A5 0 c5) (by have e:=(show aa.eval (.tmp 9)=.slice A5 0 c5 from((ha 9 (by kernel_rfl)).trans rfl));unfold execOp;simp only[e];rfl) hK rfl) ?_
    refine TwAll.cons (fun aa wv hw ha hS Kk Qq hK=>tw_val (k:=1) (s:=3) (by decide) (tab_free rfl) (.agg S) (by have e:=(show aa.eval (.tmp 8)=.pointer (some ⟨h+1,0,none⟩)from((ha 8 (by kernel_rfl)).trans rfl));have hx:BoxC wv (h+1) S 70:=by {rcases hw with hw|⟨hw,_,_⟩<;>first|(rw[hw];exact HX5.out)|(rw[hw];exact HX6.out)};have hl:=run_loadVar_row (P:=Tryz.prog) wv (h+1) 70 70 S (0,0) _ hx Tryz.underlying70 rfl (szRdr13 HSS.out);unfold execOp;simp only[e,Instr.loadAt,Instr.sureAddr,Sem.run_bind,Sem.run_pure,Result.andThen_ok,hl]) hK rfl) ?_
    refine TwAll.cons (fun aa wv hw ha hS Kk Qq hK=>tw_val (k:=2) (s:=3) (by decide) (tab_free rfl) (.slice A5 0 c5) (by have e:=(show aa.eval (.tmp 30)=.slice A5 0 c5 from hS 0 30 (by kernel_rfl) rfl);unfold execOp;simp only[e];rfl) hK rfl) ?_
    refine TwAll.cons (fun aa wv hw ha hS Kk Qq hK=>tw_store (s:=3) (tab_free rfl) rfl (by have e1:=(show aa.eval (.tmp 7)=.pointer (some ⟨h,0,none⟩)from((ha 7 (by kernel_rfl)).trans rfl));have e2:=(show aa.eval (.tmp 31)=.agg S from hS 1 31 (by kernel_rfl) rfl);have hww:wv=w5.drew:=by {rcases hw with hw|⟨_,hw,_⟩<;>first|exact hw|exact absurd rfl hw};subst hww;have hst:=run_storeVar_row (P:=Tryz.prog) (w5.drew) h 70 70 Z S HT5.out (szRdr13 HSS.out) (by rw[HZS.out,HSS.out]) HSO.out;unfold execOp;simp only[e1,e2,Instr.storeAt,Instr.sureAddr,Sem.run_bind,Sem.run_pure,Result.andThen_ok,hst]) hK rfl) ?_
    exact TwAll.nil
   intro vals hv
   have e3:vals 6=.slice A5 0 c5:=hv 2 6 rfl
   clear hv
   simp only[List.map_cons,List.map_nil,putL,Act.put,List.setIfInBounds_toArray,List.set_cons_zero,List.set_cons_succ,e3]
   clear e3
   go_wp2
   refine bodyPost_ret (v:=.tuple #[.slice A5 0 c5,.agg S]) ((cell_rdr2 rfl _ _ h S HSS.out rfl (HT5.out.row S)).trans rfl) rfl HFIN.out
 ·have HTE:Hid (tellE g l a lim R=q):=Lib.hid (by unfold tellE;rw[←HQ.out,if_pos q0])
  have HTO:Hid (tellO g l a lim R=[]):=Lib.hid (by unfold tellO;rw[←HQ.out,if_pos q0])
  have hx2:BoxC W2 (h+1) (rdE A l c a q) 70:=by rw[←HYE.out];exact HY2.out
  have HWA:=Lib.hid fun b=>pwant_err W2 (h+1) A l c a q hx2 q0 b 2
  have HX2:=Lib.hid hx2
  have HE0:=Lib.hid q0
  have hE:=q0
  clear hx2 q0
  rcases HCS.out with⟨z1,z2,hb⟩|⟨z1,z2,hb⟩|⟨z1,hb⟩
  ·have d1:decide ((0:Int)≤lim)=true:=decY z1
   have d2:decide (lim≤131072)=true:=decY z2
   go_enter Tryz.func36,Tryz.ntmps36
   go_wp2_with (first
    |(rw[←HW1.out,←HH.out])
    |fail)
   refine HAS.out.mono ?_
   rintro e w9 ⟨rfl,rfl⟩
   go_wp2_with (first
    |(refine wpList_buildTo rfl 70 #[(0,.tmp 11),(1,.tmp 12),(2,.tmp 15)] rfl (some 16) rfl Y ?_ ?_;focus(simpa[Act.eval]using HYB.out))
    |(refine wpList_store_rowTo rfl _ _ _ rfl rfl W1.heap.size Y rfl rfl 70 Z (heap_alloc_new W1 _) (szRdr13 HYS.out) (by rw[HZS.out,HYS.out]) HYO.out ?_;change wpList _ _ _ _ _ (mkV W1 Z Y 70);rw[←HW2.out,HS1.out])
    |fail)
   refine(HWA.out _).mono ?_
   rintro e w3 ⟨rfl,rfl⟩
   have HX3:=HX2
   have HT3:=HT2
   have HB3:=HB2
   have HTK:=Lib.hid (ptokens_err W2 (h+1) A l c a q HX3.out hE lim)
   clear hE
   go_wp2_with fail
   refine HTK.out.mono ?_
   rintro e w4 ⟨rfl,hb4⟩
   have hpy:=play8_any w4 none 0 0 nof13 none 0 0 [] (ByR.nil _ _ _ (fun j=>by unfold nof13;omega)) (TkR.nil _ _) (fun t ht=>by simp at ht)
   rw[show plyO nof13 0 []=(0,[])from rfl]at hpy
   have HPY:=Lib.hid hpy;have HT4:=Lib.hid (HT3.out.below hb4 HT3.out.lt);have HX4:=Lib.hid (HX3.out.below hb4 HX3.out.lt)
   have HB4:=Lib.hid (HB3.out.trans (hb4.mono (by have:=HX3.out.lt;omega)))
   clear hpy hb4 HTK
   go_wp2_with fail
   refine HPY.out.mono ?_
   rintro e w5 ⟨A5,n5,c5,rfl,hn5,hby,hb5,hnb⟩
   have hn0:n5=0:=hn5
   subst hn0
   obtain⟨S,hS⟩:∃S,S=rdE A l c a q:=⟨_,rfl⟩
   have hr5:BoxC w5 (h+1) S 70:=by rw[hS];exact HX4.out.below hb5 HX4.out.lt
   have HSS:Hid (S.size=3):=Lib.hid (by rw[hS];rfl)
   have HSO:Hid (S.all (·.oneCell')=true):=Lib.hid (by rw[hS];exact rdE_one ..)
   have HX5:Hid (BoxC w5.drew (h+1) S 70):=Lib.hid hr5
   have HX6:Hid (BoxC (w5.drew.setRow h S) (h+1) S 70):=Lib.hid (BoxC.rowO HX5.out (by omega) _)
   have ht5:BoxC w5 h Z 70:=HT4.out.below hb5 HT4.out.lt
   have HT5:Hid (BoxC w5.drew h Z 70):=Lib.hid ht5
   have HFIN:Hid (TellP w g l a lim R (.returned (.tuple #[.slice A5 0 c5,.agg S])) (w5.drew.setRow h S)):=Lib.hid (by
    refine⟨A5,c5,A,l,c,a,?_,?_,?_,?_,?_⟩
    ·rw[HTO.out,HTE.out,hS];rfl
    ·rw[HTO.out]
     exact⟨⟨hby.1.1,fun h0=>absurd h0 (Nat.lt_irrefl 0)⟩,hby.2⟩
    ·rw[HTO.out];exact NewB.nil _ _ _
    ·have b1:Below h w w5:=HB4.out.trans (hb5.mono (by have:=HX4.out.lt;omega))
     rw[←HH.out];exact below_rowC (Below.drew b1) (Nat.le_refl _) _
    ·rw[HTE.out];intro e;exact absurd e HE0.out)
   clear hn5 hby hb5 hnb hr5 hS HPY HX4 ht5
   go_wp2_with fail
   refine wp_region_two 3 (twT [fun v=>v=.slice A5 0 c5,fun v=>v=.agg S,fun v=>v=.slice A5 0 c5,fun v=>v=undef]) ((w5.drew).setRow h S) (by kernel_rfl) (by kernel_rfl) ?_ ?_
   case refine_1=>
    refine TwAll.cons (fun aa wv hw ha hS Kk Qq hK=>tw_val (k:=0) (s:=3) (by decide) (tab_free rfl) (.slice A5 0 c5) (by have e:=(show aa.eval (.tmp 9)=.slice A5 0 c5 from((ha 9 (by kernel_rfl)).trans rfl));unfold execOp;simp only[e];rfl) hK rfl) ?_
    refine TwAll.cons (fun aa wv hw ha hS Kk Qq hK=>tw_val (k:=1) (s:=3) (by decide) (tab_free rfl) (.agg S) (by have e:=(show aa.eval (.tmp 8)=.pointer (some ⟨h+1,0,none⟩)from((ha 8 (by kernel_rfl)).trans rfl));have hx:BoxC wv (h+1) S 70:=by {rcases hw with hw|⟨hw,_,_⟩<;>first|(rw[hw];exact HX5.out)|(rw[hw];exact HX6.out)};have hl:=run_loadVar_row (P:=Tryz.prog) wv (h+1) 70 70 S (0,0) _ hx Tryz.underlying70 rfl (szRdr13 HSS.out);unfold execOp;simp only[e,Instr.loadAt,Instr.sureAddr,Sem.run_bind,Sem.run_pure,Result.andThen_ok,hl]) hK rfl) ?_
    refine TwAll.cons (fun aa wv hw ha hS Kk Qq hK=>tw_val (k:=2) (s:=3) (by decide) (tab_free rfl) (.slice A5 0 c5) (by have e:=(show aa.eval (.tmp 30)=.slice A5 0 c5 from hS 0 30 (by kernel_rfl) rfl);unfold execOp;simp only[e];rfl) hK rfl) ?_
    refine TwAll.cons (fun aa wv hw ha hS Kk Qq hK=>tw_store (s:=3) (tab_free rfl) rfl (by have e1:=(show aa.eval (.tmp 7)=.pointer (some ⟨h,0,none⟩)from((ha 7 (by kernel_rfl)).trans rfl));have e2:=(show aa.eval (.tmp 31)=.agg S from hS 1 31 (by kernel_rfl) rfl);have hww:wv=w5.drew:=by {rcases hw with hw|⟨_,hw,_⟩<;>first|exact hw|exact absurd rfl hw};subst hww;have hst:=run_storeVar_row (P:=Tryz.prog) (w5.drew) h 70 70 Z S HT5.out (szRdr13 HSS.out) (by rw[HZS.out,HSS.out]) HSO.out;unfold execOp;simp only[e1,e2,Instr.storeAt,Instr.sureAddr,Sem.run_bind,Sem.run_pure,Result.andThen_ok,hst]) hK rfl) ?_
    exact TwAll.nil
   intro vals hv
   have e3:vals 6=.slice A5 0 c5:=hv 2 6 rfl
   clear hv
   simp only[List.map_cons,List.map_nil,putL,Act.put,List.setIfInBounds_toArray,List.set_cons_zero,List.set_cons_succ,e3]
   clear e3
   go_wp2
   refine bodyPost_ret (v:=.tuple #[.slice A5 0 c5,.agg S]) ((cell_rdr2 rfl _ _ h S HSS.out rfl (HT5.out.row S)).trans rfl) rfl HFIN.out
  ·have d1:decide ((0:Int)≤lim)=true:=decY z1
   have d2:decide (lim≤131072)=false:=decN z2
   go_enter Tryz.func36,Tryz.ntmps36
   go_wp2_with (first
    |(rw[←HW1.out,←HH.out])
    |fail)
   refine HAS.out.mono ?_
   rintro e w9 ⟨rfl,rfl⟩
   go_wp2_with (first
    |(refine wpList_buildTo rfl 70 #[(0,.tmp 11),(1,.tmp 12),(2,.tmp 15)] rfl (some 16) rfl Y ?_ ?_;focus(simpa[Act.eval]using HYB.out))
    |(refine wpList_store_rowTo rfl _ _ _ rfl rfl W1.heap.size Y rfl rfl 70 Z (heap_alloc_new W1 _) (szRdr13 HYS.out) (by rw[HZS.out,HYS.out]) HYO.out ?_;change wpList _ _ _ _ _ (mkV W1 Z Y 70);rw[←HW2.out,HS1.out])
    |fail)
   refine(HWA.out _).mono ?_
   rintro e w3 ⟨rfl,rfl⟩
   have HX3:=HX2
   have HT3:=HT2
   have HB3:=HB2
   have HTK:=Lib.hid (ptokens_err W2 (h+1) A l c a q HX3.out hE lim)
   clear hE
   go_wp2_with fail
   refine HTK.out.mono ?_
   rintro e w4 ⟨rfl,hb4⟩
   have hpy:=play8_any w4 none 0 0 nof13 none 0 0 [] (ByR.nil _ _ _ (fun j=>by unfold nof13;omega)) (TkR.nil _ _) (fun t ht=>by simp at ht)
   rw[show plyO nof13 0 []=(0,[])from rfl]at hpy
   have HPY:=Lib.hid hpy;have HT4:=Lib.hid (HT3.out.below hb4 HT3.out.lt);have HX4:=Lib.hid (HX3.out.below hb4 HX3.out.lt)
   have HB4:=Lib.hid (HB3.out.trans (hb4.mono (by have:=HX3.out.lt;omega)))
   clear hpy hb4 HTK
   go_wp2_with fail
   refine HPY.out.mono ?_
   rintro e w5 ⟨A5,n5,c5,rfl,hn5,hby,hb5,hnb⟩
   have hn0:n5=0:=hn5
   subst hn0
   obtain⟨S,hS⟩:∃S,S=rdE A l c a q:=⟨_,rfl⟩
   have hr5:BoxC w5 (h+1) S 70:=by rw[hS];exact HX4.out.below hb5 HX4.out.lt
   have HSS:Hid (S.size=3):=Lib.hid (by rw[hS];rfl)
   have HSO:Hid (S.all (·.oneCell')=true):=Lib.hid (by rw[hS];exact rdE_one ..)
   have HX5:Hid (BoxC w5.drew (h+1) S 70):=Lib.hid hr5
   have HX6:Hid (BoxC (w5.drew.setRow h S) (h+1) S 70):=Lib.hid (BoxC.rowO HX5.out (by omega) _)
   have ht5:BoxC w5 h Z 70:=HT4.out.below hb5 HT4.out.lt
   have HT5:Hid (BoxC w5.drew h Z 70):=Lib.hid ht5
   have HFIN:Hid (TellP w g l a lim R (.returned (.tuple #[.slice A5 0 c5,.agg S])) (w5.drew.setRow h S)):=Lib.hid (by
    refine⟨A5,c5,A,l,c,a,?_,?_,?_,?_,?_⟩
    ·rw[HTO.out,HTE.out,hS];rfl
    ·rw[HTO.out]
     exact⟨⟨hby.1.1,fun h0=>absurd h0 (Nat.lt_irrefl 0)⟩,hby.2⟩
    ·rw[HTO.out];exact NewB.nil _ _ _
    ·have b1:Below h w w5:=HB4.out.trans (hb5.mono (by have:=HX4.out.lt;omega))
     rw[←HH.out];exact below_rowC (Below.drew b1) (Nat.le_refl _) _
    ·rw[HTE.out];intro e;exact absurd e HE0.out)
   clear hn5 hby hb5 hnb hr5 hS HPY HX4 ht5
   go_wp2_with fail
   refine wp_region_two 3 (twT [fun v=>v=.slice A5 0 c5,fun v=>v=.agg S,fun v=>v=.slice A5 0 c5,fun v=>v=undef]) ((w5.drew).setRow h S) (by kernel_rfl) (by kernel_rfl) ?_ ?_
   case refine_1=>
    refine TwAll.cons (fun aa wv hw ha hS Kk Qq hK=>tw_val (k:=0) (s:=3) (by decide) (tab_free rfl) (.slice A5 0 c5) (by have e:=(show aa.eval (.tmp 9)=.slice A5 0 c5 from((ha 9 (by kernel_rfl)).trans rfl));unfold execOp;simp only[e];rfl) hK rfl) ?_
    refine TwAll.cons (fun aa wv hw ha hS Kk Qq hK=>tw_val (k:=1) (s:=3) (by decide) (tab_free rfl) (.agg S) (by have e:=(show aa.eval (.tmp 8)=.pointer (some ⟨h+1,0,none⟩)from((ha 8 (by kernel_rfl)).trans rfl));have hx:BoxC wv (h+1) S 70:=by {rcases hw with hw|⟨hw,_,_⟩<;>first|(rw[hw];exact HX5.out)|(rw[hw];exact HX6.out)};have hl:=run_loadVar_row (P:=Tryz.prog) wv (h+1) 70 70 S (0,0) _ hx Tryz.underlying70 rfl (szRdr13 HSS.out);unfold execOp;simp only[e,Instr.loadAt,Instr.sureAddr,Sem.run_bind,Sem.run_pure,Result.andThen_ok,hl]) hK rfl) ?_
    refine TwAll.cons (fun aa wv hw ha hS Kk Qq hK=>tw_val (k:=2) (s:=3) (by decide) (tab_free rfl) (.slice A5 0 c5) (by have e:=(show aa.eval (.tmp 30)=.slice A5 0 c5 from hS 0 30 (by kernel_rfl) rfl);unfold execOp;simp only[e];rfl) hK rfl) ?_
    refine TwAll.cons (fun aa wv hw ha hS Kk Qq hK=>tw_store (s:=3) (tab_free rfl) rfl (by have e1:=(show aa.eval (.tmp 7)=.pointer (some ⟨h,0,none⟩)from((ha 7 (by kernel_rfl)).trans rfl));have e2:=(show aa.eval (.tmp 31)=.agg S from hS 1 31 (by kernel_rfl) rfl);have hww:wv=w5.drew:=by {rcases hw with hw|⟨_,hw,_⟩<;>first|exact hw|exact absurd rfl hw};subst hww;have hst:=run_storeVar_row (P:=Tryz.prog) (w5.drew) h 70 70 Z S HT5.out (szRdr13 HSS.out) (by rw[HZS.out,HSS.out]) HSO.out;unfold execOp;simp only[e1,e2,Instr.storeAt,Instr.sureAddr,Sem.run_bind,Sem.run_pure,Result.andThen_ok,hst]) hK rfl) ?_
    exact TwAll.nil
   intro vals hv
   have e3:vals 6=.slice A5 0 c5:=hv 2 6 rfl
   clear hv
   simp only[List.map_cons,List.map_nil,putL,Act.put,List.setIfInBounds_toArray,List.set_cons_zero,List.set_cons_succ,e3]
   clear e3
   go_wp2
   refine bodyPost_ret (v:=.tuple #[.slice A5 0 c5,.agg S]) ((cell_rdr2 rfl _ _ h S HSS.out rfl (HT5.out.row S)).trans rfl) rfl HFIN.out
  ·have d1:decide ((0:Int)≤lim)=false:=decN z1
   go_enter Tryz.func36,Tryz.ntmps36
   go_wp2_with (first
    |(rw[←HW1.out,←HH.out])
    |fail)
   refine HAS.out.mono ?_
   rintro e w9 ⟨rfl,rfl⟩
   go_wp2_with (first
    |(refine wpList_buildTo rfl 70 #[(0,.tmp 11),(1,.tmp 12),(2,.tmp 15)] rfl (some 16) rfl Y ?_ ?_;focus(simpa[Act.eval]using HYB.out))
    |(refine wpList_store_rowTo rfl _ _ _ rfl rfl W1.heap.size Y rfl rfl 70 Z (heap_alloc_new W1 _) (szRdr13 HYS.out) (by rw[HZS.out,HYS.out]) HYO.out ?_;change wpList _ _ _ _ _ (mkV W1 Z Y 70);rw[←HW2.out,HS1.out])
    |fail)
   refine(HWA.out _).mono ?_
   rintro e w3 ⟨rfl,rfl⟩
   have HX3:=HX2
   have HT3:=HT2
   have HB3:=HB2
   have HTK:=Lib.hid (ptokens_err W2 (h+1) A l c a q HX3.out hE lim)
   clear hE
   go_wp2_with fail
   refine HTK.out.mono ?_
   rintro e w4 ⟨rfl,hb4⟩
   have hpy:=play8_any w4 none 0 0 nof13 none 0 0 [] (ByR.nil _ _ _ (fun j=>by unfold nof13;omega)) (TkR.nil _ _) (fun t ht=>by simp at ht)
   rw[show plyO nof13 0 []=(0,[])from rfl]at hpy
   have HPY:=Lib.hid hpy;have HT4:=Lib.hid (HT3.out.below hb4 HT3.out.lt);have HX4:=Lib.hid (HX3.out.below hb4 HX3.out.lt)
   have HB4:=Lib.hid (HB3.out.trans (hb4.mono (by have:=HX3.out.lt;omega)))
   clear hpy hb4 HTK
   go_wp2_with fail
   refine HPY.out.mono ?_
   rintro e w5 ⟨A5,n5,c5,rfl,hn5,hby,hb5,hnb⟩
   have hn0:n5=0:=hn5
   subst hn0
   obtain⟨S,hS⟩:∃S,S=rdE A l c a q:=⟨_,rfl⟩
   have hr5:BoxC w5 (h+1) S 70:=by rw[hS];exact HX4.out.below hb5 HX4.out.lt
   have HSS:Hid (S.size=3):=Lib.hid (by rw[hS];rfl)
   have HSO:Hid (S.all (·.oneCell')=true):=Lib.hid (by rw[hS];exact rdE_one ..)
   have HX5:Hid (BoxC w5.drew (h+1) S 70):=Lib.hid hr5
   have HX6:Hid (BoxC (w5.drew.setRow h S) (h+1) S 70):=Lib.hid (BoxC.rowO HX5.out (by omega) _)
   have ht5:BoxC w5 h Z 70:=HT4.out.below hb5 HT4.out.lt
   have HT5:Hid (BoxC w5.drew h Z 70):=Lib.hid ht5
   have HFIN:Hid (TellP w g l a lim R (.returned (.tuple #[.slice A5 0 c5,.agg S])) (w5.drew.setRow h S)):=Lib.hid (by
    refine⟨A5,c5,A,l,c,a,?_,?_,?_,?_,?_⟩
    ·rw[HTO.out,HTE.out,hS];rfl
    ·rw[HTO.out]
     exact⟨⟨hby.1.1,fun h0=>absurd h0 (Nat.lt_irrefl 0)⟩,hby.2⟩
    ·rw[HTO.out];exact NewB.nil _ _ _
    ·have b1:Below h w w5:=HB4.out.trans (hb5.mono (by have:=HX4.out.lt;omega))
     rw[←HH.out];exact below_rowC (Below.drew b1) (Nat.le_refl _) _
    ·rw[HTE.out];intro e;exact absurd e HE0.out)
   clear hn5 hby hb5 hnb hr5 hS HPY HX4 ht5
   go_wp2_with fail
   refine wp_region_two 3 (twT [fun v=>v=.slice A5 0 c5,fun v=>v=.agg S,fun v=>v=.slice A5 0 c5,fun v=>v=undef]) ((w5.drew).setRow h S) (by kernel_rfl) (by kernel_rfl) ?_ ?_
   case refine_1=>
    refine TwAll.cons (fun aa wv hw ha hS Kk Qq hK=>tw_val (k:=0) (s:=3) (by decide) (tab_free rfl) (.slice A5 0 c5) (by have e:=(show aa.eval (.tmp 9)=.slice A5 0 c5 from((ha 9 (by kernel_rfl)).trans rfl));unfold execOp;simp only[e];rfl) hK rfl) ?_
    refine TwAll.cons (fun aa wv hw ha hS Kk Qq hK=>tw_val (k:=1) (s:=3) (by decide) (tab_free rfl) (.agg S) (by have e:=(show aa.eval (.tmp 8)=.pointer (some ⟨h+1,0,none⟩)from((ha 8 (by kernel_rfl)).trans rfl));have hx:BoxC wv (h+1) S 70:=by {rcases hw with hw|⟨hw,_,_⟩<;>first|(rw[hw];exact HX5.out)|(rw[hw];exact HX6.out)};have hl:=run_loadVar_row (P:=Tryz.prog) wv (h+1) 70 70 S (0,0) _ hx Tryz.underlying70 rfl (szRdr13 HSS.out);unfold execOp;simp only[e,Instr.loadAt,Instr.sureAddr,Sem.run_bind,Sem.run_pure,Result.andThen_ok,hl]) hK rfl) ?_
    refine TwAll.cons (fun aa wv hw ha hS Kk Qq hK=>tw_val (k:=2) (s:=3) (by decide) (tab_free rfl) (.slice A5 0 c5) (by have e:=(show aa.eval (.tmp 30)=.slice A5 0 c5 from hS 0 30 (by kernel_rfl) rfl);unfold execOp;simp only[e];rfl) hK rfl) ?_
    refine TwAll.cons (fun aa wv hw ha hS Kk Qq hK=>tw_store (s:=3) (tab_free rfl) rfl (by have e1:=(show aa.eval (.tmp 7)=.pointer (some ⟨h,0,none⟩)from((ha 7 (by kernel_rfl)).trans rfl));have e2:=(show aa.eval (.tmp 31)=.agg S from hS 1 31 (by kernel_rfl) rfl);have hww:wv=w5.drew:=by {rcases hw with hw|⟨_,hw,_⟩<;>first|exact hw|exact absurd rfl hw};subst hww;have hst:=run_storeVar_row (P:=Tryz.prog) (w5.drew) h 70 70 Z S HT5.out (szRdr13 HSS.out) (by rw[HZS.out,HSS.out]) HSO.out;unfold execOp;simp only[e1,e2,Instr.storeAt,Instr.sureAddr,Sem.run_bind,Sem.run_pure,Result.andThen_ok,hst]) hK rfl) ?_
    exact TwAll.nil
   intro vals hv
   have e3:vals 6=.slice A5 0 c5:=hv 2 6 rfl
   clear hv
   simp only[List.map_cons,List.map_nil,putL,Act.put,List.setIfInBounds_toArray,List.set_cons_zero,List.set_cons_succ,e3]
   clear e3
   go_wp2
   refine bodyPost_ret (v:=.tuple #[.slice A5 0 c5,.agg S]) ((cell_rdr2 rfl _ _ h S HSS.out rfl (HT5.out.row S)).trans rfl) rfl HFIN.out
end Go.Proofs.YtcmpmighjglnpaaGreat
namespace Go.Proofs.YtcmpmighjglnpaaGreat
open Go.RowKit
theorem infl_tell{g:Nat→Nat}{L:Nat}{a lim:Int}(hL:asked13 L a=0→a.toNat≤8*L){R:List Nat×Nat×Int}(hR:R=toldA g L lim.toNat none [] a.toNat):
  (tellE g L a lim R≠0→inflR g L a lim=([],0,tellE g L a lim R))∧(tellE g L a lim R=0→inflR g L a lim=(tellO g L a lim R,R.2.1,0)):=by
 unfold tellE tellO inflR
 by_cases h1:asked13 L a≠0
 ·rw[if_pos h1,if_pos h1,if_pos h1];exact⟨fun _=>rfl,fun h=>absurd h h1⟩
 ·rw[if_neg h1,if_neg h1,if_neg h1]
  by_cases h2:limE lim≠0
  ·rw[if_pos h2,if_pos h2,if_pos h2];exact⟨fun _=>rfl,fun h=>absurd h h2⟩
  ·rw[if_neg h2,if_neg h2,if_neg h2]
   rw[told_A (hL (by omega)) (mu_le _ _ _),←hR]
   unfold inflT
   by_cases h3:R.2.2≠0
   ·rw[if_pos h3];exact⟨fun _=>rfl,fun h=>absurd h h3⟩
   ·rw[if_neg h3];exact⟨fun h=>absurd h h3,fun _=>rfl⟩
theorem pref_tell{g:Nat→Nat}{L:Nat}{lim:Int}{R:List Nat×Nat×Int}(hR:R=toldA g L lim.toNat none [] 0):
  prefR g L lim=if tellE g L 0 lim R≠0∧tellE g L 0 lim R≠10 then([],tellE g L 0 lim R)else(tellO g L 0 lim R,0):=by
 unfold tellE tellO prefR
 by_cases h1:asked13 L 0≠0
 ·have h4:asked13 L 0≠10:=by unfold asked13;split<;>(try split)<;>decide
  rw[if_pos h1,if_pos h1,if_pos h1,if_pos ⟨h1,h4⟩]
 ·rw[if_neg h1,if_neg h1,if_neg h1]
  by_cases h2:limE lim≠0
  ·have h4:limE lim≠10:=by unfold limE;split<;>decide
   rw[if_pos h2,if_pos h2,if_pos h2,if_pos ⟨h2,h4⟩]
  ·rw[if_neg h2,if_neg h2,if_neg h2]
   rw[told_A (Nat.zero_le _) (mu_le _ _ _),←hR]
   unfold prefT;rfl
def InfP(w:World)(r:List Nat×Nat×Int)(e:Ending)(w':World):Prop:=∃(A':Option Addr) (c':Nat),e=.returned (.tuple #[.slice A' r.1.length c',.int .i64 (r.2.1:Int),.int .i64 r.2.2])∧ByR w' w'.heap.size A' r.1.length c' (lst r.1)∧NewB w' w.heap.size A' r.1.length∧Below w.heap.size w w'
def PreP(w:World)(r:List Nat×Int)(e:Ending)(w':World):Prop:=∃(A':Option Addr) (c':Nat),e=.returned (.tuple #[.slice A' r.1.length c',.int .i64 r.2])∧ByR w' w'.heap.size A' r.1.length c' (lst r.1)∧NewB w' w.heap.size A' r.1.length∧Below w.heap.size w w'
theorem lst_nil_lt(j:Nat):lst [] j<256:=by unfold lst;simp
theorem pinfl_any(w:World)(A:Option Addr)(l c:Nat)(g:Nat→Nat)(hg:RdB w w.heap.size A l g)(a:Int)(ha1: -9223372036854775808≤a)(ha2:a≤9223372036854775807)(hl:l≤1000000)(lim:Int)(hl1: -9223372036854775808≤lim)(hl2:lim≤9223372036854775807):
  Calls Tryz.prog 16 #[.slice A l c,.int .i64 a,.int .i64 lim] w fun e w'=>InfP w (inflR g l a lim) e w':=by
 have hT:=ptell_any w A l c g hg a ha1 ha2 hl lim hl1 hl2
 obtain⟨R,hR⟩:∃R,R=toldA g l lim.toNat none [] a.toNat:=⟨_,rfl⟩
 obtain⟨i1,i2⟩:=infl_tell (g:=g) (L:=l) (a:=a) (lim:=lim) (fun h=>(asked_ok h).2.2) hR
 rw[←hR]at hT
 unfold TellP at hT
 obtain⟨E,hE⟩:∃E,E=tellE g l a lim R:=⟨_,rfl⟩
 obtain⟨O,hO⟩:∃E,E=tellO g l a lim R:=⟨_,rfl⟩
 rw[←hE,←hO]at hT
 rw[←hE]at i1 i2
 rw[←hO]at i2
 obtain⟨I,hI⟩:∃I,I=inflR g l a lim:=⟨_,rfl⟩
 rw[←hI]at i1 i2⊢
 have HT:=Lib.hid hT;have I1:=Lib.hid i1;have I2:=Lib.hid i2
 obtain⟨Z,hZ⟩:∃Z,Z=rdrA none 0 0 (0,0):=⟨_,rfl⟩
 have hzr:∀u:World,(zeroValue 70).run Tryz.prog u=.ok (.agg Z) u:=by rw[hZ];exact(zero_of_info infoRdr).1
 have HZS:Hid (Z.size=3):=Lib.hid (by rw[hZ];rfl)
 clear hT i1 i2 hE hO hR hg hI hZ
 go_enter Tryz.func16,Tryz.ntmps16
 go_wp2_with fail
 refine HT.out.mono ?_
 rintro e w2 ⟨A',c',A2,l2,c2,pl,rfl,hby,hnb,hb2,hpl⟩
 obtain⟨S,hS⟩:∃S,S=rdE A2 l2 c2 pl E:=⟨_,rfl⟩
 rw[←hS]
 have HSS:Hid (S.size=3):=Lib.hid (by rw[hS];rfl)
 have HSO:Hid (S.all (·.oneCell')=true):=Lib.hid (by rw[hS];exact rdE_one ..)
 obtain⟨t,ht⟩:∃t,t=w2.heap.size:=⟨_,rfl⟩
 obtain⟨W3,hW3⟩:∃W,W=mkV w2 Z S 70:=⟨_,rfl⟩
 have hb3:Below w2.heap.size w2 W3:=by rw[hW3];exact mkV_below _ _ _ _
 have x3:BoxC W3 t S 70:=by rw[hW3,ht];exact mkV_row w2 Z S _
 have ce:W3.cell? ⟨t,2,none⟩=some (.int .i64 E):=by rw[x3.cell,hS];rfl
 have ca:W3.cell? ⟨t,1,none⟩=some (.int .i64 pl):=by rw[x3.cell,hS];rfl
 have HBY:=Lib.hid (hby.below hb3 (Nat.le_refl _)|>.more hb3.size)
 have HNB:Hid (NewB W3 w.heap.size A' O.length):=Lib.hid (fun h0=>by
  obtain⟨g0,o0,cur,e1,e2,e3⟩:=hnb h0
  exact⟨g0,o0,cur,e1,e2,(hb3.block g0 (Array.getElem?_eq_some_iff.1 e3).1).trans e3⟩)
 have HB3:=Lib.hid (hb2.trans (hb3.mono hb2.size));have HW3:=Lib.hid hW3;have HTT:=Lib.hid ht;have HPL:=Lib.hid hpl
 clear hby hnb hb2 hpl hS ht hW3 hb3 x3 HT
 by_cases he:E=0
 ·have d0:(E==0)=true:=by rw[he];rfl
  have d1:(E !=0)=false:=by simp[bne,d0]
  have HI:=Lib.hid (I2.out he)
  have hpl:=HPL.out he
  subst hpl
  clear he
  go_wp2_with (first
   |(refine wpList_store_rowTo rfl _ _ _ rfl rfl w2.heap.size S rfl rfl 70 Z (heap_alloc_new w2 _) (szRdr13 HSS.out) (by rw[HZS.out,HSS.out]) HSO.out ?_;change wpList _ _ _ _ _ (mkV w2 Z S 70);rw[←HW3.out,←HTT.out])
   |fail)
  go_quiet (fail)
  go_wp2
  go_ret3
  have hb:=below_drawN HB3.out nq
  rw[HI.out]
  exact⟨A',c',rfl,HBY.out.below (below_drawN (Below.refl _ W3) nq) (Nat.le_refl _),HNB.out,hb⟩
 ·have d0:(E==0)=false:=beq_eq_false_iff_ne.2 he
  have d1:(E !=0)=true:=by simp[bne,d0]
  have HI:=Lib.hid (I1.out he)
  clear he
  go_wp2_with (first
   |(refine wpList_store_rowTo rfl _ _ _ rfl rfl w2.heap.size S rfl rfl 70 Z (heap_alloc_new w2 _) (szRdr13 HSS.out) (by rw[HZS.out,HSS.out]) HSO.out ?_;change wpList _ _ _ _ _ (mkV w2 Z S 70);rw[←HW3.out,←HTT.out])
   |fail)
  go_quiet (fail)
  go_wp2
  go_ret3
  have hb:=below_drawN HB3.out nq
  rw[HI.out]
  exact⟨none,0,rfl,ByR.nil _ _ _ lst_nil_lt,NewB.nil _ _ _,hb⟩
theorem ppref_any(w:World)(A:Option Addr)(l c:Nat)(g:Nat→Nat)(hg:RdB w w.heap.size A l g)(hl:l≤1000000)(lim:Int)(hl1: -9223372036854775808≤lim)(hl2:lim≤9223372036854775807):
  Calls Tryz.prog 17 #[.slice A l c,.int .i64 lim] w fun e w'=>PreP w (prefR g l lim) e w':=by
 have hT:=ptell_any w A l c g hg 0 (by decide) (by decide) hl lim hl1 hl2
 obtain⟨R,hR⟩:∃R,R=toldA g l lim.toNat none [] 0:=⟨_,rfl⟩
 have i1:=pref_tell (g:=g) (L:=l) (lim:=lim) hR
 rw[show(0:Int).toNat=0 from rfl,←hR]at hT
 unfold TellP at hT
 obtain⟨E,hE⟩:∃E,E=tellE g l 0 lim R:=⟨_,rfl⟩
 obtain⟨O,hO⟩:∃E,E=tellO g l 0 lim R:=⟨_,rfl⟩
 rw[←hE,←hO]at hT
 rw[←hE,←hO]at i1
 obtain⟨I,hI⟩:∃I,I=prefR g l lim:=⟨_,rfl⟩
 rw[←hI]at i1⊢
 have HT:=Lib.hid hT;have I1:=Lib.hid i1
 obtain⟨Z,hZ⟩:∃Z,Z=rdrA none 0 0 (0,0):=⟨_,rfl⟩
 have hzr:∀u:World,(zeroValue 70).run Tryz.prog u=.ok (.agg Z) u:=by rw[hZ];exact(zero_of_info infoRdr).1
 have HZS:Hid (Z.size=3):=Lib.hid (by rw[hZ];rfl)
 clear hT i1 hE hO hR hg hI hZ
 go_enter Tryz.func17,Tryz.ntmps17
 go_wp2_with fail
 refine HT.out.mono ?_
 rintro e w2 ⟨A',c',A2,l2,c2,pl,rfl,hby,hnb,hb2,hpl⟩
 obtain⟨S,hS⟩:∃S,S=rdE A2 l2 c2 pl E:=⟨_,rfl⟩
 rw[←hS]
 have HSS:Hid (S.size=3):=Lib.hid (by rw[hS];rfl)
 have HSO:Hid (S.all (·.oneCell')=true):=Lib.hid (by rw[hS];exact rdE_one ..)
 obtain⟨t,ht⟩:∃t,t=w2.heap.size:=⟨_,rfl⟩
 obtain⟨W3,hW3⟩:∃W,W=mkV w2 Z S 70:=⟨_,rfl⟩
 have hb3:Below w2.heap.size w2 W3:=by rw[hW3];exact mkV_below _ _ _ _
 have x3:BoxC W3 t S 70:=by rw[hW3,ht];exact mkV_row w2 Z S _
 have ce:W3.cell? ⟨t,2,none⟩=some (.int .i64 E):=by rw[x3.cell,hS];rfl
 have ca:W3.cell? ⟨t,1,none⟩=some (.int .i64 pl):=by rw[x3.cell,hS];rfl
 have HBY:=Lib.hid (hby.below hb3 (Nat.le_refl _)|>.more hb3.size)
 have HNB:Hid (NewB W3 w.heap.size A' O.length):=Lib.hid (fun h0=>by
  obtain⟨g0,o0,cur,e1,e2,e3⟩:=hnb h0
  exact⟨g0,o0,cur,e1,e2,(hb3.block g0 (Array.getElem?_eq_some_iff.1 e3).1).trans e3⟩)
 have HB3:=Lib.hid (hb2.trans (hb3.mono hb2.size));have HW3:=Lib.hid hW3;have HTT:=Lib.hid ht;have HPL:=Lib.hid hpl
 clear hby hnb hb2 hpl hS ht hW3 hb3 x3 HT
 by_cases he:E=0
 ·have d0:(E==0)=true:=by rw[he];rfl
  have d1:(E !=0)=false:=by simp[bne,d0]
  have HI:Hid (I=(O,0)):=Lib.hid (by rw[I1.out,if_neg (fun h=>h.1 he)])
  clear he
  go_wp2_with (first
   |(refine wpList_store_rowTo rfl _ _ _ rfl rfl w2.heap.size S rfl rfl 70 Z (heap_alloc_new w2 _) (szRdr13 HSS.out) (by rw[HZS.out,HSS.out]) HSO.out ?_;change wpList _ _ _ _ _ (mkV w2 Z S 70);rw[←HW3.out,←HTT.out])
   |fail)
  go_ret2
  rw[HI.out]
  exact⟨A',c',rfl,HBY.out,HNB.out,HB3.out⟩
 ·have d0:(E==0)=false:=beq_eq_false_iff_ne.2 he
  have d1:(E !=0)=true:=by simp[bne,d0]
  by_cases h10:E=10
  ·have d2:(E==10)=true:=by rw[h10];rfl
   have d3:(E !=10)=false:=by simp[bne,d2]
   have HI:Hid (I=(O,0)):=Lib.hid (by rw[I1.out,if_neg (fun h=>h.2 h10)])
   clear he h10
   go_wp2_with (first
   |(refine wpList_store_rowTo rfl _ _ _ rfl rfl w2.heap.size S rfl rfl 70 Z (heap_alloc_new w2 _) (szRdr13 HSS.out) (by rw[HZS.out,HSS.out]) HSO.out ?_;change wpList _ _ _ _ _ (mkV w2 Z S 70);rw[←HW3.out,←HTT.out])
   |fail)
   go_ret2
   rw[HI.out]
   exact⟨A',c',rfl,HBY.out,HNB.out,HB3.out⟩
  ·have d2:(E==10)=false:=beq_eq_false_iff_ne.2 h10
   have d3:(E !=10)=true:=by simp[bne,d2]
   have HI:Hid (I=([],E)):=Lib.hid (by rw[I1.out,if_pos ⟨he,h10⟩])
   clear he h10
   go_wp2_with (first
   |(refine wpList_store_rowTo rfl _ _ _ rfl rfl w2.heap.size S rfl rfl 70 Z (heap_alloc_new w2 _) (szRdr13 HSS.out) (by rw[HZS.out,HSS.out]) HSO.out ?_;change wpList _ _ _ _ _ (mkV w2 Z S 70);rw[←HW3.out,←HTT.out])
   |fail)
   go_quiet (fail)
   go_wp2
   go_ret2
   have hb:=below_drawN HB3.out nq
   rw[HI.out]
   exact⟨none,0,rfl,ByR.nil _ _ _ lst_nil_lt,NewB.nil _ _ _,hb⟩
end Go.Proofs.YtcmpmighjglnpaaGreat
namespace Go.Proofs.YtcmpmighjglnpaaGreat
open Go.RowKit Go.ChangeShapes Go.WideShapes Go.ChangeAt Go.Joins
theorem infl_as{w:World}{A:Option Addr}{l c:Nat}{g:Nat→Nat}{a lim:Int}(hg:RdB w w.heap.size A l g)(ha1: -9223372036854775808≤a)(ha2:a≤9223372036854775807)(hl:l≤1000000)(hl1: -9223372036854775808≤lim)(hl2:lim≤9223372036854775807){X:List Nat}{n p:Nat}{E:Int}(hr:inflR g l a lim=(X,p,E))(hn:n=X.length):
  Calls Tryz.prog 16 #[.slice A l c,.int .i64 a,.int .i64 lim] w fun e w'=>∃A' c',e=.returned (.tuple #[.slice A' n c',.int .i64 (p:Int),.int .i64 E])∧ByR w' w'.heap.size A' n c' (lst X)∧Below w.heap.size w w':=by
 refine(pinfl_any w A l c g hg a ha1 ha2 hl lim hl1 hl2).mono ?_
 rintro e w' h
 rw[hr]at h
 subst hn
 obtain⟨A',c',h1,h2,_,h3⟩:=h
 exact⟨A',c',h1,h2,h3⟩
theorem pref_as{w:World}{A:Option Addr}{l c:Nat}{g:Nat→Nat}{lim:Int}(hg:RdB w w.heap.size A l g)(hl:l≤1000000)(hl1: -9223372036854775808≤lim)(hl2:lim≤9223372036854775807){X:List Nat}{n:Nat}{E:Int}(hr:prefR g l lim=(X,E))(hn:n=X.length):
  Calls Tryz.prog 17 #[.slice A l c,.int .i64 lim] w fun e w'=>∃A' c',e=.returned (.tuple #[.slice A' n c',.int .i64 E])∧ByR w' w'.heap.size A' n c' (lst X)∧Below w.heap.size w w':=by
 refine(ppref_any w A l c g hg hl lim hl1 hl2).mono ?_
 rintro e w' h
 rw[hr]at h
 subst hn
 obtain⟨A',c',h1,h2,_,h3⟩:=h
 exact⟨A',c',h1,h2,h3⟩
end Go.Proofs.YtcmpmighjglnpaaGreat
