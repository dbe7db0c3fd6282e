/-
  Words and walks.
-/
import Derived.Lib.SlBytesConst
import Derived.Test.Ytcmpmighjglnpaasaaa
import Derived.Test.Ytcmpmighjglnpaasaaz
import Derived.Test.Ytcmpmighjglnpaasaba
set_option maxRecDepth 100000
set_option maxHeartbeats 16000000
namespace Go.Proofs.Ytcmpmighjglnpaa
open Go.RowKit Go.ChangeShapes Go.WideShapes Go.ChangeAt Go.Joins
def strL(L:List Nat):ByteArray:=strB L.length (lst L)
theorem strL_eq(L:List Nat):strL L=⟨(L.map UInt8.ofNat).toArray⟩:=by
 unfold strL strB strOfNums
 congr 1
 congr 1
 apply List.ext_getElem?
 intro j
 simp[lst]
 rcases Nat.lt_or_ge j L.length with h|h
 ·simp[h]
 ·simp[h]
theorem strL_app(L M:List Nat):strL L++strL M=strL (L++M):=by
 rw[strL_eq,strL_eq,strL_eq]
 apply ByteArray.ext
 simp
theorem strL_size(L:List Nat):(strL L).size=L.length:=by rw[strL_eq];simp[ByteArray.size]
end Go.Proofs.Ytcmpmighjglnpaa
namespace Go.Proofs.Ytcmpmighjglnpaa
open Go.RowKit Go.ChangeShapes Go.WideShapes Go.ChangeAt Go.Joins
theorem strLs(L:List Nat)(d:Array UInt8)(h:(L.map UInt8.ofNat).toArray=d):(⟨d⟩:ByteArray)=strL L:=by rw[strL_eq,h]
theorem by_lit14(w:World)(L:List Nat)(C:Array Value)(hC:C=(bytesL L.length (lst L)).toArray)(hL:BytesP L)(n:Nat)(hn:n=L.length)(hm:n≤1000)(fr:Nat×Nat):ByR (w.alloc (.cells C 5 fr)) (w.alloc (.cells C 5 fr)).heap.size (some ⟨w.heap.size,0,none⟩) n n (lst L):=by
 subst hn
 refine⟨⟨lst_lt hL,fun _=>⟨w.heap.size,0,rfl,by simp,fun j hj=>?_⟩⟩,(fun h=>by cases h),Nat.le_refl _,by unfold maxLen;omega⟩
 rw[Nat.zero_add,cell_of_row _ w.heap.size j _ _ _ (heap_alloc_new w _),hC]
 simp[bytesL,hj]
theorem SwO.one{w:World}{base:Nat}{u:UnV}{s:Swm}(h:SwO w base u s):(swA u.sw).all (·.oneCell')=true:=by
 obtain⟨A,c,e1,_⟩:=h.W
 exact swA_one h.I.one (by show u.W.oneCell'=true;rw[e1];rfl) h.blk.one
theorem feed_lit{W:World}{base:Nat}{u:UnV}{s:Swm}(h:SwO W base u s)(g:GoodSw s)(L:List Nat)(C:Array Value)(hC:C=(bytesL L.length (lst L)).toArray)(hL:BytesP L)(n:Nat)(hn:n=L.length)(h9:n≤1000)(O:List Nat)(k m:Nat)(hE:fdoE s L=0)(hO:(feedM s L).out=O)(hk:usedM s L (feedM s L)=k)(hm:m=O.length):
  Calls Try.prog 7 #[.agg (swA u.sw),.slice (some ⟨W.heap.size,0,none⟩) n n] (W.alloc (.cells C 5 (n,n+1))) fun e w'=>∃u' At ct,e=.returned (.tuple #[.agg (swA u'.sw),.slice At m ct,.int .i64 (k:Int),.int .i64 0])∧SwO w' (W.heap.size+1) u' (nextM s L (feedM s L))∧w'.ownsRow (W.heap.size+1) 5 1 (.slice At m ct) m (bytesL m (lst O))∧Below W.heap.size W w':=by
 have hb:Below W.heap.size W (W.alloc (.cells C 5 (n,n+1))):=(Below.refl _ _).alloc (Nat.le_refl _) _
 have hs:(W.alloc (.cells C 5 (n,n+1))).heap.size=W.heap.size+1:=by simp
 refine(feedO_any (h.on hb) g _ n n L hn (by_lit14 W L C hC hL n hn h9 _)).mono ?_
 rintro e w' ⟨_,h2,h3⟩
 obtain⟨u',At,ct,e1,e2,e3,_⟩:=h2 hE
 rw[hs,hO,←hm]at e3
 rw[hO,←hm,hk]at e1
 rw[hs]at e2 h3
 exact⟨u',At,ct,e1,e2,e3,hb.trans (h3.mono (by omega))⟩
theorem feed_litE{W:World}{base:Nat}{u:UnV}{s:Swm}(h:SwO W base u s)(g:GoodSw s)(L:List Nat)(C:Array Value)(hC:C=(bytesL L.length (lst L)).toArray)(hL:BytesP L)(n:Nat)(hn:n=L.length)(h9:n≤1000)(E:Int)(fr:Nat×Nat)(hE:fdoE s L=E)(h0:E≠0):
  Calls Try.prog 7 #[.agg (swA u.sw),.slice (some ⟨W.heap.size,0,none⟩) n n] (W.alloc (.cells C 5 fr)) fun e w'=>e=.returned (.tuple #[.agg (swA swZ),.slice none 0 0,.int .i64 0,.int .i64 E])∧Below W.heap.size W w':=by
 have hb:Below W.heap.size W (W.alloc (.cells C 5 fr)):=(Below.refl _ _).alloc (Nat.le_refl _) _
 refine(feedO_any (h.on hb) g _ n n L hn (by_lit14 W L C hC hL n hn h9 fr)).mono ?_
 rintro e w' ⟨h1,_,h3⟩
 rw[hE]at h1
 exact⟨h1 h0,hb.trans (h3.mono (by simp))⟩
theorem fdoE_ok{s:Swm}{b:List Nat}(h:s.over=false)(h2:b.length≤131072):fdoE s b=(feedM s b).err:=by
 unfold fdoE;rw[h,if_neg (by decide),if_neg (by omega)]
theorem new_of(w:World)(m:Nat)(h:m≤131072):Calls Try.prog 6 #[.int .i64 (m:Int)] w fun e w'=>e=.returned (.tuple #[.agg (swA (newU (m:Int)).sw),.int .i64 0])∧Below w.heap.size w w':=by
 refine(unew14_any w (m:Int)).mono ?_
 rintro e w' ⟨rfl,hb⟩
 refine⟨?_,hb⟩
 rw[newU_sw (by omega) (by omega),show newE14 (m:Int)=0 from if_neg (by omega)]
def al_y:Swm:=nextM (begM 9) [75,4] (feedM (begM 9) [75,4])
theorem al_yo:al_y.over=false:=by
 unfold al_y nextM
 rw[al_v1,if_neg (by decide)]
theorem al_yg:GoodSw al_y:=next_good (begM_good (by decide:(9:Nat)≤131072)) (by intro x hx;simp at hx;omega) al_e1
theorem al_k1:usedM (begM 9) [75,4] (feedM (begM 9) [75,4])=2:=by
 unfold usedM
 rw[al_v1,if_neg (by decide)]
 rfl
end Go.Proofs.Ytcmpmighjglnpaa
namespace Go.Proofs.Ytcmpmighjglnpaa
open Go.RowKit Go.ChangeShapes Go.WideShapes Go.ChangeAt Go.Joins
def FeedL(s:Swm)(L:List Nat)(C:Array Value)(n m k:Nat)(O:List Nat):Prop:=∀(W:World) (base:Nat) (u:UnV),SwO W base u s→Calls Try.prog 7 #[.agg (swA u.sw),.slice (some ⟨W.heap.size,0,none⟩) n n] (W.alloc (.cells C 5 (n,n+1))) fun e w'=>∃u' At ct,e=.returned (.tuple #[.agg (swA u'.sw),.slice At m ct,.int .i64 (k:Int),.int .i64 0])∧SwO w' (W.heap.size+1) u' (nextM s L (feedM s L))∧w'.ownsRow (W.heap.size+1) 5 1 (.slice At m ct) m (bytesL m (lst O))∧Below W.heap.size W w'
theorem feedL_of{s:Swm}(g:GoodSw s)(L:List Nat)(C:Array Value)(hC:C=(bytesL L.length (lst L)).toArray)(hL:BytesP L)(n:Nat)(hn:n=L.length)(h9:n≤1000)(O:List Nat)(k m:Nat)(hE:fdoE s L=0)(hO:(feedM s L).out=O)(hk:usedM s L (feedM s L)=k)(hm:m=O.length):FeedL s L C n m k O:=
 fun _ _ _ h=>feed_lit h g L C hC hL n hn h9 O k m hE hO hk hm
theorem swO_over{w:World}{base:Nat}{u:UnV}{s:Swm}{X:Array Value}{b:Nat}{v:Bool}(h:SwO w base u s)(hX:X=swA u.sw)(x:BoxC w b X 32)(hv:s.over=v):w.cell? ⟨b,44,none⟩=some (.bool v):=by
 obtain⟨_,_,_,_,_,_,_,c⟩:=sw_x hX x
 rw[c,h.ov,hv]
theorem alive14_any(w:World):Calls Try.prog 8 #[] w fun e w'=>e=.returned (.bool true)∧Below w.heap.size w w':=by
 have kc:=fun(w:World) (C:Array Value) (n c:Nat)=>Lib.run_convert_bytes_const (P:=Try.prog) w 22 5 C n c Try.underlying22 Try.underlying5
 obtain⟨Z,hZ⟩:∃Z,Z=swA swZ:=⟨_,rfl⟩
 have hz:∀u:World,(zeroValue 32).run Try.prog u=.ok (.agg Z) u:=by rw[hZ];exact(zero_of_info infoSwl).1
 have HZS:Hid (Z.size=45):=Lib.hid (by rw[hZ];exact swA_size rfl)
 have HZO:Hid (Z.all (·.oneCell')=true):=Lib.hid (by rw[hZ];exact swZ_one)
 have hnew:=new_of w 9 (by omega)
 have so0:∀W,SwO W W.heap.size (newU ((9:Nat):Int)) (begM 9):=fun W=>SwO.new W _ 9
 obtain⟨X0,hX0⟩:∃X,X=swA (newU ((9:Nat):Int)).sw:=⟨_,rfl⟩
 have f1:FeedL (begM 9) [75,4] #[.int .u8 75,.int .u8 4] 2 1 2 [97]:=feedL_of (begM_good (by decide:(9:Nat)≤131072)) _ _ (by rfl) (by intro x hx;simp at hx;omega) 2 rfl (by omega) [97] 2 1 (by rw[fdoE_ok rfl (by decide)];exact al_e1) al_o1 al_k1 rfl
 have f2:FeedL al_y [0,255] #[.int .u8 0,.int .u8 255] 2 0 1 []∧(nextM al_y [0,255] (feedM al_y [0,255])).over=true:=by
  obtain⟨a1,a2,a3,a4⟩:=al_two
  have a1':(feedM al_y [0,255]).err=0:=a1
  have a3':(feedM al_y [0,255]).over=true:=a3
  refine⟨feedL_of al_yg _ _ (by rfl) (by intro x hx;simp at hx;omega) 2 rfl (by omega) [] 1 0 (by rw[fdoE_ok al_yo (by decide)];exact a1') a2 a4 rfl,?_⟩
  unfold nextM
  rw[a3',if_pos rfl]
 rw[←hX0]at hnew
 have HX0S:Hid (X0.size=45):=Lib.hid (by rw[hX0];exact swA_size (blkL_len ..))
 have HX0O:Hid (X0.all (·.oneCell')=true):=Lib.hid (by rw[hX0];exact(so0 w).one)
 have HNEW:=Lib.hid hnew;have HF1:=Lib.hid f1;have HF2:=Lib.hid f2.1;have HOV:=Lib.hid f2.2;have HSO:=Lib.hid so0;have HX0:=Lib.hid hX0
 clear hnew f1 f2 so0 hX0 hZ
 go_enter Try.func8,Try.ntmps8
 go_wp2_with fail
 refine HNEW.out.mono ?_
 rintro e w1 ⟨rfl,hb⟩
 have so:=HSO.out w1
 obtain⟨b1,hn⟩:∃b,b=w1.heap.size:=⟨_,rfl⟩
 obtain⟨W1,hW⟩:∃W,W=mkV w1 Z X0 32:=⟨_,rfl⟩
 have hm:Below w1.heap.size w1 W1:=by rw[hW];exact mkV_below _ _ _ _
 have hv:BoxC W1 b1 X0 32:=by rw[hW,hn];exact mkV_row _ _ _ _
 have hb2:=hb.trans (hm.mono hb.size)
 have HB:=Lib.hid hb2
 have HVb1:=Lib.hid hv;have HNb1:=Lib.hid hn;have HEW1:=Lib.hid hW
 have HSs:=Lib.hid (so.on hm)
 clear hb hb2 hm hv hn hW so
 go_wp2_with (first
  |(refine wpList_store_rowTo rfl _ _ _ rfl rfl w1.heap.size X0 rfl rfl 32 Z (heap_alloc_new w1 _) (szSwl _ HX0S.out) (by first|rfl|rw[HZS.out,HX0S.out]) HX0O.out ?_;rw[show(w1.alloc (.cells Z 32)).setRow w1.heap.size X0=mkV w1 Z X0 32 from rfl,←HEW1.out,←HNb1.out])
  |(refine wpList_load_row rfl _ _ rfl b1 rfl _ X0 (0,0) _ HVb1.out Try.underlying32 rfl (szSwl _ HX0S.out) ?_)
  |fail)
 have f:=HF1.out _ _ _ HSs.out
 rw[←HX0.out]at f
 refine f.mono ?_
 clear f
 rintro e w2 ⟨u2,At2,ct2,rfl,so,own,hb⟩
 obtain⟨X1,hX⟩:∃X,X=swA u2.sw:=⟨_,rfl⟩
 rw[←hX]
 have HX1S:Hid (X1.size=45):=Lib.hid (by rw[hX];exact swA_size (blkL_len ..))
 have HX1O:Hid (X1.all (·.oneCell')=true):=Lib.hid (by rw[hX];exact so.one)
 have HX1:=Lib.hid hX
 clear hX
 obtain⟨b2,hn⟩:∃b,b=w2.heap.size:=⟨_,rfl⟩
 obtain⟨W2,hW⟩:∃W,W=mkV w2 Z X1 32:=⟨_,rfl⟩
 have hm:Below w2.heap.size w2 W2:=by rw[hW];exact mkV_below _ _ _ _
 have hv:BoxC W2 b2 X1 32:=by rw[hW,hn];exact mkV_row _ _ _ _
 have hb2:=hb.trans (hm.mono hb.size)
 have HVb1:=Lib.hid (HVb1.out.below hb2 HVb1.out.lt)
 have HSs:=Lib.hid (HSs.out.on hb2)
 have HB:=Lib.hid (HB.out.trans (hb2.mono HB.out.size))
 have HVb2:=Lib.hid hv;have HNb2:=Lib.hid hn;have HEW2:=Lib.hid hW
 have HSy:=Lib.hid (so.on hm)
 have HRr1:=Lib.hid (own_keep own hm)
 clear hb hb2 hm hv hn hW so own
 go_wp2_with (first
  |(refine wpList_store_rowTo rfl _ _ _ rfl rfl w2.heap.size X1 rfl rfl 32 Z (heap_alloc_new w2 _) (szSwl _ HX1S.out) (by first|rfl|rw[HZS.out,HX1S.out]) HX1O.out ?_;rw[show(w2.alloc (.cells Z 32)).setRow w2.heap.size X1=mkV w2 Z X1 32 from rfl,←HEW2.out,←HNb2.out])
  |(refine wpList_load_row rfl _ _ rfl b1 rfl _ X0 (0,0) _ HVb1.out Try.underlying32 rfl (szSwl _ HX0S.out) ?_)
  |(refine wpList_load_row rfl _ _ rfl b2 rfl _ X1 (0,0) _ HVb2.out Try.underlying32 rfl (szSwl _ HX1S.out) ?_)
  |fail)
 have HSy:Hid (SwO W2 _ u2 al_y):=HSy
 have f:=HF2.out _ _ _ HSy.out
 rw[←HX1.out]at f
 refine f.mono ?_
 clear f
 rintro e w3 ⟨u3,At3,ct3,rfl,so,own,hb⟩
 obtain⟨X2,hX⟩:∃X,X=swA u3.sw:=⟨_,rfl⟩
 rw[←hX]
 have HX2S:Hid (X2.size=45):=Lib.hid (by rw[hX];exact swA_size (blkL_len ..))
 have HX2O:Hid (X2.all (·.oneCell')=true):=Lib.hid (by rw[hX];exact so.one)
 have HX2:=Lib.hid hX
 clear hX
 obtain⟨b3,hn⟩:∃b,b=w3.heap.size:=⟨_,rfl⟩
 obtain⟨W3,hW⟩:∃W,W=mkV w3 Z X2 32:=⟨_,rfl⟩
 have hm:Below w3.heap.size w3 W3:=by rw[hW];exact mkV_below _ _ _ _
 have hv:BoxC W3 b3 X2 32:=by rw[hW,hn];exact mkV_row _ _ _ _
 have hb2:=hb.trans (hm.mono hb.size)
 have HVb1:=Lib.hid (HVb1.out.below hb2 HVb1.out.lt)
 have HVb2:=Lib.hid (HVb2.out.below hb2 HVb2.out.lt)
 have HSs:=Lib.hid (HSs.out.on hb2)
 have HSy:=Lib.hid (HSy.out.on hb2)
 have HRr1:=Lib.hid (own_keep HRr1.out hb2)
 have HB:=Lib.hid (HB.out.trans (hb2.mono HB.out.size))
 have HVb3:=Lib.hid hv;have HNb3:=Lib.hid hn;have HEW3:=Lib.hid hW
 have HSz:=Lib.hid (so.on hm)
 have HRr2:=Lib.hid (own_keep own hm)
 clear hb hb2 hm hv hn hW so own
 have c44:=swO_over HSz.out HX2.out HVb3.out HOV.out
 have c45:=swO_over HSy.out HX1.out HVb2.out al_yo
 have s1:(convert 22 9 (.slice At2 1 ct2)).run Try.prog W3=.ok (.string (strL [97])) W3:=run_str (ByR.of_own HRr1.out (lst_lt (by intro x hx;simp at hx;omega))).1 ct2
 rw[←strLs [97] #[97] rfl]at s1
 go_wp2_with (first
  |(refine wpList_store_rowTo rfl _ _ _ rfl rfl w3.heap.size X2 rfl rfl 32 Z (heap_alloc_new w3 _) (szSwl _ HX2S.out) (by first|rfl|rw[HZS.out,HX2S.out]) HX2O.out ?_;rw[show(w3.alloc (.cells Z 32)).setRow w3.heap.size X2=mkV w3 Z X2 32 from rfl,←HEW3.out,←HNb3.out])
  |(refine wpList_load_row rfl _ _ rfl b1 rfl _ X0 (0,0) _ HVb1.out Try.underlying32 rfl (szSwl _ HX0S.out) ?_)
  |(refine wpList_load_row rfl _ _ rfl b2 rfl _ X1 (0,0) _ HVb2.out Try.underlying32 rfl (szSwl _ HX1S.out) ?_)
  |(refine wpList_load_row rfl _ _ rfl b3 rfl _ X2 (0,0) _ HVb3.out Try.underlying32 rfl (szSwl _ HX2S.out) ?_)
  |fail)
 go_ret
 exact⟨rfl,HB.out⟩
end Go.Proofs.Ytcmpmighjglnpaa
