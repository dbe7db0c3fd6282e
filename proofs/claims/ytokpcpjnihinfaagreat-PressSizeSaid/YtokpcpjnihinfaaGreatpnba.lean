/-
  Words and walks.
-/
import Derived.Test.YtokpcpjnihinfaaGreatpnaj
set_option maxRecDepth 100000
set_option maxHeartbeats 16000000
namespace Go.Proofs.YtokpcpjnihinfaaGreat
open Go.RowKit Go.ChangeShapes Go.WideShapes Go.ChangeAt Go.Joins
theorem below_go{a b c:World}(h1:Below a.heap.size a b)(h2:Below b.heap.size b c):Below a.heap.size a c:=h1.trans (h2.mono h1.size)
def OutN(w w':World)(e:Ending)(q:Prs)(n:Nat)(L:List Nat)(E:Int):Prop:=∃Ah hc Aw wc Ap pc Ao oc,e=.returned (.tuple #[.agg (prsA q Ah hc Aw wc Ap pc),.slice Ao n oc,.int .i64 E])∧PrsR w' w'.heap.size q Ah hc Aw wc Ap pc∧ByR w' w'.heap.size Ao n oc (lst L)∧Below w.heap.size w w'
theorem out_n{w w':World}{e:Ending}{r:Prs×List Nat}{E:Int}(h:PrsOut w w' e r E)(q:Prs)(n:Nat)(L:List Nat)(hr:r=(q,L))(hn:n=L.length):OutN w w' e q n L E:=by
 subst hr;subst hn
 obtain⟨a,b,c,d,f,g,i,j,h1,h2,h3,h4,_,_⟩:=h
 exact⟨a,b,c,d,f,g,i,j,h1,h2,h3,h4⟩
theorem out_nU{U w w':World}{e:Ending}{q:Prs}{n:Nat}{L:List Nat}{E:Int}(h:OutN w w' e q n L E)(hU:Below U.heap.size U w):OutN U w' e q n L E:=by
 obtain⟨a,b,c,d,f,g,i,j,h1,h2,h3,h4⟩:=h
 exact⟨a,b,c,d,f,g,i,j,h1,h2,h3,hU.trans (h4.mono hU.size)⟩
theorem ans_z{E:Int}(h:¬E=0)(r:Prs×List Nat):ansP E r=(⟨0,0,0,false,[],[],[],0,false⟩,[]):=by unfold ansP;rw[if_neg h];rfl
theorem nm_all0(HA:PAllCon)(V:World):Calls Tryz.prog 9 #[.agg #[.int .i64 32,.int .i64 9,.int .i64 100,.bool false],.slice none 0 0] V fun e w'=>∃Ao oc,e=.returned (.tuple #[.slice Ao 2 oc,.int .i64 0])∧ByR w' w'.heap.size Ao 2 oc (lst [3,0])∧Below V.heap.size V w':=by
 have h1:=HA V 32 9 100 false none 0 [] (ByR.nil V _ _ (lst_lt (L:=[]) (fun x hx=>by cases hx))) (by show 0≤_;omega)
 have e0:allE 32 9 100 ([]:List Nat).length=0:=by decide
 rw[e0,if_pos rfl,val_all_0]at h1
 refine h1.mono fun e w' ⟨Ao,on,oc,e1,e2,e3,e4⟩=>?_
 have e5:on=2:=e2
 subst e5
 exact⟨Ao,oc,e1,e3,e4⟩
theorem nm_new(HN:PNewCon)(V:World)(m:Int)(hm:mayS 32 9 m=true):Calls Tryz.prog 11 #[.agg #[.int .i64 32,.int .i64 9,.int .i64 m,.bool false]] V fun e w'=>∃Ah hc Aw wc Ap pc,e=.returned (.tuple #[.agg (prsA ⟨32,9,m,false,[],[],[],0,false⟩ Ah hc Aw wc Ap pc),.int .i64 0])∧PrsR w' w'.heap.size ⟨32,9,m,false,[],[],[],0,false⟩ Ah hc Aw wc Ap pc∧Below V.heap.size V w':=by
 have h1:=HN V 32 9 m false
 have e1:begV 32 9 m false=⟨32,9,m,false,[],[],[],0,false⟩:=by unfold begV;rw[hm];rfl
 have e2:begE 32 9 m=0:=by unfold begE;rw[hm];rfl
 rw[e1,e2]at h1
 exact h1
theorem nm_write(HW:PWriteCon)(V:World)(p:Prs)(Ah:Option Addr)(hc:Nat)(Aw:Option Addr)(wc:Nat)(Ap:Option Addr)(pc:Nat)(hp:PrsR V V.heap.size p Ah hc Aw wc Ap pc)(hh:p.hist.length=0)(hw:p.wait.length=0)(C:Array Value)(b:List Nat)(hC:C=(bytesL b.length (lst b)).toArray)(hb:BytesP b)(n:Nat)(hn:n=b.length)(hn2:n≤1000)(ha:askP p=0)(q:Prs)(m:Nat)(L:List Nat)(hr:writeP p b=(q,L))(hm:m=L.length):
  Calls Tryz.prog 12 #[.agg (prsA p Ah hc Aw wc Ap pc),.slice (some ⟨V.heap.size,0,none⟩) n n] (V.alloc (.cells C 5 (n,n+1))) fun e w'=>OutN V w' e q m L 0:=by
 have hbl:Below V.heap.size V (V.alloc (.cells C 5 (n,n+1))):=(Below.refl _ _).alloc (Nat.le_refl _) _
 have hr1:=by_const V b C hC hb n hn hn2
 subst hn
 have h1:=HW (V.alloc (.cells C 5 (b.length,b.length+1))) p Ah hc Aw wc Ap pc (some ⟨V.heap.size,0,none⟩) b.length b (hp.on hbl) hr1 (by omega) (by omega) (by omega)
 have e0:wrtEP p b.length=0:=by unfold wrtEP;rw[ha];simp;omega
 rw[e0]at h1
 exact h1.mono fun e w' h=>out_nU (out_n h q m L (by rw[←hr];rfl) hm) hbl
theorem names12_walk(HA:PAllCon)(HN:PNewCon)(HW:PWriteCon)(HF:PFlushCon)(HE:PFinishCon)(HC:PCheckCon)(w:World):
  Calls Tryz.prog 3 #[] w fun e w'=>e=.returned (.bool true)∧Below w.heap.size w w':=by
 have kc:=fun(w:World) (C:Array Value) (n c:Nat)=>Lib.run_convert_bytes_const (P:=Tryz.prog) w 22 5 C n c Tryz.underlying22 Tryz.underlying5
 obtain⟨Z,hZ⟩:∃Z,Z=prsA ⟨0,0,0,false,[],[],[],0,false⟩ none 0 none 0 none 0:=⟨_,rfl⟩
 have hz:=(zero_of_info zero_prs).1
 have hz2:=(zero_of_info zero_sty12).1
 have hb0:=built_prs0
 rw[show prsA (begP 0 0 0 false) none 0 none 0 none 0=Z from hZ.symm]at hz hb0
 have HZS:Hid (Z.size=9):=Lib.hid (by rw[hZ];rfl)
 have HZE:=Lib.hid hZ
 have HAL:=Lib.hid (alive12_any HA);have HA0:=Lib.hid (nm_all0 HA);have HNN:=Lib.hid (nm_new HN);have HWA:=Lib.hid (nm_write HW)
 have HWW:=Lib.hid HW;have HFF:=Lib.hid HF;have HEE:=Lib.hid HE;have HCC:=Lib.hid HC
 have HSTY:=Lib.hid style12_any
 have HBw:Hid (Below w.heap.size w w):=Lib.hid (Below.refl _ _)
 clear HA HN HW HF HE HC hZ
 go_enter Tryz.func3,Tryz.ntmps3
 go_wp2_with fail
 refine(HSTY.out w).mono ?_
 rintro e W1 ⟨rfl,bu1⟩
 have HBU1:=Lib.hid bu1
 have HB1:Hid (Below w.heap.size w W1):=Lib.hid (HBw.out.trans (bu1.mono HBw.out.size))
 clear bu1
 go_wp2_with fail
 refine(HA0.out W1).mono ?_
 rintro e W2 ⟨A2d,k2d,rfl,ro2,bu2⟩
 have HRO2:=Lib.hid ro2
 have HBU2:=Lib.hid bu2
 have HB2:Hid (Below w.heap.size w W2):=Lib.hid (HB1.out.trans (bu2.mono HB1.out.size))
 clear ro2 bu2
 go_wp2_with fail
 refine(HSTY.out W2).mono ?_
 rintro e W3 ⟨rfl,bu3⟩
 have HBU3:=Lib.hid bu3
 have HB3:Hid (Below w.heap.size w W3):=Lib.hid (HB2.out.trans (bu3.mono HB2.out.size))
 clear bu3
 go_wp2_with fail
 refine(HNN.out W3 100 (by decide)).mono ?_
 rintro e w4 ⟨A4a,k4a,A4b,k4b,A4c,k4c,rfl,r4,hb4⟩
 obtain⟨Y4,hY4⟩:∃Y,Y=prsA ⟨32,9,100,false,[],[],[],0,false⟩ A4a k4a A4b k4b A4c k4c:=⟨_,rfl⟩
 have HY4S:Hid (Y4.size=9):=Lib.hid (by rw[hY4];rfl)
 have HY4O:Hid (Y4.all (·.oneCell')=true):=Lib.hid (by rw[hY4];exact prsA_one ..)
 have HY4E:=Lib.hid hY4
 obtain⟨W4,hW4⟩:∃W,W=mkV w4 Z Y4 32:=⟨_,rfl⟩
 have HX4at4:Hid (BoxC W4 w4.heap.size Y4 32):=Lib.hid (by rw[hW4];exact mkV_row _ _ _ _)
 have bw4:Below w4.heap.size w4 W4:=by rw[hW4];exact mkV_below _ _ _ _
 have bu4:Below W3.heap.size W3 W4:=hb4.trans (bw4.mono hb4.size)
 have HBU4:=Lib.hid bu4
 have HB4:Hid (Below w.heap.size w W4):=Lib.hid (HB3.out.trans (bu4.mono HB3.out.size))
 have HR4:Hid (PrsR W4 W4.heap.size ⟨32,9,100,false,[],[],[],0,false⟩ A4a k4a A4b k4b A4c k4c):=Lib.hid (r4.on bw4)
 have HW4:=Lib.hid hW4
 rw[←hY4]
 clear hW4 hb4 r4 bw4 bu4 hY4
 have h5c:=HWA.out W4 ⟨32,9,100,false,[],[],[],0,false⟩ A4a k4a A4b k4b A4c k4c HR4.out rfl rfl #[.int .u8 97] [97] rfl (by intro x hx;simp at hx;omega) 1 rfl (by omega) (by decide) ⟨32,9,100,false,[],[97],[],0,false⟩ 0 [] val_write rfl
 rw[←HY4E.out]at h5c
 have H5C:=Lib.hid h5c
 clear h5c
 go_wp2_with (first
  |(refine wpList_store_rowTo rfl _ _ _ rfl rfl w4.heap.size Y4 rfl rfl 32 Z (heap_alloc_new w4 _) (by rw[HY4S.out];exact szPrs) (by rw[HZS.out,HY4S.out]) HY4O.out ?_;rw[show(w4.alloc (.cells Z 32)).setRow w4.heap.size Y4=mkV w4 Z Y4 32 from rfl,←HW4.out])
  |(refine wpList_load_row rfl _ _ rfl (w4.heap.size) rfl _ Y4 (0,0) _ HX4at4.out Tryz.underlying32 rfl (by rw[HY4S.out];exact szPrs) ?_)
  |fail)
 refine H5C.out.mono ?_
 rintro e w5 ⟨A5a,k5a,A5b,k5b,A5c,k5c,A5d,k5d,rfl,r5,ro5,hb5⟩
 obtain⟨Y5,hY5⟩:∃Y,Y=prsA ⟨32,9,100,false,[],[97],[],0,false⟩ A5a k5a A5b k5b A5c k5c:=⟨_,rfl⟩
 have HY5S:Hid (Y5.size=9):=Lib.hid (by rw[hY5];rfl)
 have HY5O:Hid (Y5.all (·.oneCell')=true):=Lib.hid (by rw[hY5];exact prsA_one ..)
 have HY5E:=Lib.hid hY5
 obtain⟨W5,hW5⟩:∃W,W=mkV w5 Z Y5 32:=⟨_,rfl⟩
 have HX5at5:Hid (BoxC W5 w5.heap.size Y5 32):=Lib.hid (by rw[hW5];exact mkV_row _ _ _ _)
 have bw5:Below w5.heap.size w5 W5:=by rw[hW5];exact mkV_below _ _ _ _
 have bu5:Below W4.heap.size W4 W5:=hb5.trans (bw5.mono hb5.size)
 have HBU5:=Lib.hid bu5
 have HB5:Hid (Below w.heap.size w W5):=Lib.hid (HB4.out.trans (bu5.mono HB4.out.size))
 have HR5:Hid (PrsR W5 W5.heap.size ⟨32,9,100,false,[],[97],[],0,false⟩ A5a k5a A5b k5b A5c k5c):=Lib.hid (r5.on bw5)
 have HRO5:Hid (ByR W5 W5.heap.size A5d 0 k5d (lst [])):=Lib.hid ((ro5.below bw5 (Nat.le_refl _)).more bw5.size)
 have HX4at5:Hid (BoxC W5 (w4.heap.size) Y4 32):=Lib.hid (HX4at4.out.below bu5 HX4at4.out.lt)
 have HW5:=Lib.hid hW5
 rw[←hY5]
 clear hW5 hb5 r5 ro5 bw5 bu5 hY5
 have h6c:=HFF.out W5 ⟨32,9,100,false,[],[97],[],0,false⟩ A5a k5a A5b k5b A5c k5c HR5.out (by decide) (by decide)
 rw[show askP ⟨32,9,100,false,[],[97],[],0,false⟩=0 from by decide,←HY5E.out]at h6c
 have H6C:=Lib.hid (h6c.mono fun e w' h=>out_n h ⟨32,9,100,false,[97],[],[],0,false⟩ 6 [0,1,0,254,255,97] val_flush rfl)
 clear h6c
 go_wp2_with (first
  |(refine wpList_store_rowTo rfl _ _ _ rfl rfl w5.heap.size Y5 rfl rfl 32 Z (heap_alloc_new w5 _) (by rw[HY5S.out];exact szPrs) (by rw[HZS.out,HY5S.out]) HY5O.out ?_;rw[show(w5.alloc (.cells Z 32)).setRow w5.heap.size Y5=mkV w5 Z Y5 32 from rfl,←HW5.out])
  |(refine wpList_load_row rfl _ _ rfl (w5.heap.size) rfl _ Y5 (0,0) _ HX5at5.out Tryz.underlying32 rfl (by rw[HY5S.out];exact szPrs) ?_)
  |fail)
 refine H6C.out.mono ?_
 rintro e w6 ⟨A6a,k6a,A6b,k6b,A6c,k6c,A6d,k6d,rfl,r6,ro6,hb6⟩
 obtain⟨Y6,hY6⟩:∃Y,Y=prsA ⟨32,9,100,false,[97],[],[],0,false⟩ A6a k6a A6b k6b A6c k6c:=⟨_,rfl⟩
 have HY6S:Hid (Y6.size=9):=Lib.hid (by rw[hY6];rfl)
 have HY6O:Hid (Y6.all (·.oneCell')=true):=Lib.hid (by rw[hY6];exact prsA_one ..)
 have HY6E:=Lib.hid hY6
 obtain⟨W6,hW6⟩:∃W,W=mkV w6 Z Y6 32:=⟨_,rfl⟩
 have HX6at6:Hid (BoxC W6 w6.heap.size Y6 32):=Lib.hid (by rw[hW6];exact mkV_row _ _ _ _)
 have bw6:Below w6.heap.size w6 W6:=by rw[hW6];exact mkV_below _ _ _ _
 have bu6:Below W5.heap.size W5 W6:=hb6.trans (bw6.mono hb6.size)
 have HBU6:=Lib.hid bu6
 have HB6:Hid (Below w.heap.size w W6):=Lib.hid (HB5.out.trans (bu6.mono HB5.out.size))
 have HR6:Hid (PrsR W6 W6.heap.size ⟨32,9,100,false,[97],[],[],0,false⟩ A6a k6a A6b k6b A6c k6c):=Lib.hid (r6.on bw6)
 have HRO6:Hid (ByR W6 W6.heap.size A6d 6 k6d (lst [0,1,0,254,255,97])):=Lib.hid ((ro6.below bw6 (Nat.le_refl _)).more bw6.size)
 have HX4at6:Hid (BoxC W6 (w4.heap.size) Y4 32):=Lib.hid (HX4at5.out.below bu6 HX4at5.out.lt)
 have HW6:=Lib.hid hW6
 rw[←hY6]
 clear hW6 hb6 r6 ro6 bw6 bu6 hY6
 have h7c:=HEE.out W6 ⟨32,9,100,false,[97],[],[],0,false⟩ A6a k6a A6b k6b A6c k6c HR6.out (by decide) (by decide)
 rw[show askP ⟨32,9,100,false,[97],[],[],0,false⟩=0 from by decide,←HY6E.out]at h7c
 have H7C:=Lib.hid (h7c.mono fun e w' h=>out_n h ⟨32,9,100,false,[97],[],[],0,true⟩ 2 [3,0] val_fin rfl)
 clear h7c
 go_wp2_with (first
  |(refine wpList_store_rowTo rfl _ _ _ rfl rfl w6.heap.size Y6 rfl rfl 32 Z (heap_alloc_new w6 _) (by rw[HY6S.out];exact szPrs) (by rw[HZS.out,HY6S.out]) HY6O.out ?_;rw[show(w6.alloc (.cells Z 32)).setRow w6.heap.size Y6=mkV w6 Z Y6 32 from rfl,←HW6.out])
  |(refine wpList_load_row rfl _ _ rfl (w6.heap.size) rfl _ Y6 (0,0) _ HX6at6.out Tryz.underlying32 rfl (by rw[HY6S.out];exact szPrs) ?_)
  |fail)
 refine H7C.out.mono ?_
 rintro e w7 ⟨A7a,k7a,A7b,k7b,A7c,k7c,A7d,k7d,rfl,r7,ro7,hb7⟩
 obtain⟨Y7,hY7⟩:∃Y,Y=prsA ⟨32,9,100,false,[97],[],[],0,true⟩ A7a k7a A7b k7b A7c k7c:=⟨_,rfl⟩
 have HY7S:Hid (Y7.size=9):=Lib.hid (by rw[hY7];rfl)
 have HY7O:Hid (Y7.all (·.oneCell')=true):=Lib.hid (by rw[hY7];exact prsA_one ..)
 have HY7E:=Lib.hid hY7
 obtain⟨W7,hW7⟩:∃W,W=mkV w7 Z Y7 32:=⟨_,rfl⟩
 have HX7at7:Hid (BoxC W7 w7.heap.size Y7 32):=Lib.hid (by rw[hW7];exact mkV_row _ _ _ _)
 have bw7:Below w7.heap.size w7 W7:=by rw[hW7];exact mkV_below _ _ _ _
 have bu7:Below W6.heap.size W6 W7:=hb7.trans (bw7.mono hb7.size)
 have HBU7:=Lib.hid bu7
 have HB7:Hid (Below w.heap.size w W7):=Lib.hid (HB6.out.trans (bu7.mono HB6.out.size))
 have HR7:Hid (PrsR W7 W7.heap.size ⟨32,9,100,false,[97],[],[],0,true⟩ A7a k7a A7b k7b A7c k7c):=Lib.hid (r7.on bw7)
 have HRO7:Hid (ByR W7 W7.heap.size A7d 2 k7d (lst [3,0])):=Lib.hid ((ro7.below bw7 (Nat.le_refl _)).more bw7.size)
 have HX4at7:Hid (BoxC W7 (w4.heap.size) Y4 32):=Lib.hid (HX4at6.out.below bu7 HX4at6.out.lt)
 have HW7:=Lib.hid hW7
 rw[←hY7]
 clear hW7 hb7 r7 ro7 bw7 bu7 hY7
 have h8c:=HWW.out W7 ⟨32,9,100,false,[97],[],[],0,true⟩ A7a k7a A7b k7b A7c k7c none 0 [] HR7.out (ByR.nil W7 _ _ (lst_lt (L:=[]) (fun x hx=>by cases hx))) (by decide) (by decide) (by decide)
 rw[show wrtEP ⟨32,9,100,false,[97],[],[],0,true⟩ ([]:List Nat).length=6 from by decide,←HY7E.out]at h8c
 have H8C:=Lib.hid (h8c.mono fun e w' h=>out_n h ⟨0,0,0,false,[],[],[],0,false⟩ 0 [] (ans_z (by decide) _) rfl)
 clear h8c
 go_wp2_with (first
  |(refine wpList_store_rowTo rfl _ _ _ rfl rfl w7.heap.size Y7 rfl rfl 32 Z (heap_alloc_new w7 _) (by rw[HY7S.out];exact szPrs) (by rw[HZS.out,HY7S.out]) HY7O.out ?_;rw[show(w7.alloc (.cells Z 32)).setRow w7.heap.size Y7=mkV w7 Z Y7 32 from rfl,←HW7.out])
  |(refine wpList_load_row rfl _ _ rfl (w7.heap.size) rfl _ Y7 (0,0) _ HX7at7.out Tryz.underlying32 rfl (by rw[HY7S.out];exact szPrs) ?_)
  |fail)
 refine H8C.out.mono ?_
 rintro e w8 ⟨A8a,k8a,A8b,k8b,A8c,k8c,A8d,k8d,rfl,r8,ro8,hb8⟩
 obtain⟨Y8,hY8⟩:∃Y,Y=prsA ⟨0,0,0,false,[],[],[],0,false⟩ A8a k8a A8b k8b A8c k8c:=⟨_,rfl⟩
 have HY8S:Hid (Y8.size=9):=Lib.hid (by rw[hY8];rfl)
 have HY8O:Hid (Y8.all (·.oneCell')=true):=Lib.hid (by rw[hY8];exact prsA_one ..)
 have HY8E:=Lib.hid hY8
 obtain⟨W8,hW8⟩:∃W,W=mkV w8 Z Y8 32:=⟨_,rfl⟩
 have HX8at8:Hid (BoxC W8 w8.heap.size Y8 32):=Lib.hid (by rw[hW8];exact mkV_row _ _ _ _)
 have bw8:Below w8.heap.size w8 W8:=by rw[hW8];exact mkV_below _ _ _ _
 have bu8:Below W7.heap.size W7 W8:=hb8.trans (bw8.mono hb8.size)
 have HBU8:=Lib.hid bu8
 have HB8:Hid (Below w.heap.size w W8):=Lib.hid (HB7.out.trans (bu8.mono HB7.out.size))
 have HR8:Hid (PrsR W8 W8.heap.size ⟨0,0,0,false,[],[],[],0,false⟩ A8a k8a A8b k8b A8c k8c):=Lib.hid (r8.on bw8)
 have HRO8:Hid (ByR W8 W8.heap.size A8d 0 k8d (lst [])):=Lib.hid ((ro8.below bw8 (Nat.le_refl _)).more bw8.size)
 have HX4at8:Hid (BoxC W8 (w4.heap.size) Y4 32):=Lib.hid (HX4at7.out.below bu8 HX4at7.out.lt)
 have HW8:=Lib.hid hW8
 rw[←hY8]
 clear hW8 hb8 r8 ro8 bw8 bu8 hY8
 have h9c:=HFF.out W8 ⟨32,9,100,false,[],[],[],0,false⟩ A4a k4a A4b k4b A4c k4c ((((HR4.out.on HBU5.out).on HBU6.out).on HBU7.out).on HBU8.out) (by decide) (by decide)
 rw[show askP ⟨32,9,100,false,[],[],[],0,false⟩=0 from by decide,←HY4E.out]at h9c
 have H9C:=Lib.hid (h9c.mono fun e w' h=>out_n h ⟨32,9,100,false,[],[],[],0,false⟩ 0 [] (flushed_none (beg_good (s:=32) (h:=9) (m:=100) false (by decide)) rfl rfl) rfl)
 clear h9c
 go_wp2_with (first
  |(refine wpList_store_rowTo rfl _ _ _ rfl rfl w8.heap.size Y8 rfl rfl 32 Z (heap_alloc_new w8 _) (by rw[HY8S.out];exact szPrs) (by rw[HZS.out,HY8S.out]) HY8O.out ?_;rw[show(w8.alloc (.cells Z 32)).setRow w8.heap.size Y8=mkV w8 Z Y8 32 from rfl,←HW8.out])
  |(refine wpList_load_row rfl _ _ rfl (w4.heap.size) rfl _ Y4 (0,0) _ HX4at8.out Tryz.underlying32 rfl (by rw[HY4S.out];exact szPrs) ?_)
  |fail)
 refine H9C.out.mono ?_
 rintro e w9 ⟨A9a,k9a,A9b,k9b,A9c,k9c,A9d,k9d,rfl,r9,ro9,hb9⟩
 obtain⟨Y9,hY9⟩:∃Y,Y=prsA ⟨32,9,100,false,[],[],[],0,false⟩ A9a k9a A9b k9b A9c k9c:=⟨_,rfl⟩
 have HY9S:Hid (Y9.size=9):=Lib.hid (by rw[hY9];rfl)
 have HY9O:Hid (Y9.all (·.oneCell')=true):=Lib.hid (by rw[hY9];exact prsA_one ..)
 have HY9E:=Lib.hid hY9
 obtain⟨W9,hW9⟩:∃W,W=mkV w9 Z Y9 32:=⟨_,rfl⟩
 have HX9at9:Hid (BoxC W9 w9.heap.size Y9 32):=Lib.hid (by rw[hW9];exact mkV_row _ _ _ _)
 have bw9:Below w9.heap.size w9 W9:=by rw[hW9];exact mkV_below _ _ _ _
 have bu9:Below W8.heap.size W8 W9:=hb9.trans (bw9.mono hb9.size)
 have HBU9:=Lib.hid bu9
 have HB9:Hid (Below w.heap.size w W9):=Lib.hid (HB8.out.trans (bu9.mono HB8.out.size))
 have HR9:Hid (PrsR W9 W9.heap.size ⟨32,9,100,false,[],[],[],0,false⟩ A9a k9a A9b k9b A9c k9c):=Lib.hid (r9.on bw9)
 have HRO9:Hid (ByR W9 W9.heap.size A9d 0 k9d (lst [])):=Lib.hid ((ro9.below bw9 (Nat.le_refl _)).more bw9.size)
 have HW9:=Lib.hid hW9
 rw[←hY9]
 clear hW9 hb9 r9 ro9 bw9 bu9 hY9
 have h10c:=HFF.out W9 ⟨32,9,100,false,[],[],[],0,false⟩ A9a k9a A9b k9b A9c k9c HR9.out (by decide) (by decide)
 rw[show askP ⟨32,9,100,false,[],[],[],0,false⟩=0 from by decide,←HY9E.out]at h10c
 have H10C:=Lib.hid (h10c.mono fun e w' h=>out_n h ⟨32,9,100,false,[],[],[],0,false⟩ 0 [] (flushed_none (beg_good (s:=32) (h:=9) (m:=100) false (by decide)) rfl rfl) rfl)
 clear h10c
 go_wp2_with (first
  |(refine wpList_store_rowTo rfl _ _ _ rfl rfl w9.heap.size Y9 rfl rfl 32 Z (heap_alloc_new w9 _) (by rw[HY9S.out];exact szPrs) (by rw[HZS.out,HY9S.out]) HY9O.out ?_;rw[show(w9.alloc (.cells Z 32)).setRow w9.heap.size Y9=mkV w9 Z Y9 32 from rfl,←HW9.out])
  |(refine wpList_load_row rfl _ _ rfl (w9.heap.size) rfl _ Y9 (0,0) _ HX9at9.out Tryz.underlying32 rfl (by rw[HY9S.out];exact szPrs) ?_)
  |fail)
 refine H10C.out.mono ?_
 rintro e w10 ⟨A10a,k10a,A10b,k10b,A10c,k10c,A10d,k10d,rfl,r10,ro10,hb10⟩
 obtain⟨Y10,hY10⟩:∃Y,Y=prsA ⟨32,9,100,false,[],[],[],0,false⟩ A10a k10a A10b k10b A10c k10c:=⟨_,rfl⟩
 have HY10S:Hid (Y10.size=9):=Lib.hid (by rw[hY10];rfl)
 have HY10O:Hid (Y10.all (·.oneCell')=true):=Lib.hid (by rw[hY10];exact prsA_one ..)
 have HY10E:=Lib.hid hY10
 obtain⟨W10,hW10⟩:∃W,W=mkV w10 Z Y10 32:=⟨_,rfl⟩
 have HX10at10:Hid (BoxC W10 w10.heap.size Y10 32):=Lib.hid (by rw[hW10];exact mkV_row _ _ _ _)
 have bw10:Below w10.heap.size w10 W10:=by rw[hW10];exact mkV_below _ _ _ _
 have bu10:Below W9.heap.size W9 W10:=hb10.trans (bw10.mono hb10.size)
 have HBU10:=Lib.hid bu10
 have HB10:Hid (Below w.heap.size w W10):=Lib.hid (HB9.out.trans (bu10.mono HB9.out.size))
 have HR10:Hid (PrsR W10 W10.heap.size ⟨32,9,100,false,[],[],[],0,false⟩ A10a k10a A10b k10b A10c k10c):=Lib.hid (r10.on bw10)
 have HRO10:Hid (ByR W10 W10.heap.size A10d 0 k10d (lst [])):=Lib.hid ((ro10.below bw10 (Nat.le_refl _)).more bw10.size)
 have HW10:=Lib.hid hW10
 rw[←hY10]
 clear hW10 hb10 r10 ro10 bw10 bu10 hY10
 go_wp2_with (first
  |(refine wpList_store_rowTo rfl _ _ _ rfl rfl w10.heap.size Y10 rfl rfl 32 Z (heap_alloc_new w10 _) (by rw[HY10S.out];exact szPrs) (by rw[HZS.out,HY10S.out]) HY10O.out ?_;rw[show(w10.alloc (.cells Z 32)).setRow w10.heap.size Y10=mkV w10 Z Y10 32 from rfl,←HW10.out])
  |fail)
 refine(HSTY.out W10).mono ?_
 rintro e w11 ⟨rfl,hb11⟩
 obtain⟨V11,hV11⟩:∃W,W=mkV w11 #[.int .i64 0,.int .i64 0,.int .i64 0,.bool false] #[.int .i64 32,.int .i64 9,.int .i64 100,.bool false] 27:=⟨_,rfl⟩
 have x11:BoxC V11 w11.heap.size #[.int .i64 32,.int .i64 9,.int .i64 100,.bool false] 27:=by rw[hV11];exact mkV_row _ _ _ _
 have b11:Below w11.heap.size w11 V11:=by rw[hV11];exact mkV_below _ _ _ _
 obtain⟨W11,hW11⟩:∃W,W=V11.setCell ⟨w11.heap.size,2,none⟩ (.int .i64 1):=⟨_,rfl⟩
 have hx11:BoxC W11 w11.heap.size #[.int .i64 32,.int .i64 9,.int .i64 1,.bool false] 27:=by rw[hW11];exact x11.set 2 _
 have bu11:Below W10.heap.size W10 W11:=by rw[hW11];exact hb11.trans ((below_cell b11 (Nat.le_refl _) 2 _).mono hb11.size)
 have c11:V11.cell? ⟨w11.heap.size,2,none⟩=some (.int .i64 100):=x11.cell.trans rfl
 have f11:V11.frozen? ⟨w11.heap.size,2,none⟩=false:=x11.free
 have HX11:=Lib.hid hx11
 have HBU11:=Lib.hid bu11
 have HB11:Hid (Below w.heap.size w W11):=Lib.hid (HB10.out.trans (bu11.mono HB10.out.size))
 have HV11:=Lib.hid hV11;have HW11:=Lib.hid hW11
 clear hb11 hV11 x11 b11 hW11 hx11 bu11
 go_wp2_with (first
  |(refine wpList_store_rowTo rfl _ _ _ rfl rfl w11.heap.size #[.int .i64 32,.int .i64 9,.int .i64 100,.bool false] rfl rfl 27 #[.int .i64 0,.int .i64 0,.int .i64 0,.bool false] (heap_alloc_new w11 _) szSty12 rfl (by simp[Value.oneCell']) ?_;rw[show(w11.alloc (.cells #[.int .i64 0,.int .i64 0,.int .i64 0,.bool false] 27)).setRow w11.heap.size #[.int .i64 32,.int .i64 9,.int .i64 100,.bool false]=mkV w11 #[.int .i64 0,.int .i64 0,.int .i64 0,.bool false] #[.int .i64 32,.int .i64 9,.int .i64 100,.bool false] 27 from rfl,←HV11.out])
  |(rw[←HW11.out];refine wpList_load_row rfl _ _ rfl w11.heap.size rfl _ _ (0,0) _ HX11.out Tryz.underlying27 rfl szSty12 ?_)
  |fail)
 refine(HNN.out W11 1 (by decide)).mono ?_
 rintro e w12 ⟨A12a,k12a,A12b,k12b,A12c,k12c,rfl,r12,hb12⟩
 obtain⟨Y12,hY12⟩:∃Y,Y=prsA ⟨32,9,1,false,[],[],[],0,false⟩ A12a k12a A12b k12b A12c k12c:=⟨_,rfl⟩
 have HY12S:Hid (Y12.size=9):=Lib.hid (by rw[hY12];rfl)
 have HY12O:Hid (Y12.all (·.oneCell')=true):=Lib.hid (by rw[hY12];exact prsA_one ..)
 have HY12E:=Lib.hid hY12
 obtain⟨W12,hW12⟩:∃W,W=mkV w12 Z Y12 32:=⟨_,rfl⟩
 have HX12at12:Hid (BoxC W12 w12.heap.size Y12 32):=Lib.hid (by rw[hW12];exact mkV_row _ _ _ _)
 have bw12:Below w12.heap.size w12 W12:=by rw[hW12];exact mkV_below _ _ _ _
 have bu12:Below W11.heap.size W11 W12:=hb12.trans (bw12.mono hb12.size)
 have HBU12:=Lib.hid bu12
 have HB12:Hid (Below w.heap.size w W12):=Lib.hid (HB11.out.trans (bu12.mono HB11.out.size))
 have HR12:Hid (PrsR W12 W12.heap.size ⟨32,9,1,false,[],[],[],0,false⟩ A12a k12a A12b k12b A12c k12c):=Lib.hid (r12.on bw12)
 have HW12:=Lib.hid hW12
 rw[←hY12]
 clear hW12 hb12 r12 bw12 bu12 hY12
 obtain⟨R13,hR13⟩:∃R,R=writeP (begP 32 9 1 false) [97,98]:=⟨_,rfl⟩
 have eL:R13.2=[74,4,40,9]:=by rw[hR13];exact pval_two.1
 have eK:R13.1.k=4:=by rw[hR13];exact pval_two.2
 have h13c:=HWA.out W12 ⟨32,9,1,false,[],[],[],0,false⟩ A12a k12a A12b k12b A12c k12c HR12.out rfl rfl #[.int .u8 97,.int .u8 98] [97,98] rfl (by intro x hx;simp at hx;omega) 2 rfl (by omega) (by decide) R13.1 4 [74,4,40,9] (by rw[←eL];exact hR13.symm) rfl
 rw[←HY12E.out]at h13c
 have H13C:=Lib.hid h13c;have HEK:=Lib.hid eK
 clear h13c eL eK hR13 c11 f11
 go_wp2_with (first
  |(refine wpList_store_rowTo rfl _ _ _ rfl rfl w12.heap.size Y12 rfl rfl 32 Z (heap_alloc_new w12 _) (by rw[HY12S.out];exact szPrs) (by rw[HZS.out,HY12S.out]) HY12O.out ?_;rw[show(w12.alloc (.cells Z 32)).setRow w12.heap.size Y12=mkV w12 Z Y12 32 from rfl,←HW12.out])
  |(refine wpList_load_row rfl _ _ rfl (w12.heap.size) rfl _ Y12 (0,0) _ HX12at12.out Tryz.underlying32 rfl (by rw[HY12S.out];exact szPrs) ?_)
  |fail)
 refine H13C.out.mono ?_
 rintro e w13 ⟨A13a,k13a,A13b,k13b,A13c,k13c,A13d,k13d,rfl,r13,ro13,hb13⟩
 obtain⟨Y13,hY13⟩:∃Y,Y=prsA R13.1 A13a k13a A13b k13b A13c k13c:=⟨_,rfl⟩
 have HY13S:Hid (Y13.size=9):=Lib.hid (by rw[hY13];rfl)
 have HY13O:Hid (Y13.all (·.oneCell')=true):=Lib.hid (by rw[hY13];exact prsA_one ..)
 have HY13E:=Lib.hid hY13
 obtain⟨W13,hW13⟩:∃W,W=mkV w13 Z Y13 32:=⟨_,rfl⟩
 have HX13at13:Hid (BoxC W13 w13.heap.size Y13 32):=Lib.hid (by rw[hW13];exact mkV_row _ _ _ _)
 have bw13:Below w13.heap.size w13 W13:=by rw[hW13];exact mkV_below _ _ _ _
 have bu13:Below W12.heap.size W12 W13:=hb13.trans (bw13.mono hb13.size)
 have HBU13:=Lib.hid bu13
 have HB13:Hid (Below w.heap.size w W13):=Lib.hid (HB12.out.trans (bu13.mono HB12.out.size))
 have HR13:Hid (PrsR W13 W13.heap.size R13.1 A13a k13a A13b k13b A13c k13c):=Lib.hid (r13.on bw13)
 have HRO13:Hid (ByR W13 W13.heap.size A13d 4 k13d (lst [74,4,40,9])):=Lib.hid ((ro13.below bw13 (Nat.le_refl _)).more bw13.size)
 have HW13:=Lib.hid hW13
 rw[←hY13]
 clear hW13 hb13 r13 ro13 bw13 bu13 hY13
 go_wp2_with (first
  |(refine wpList_store_rowTo rfl _ _ _ rfl rfl w13.heap.size Y13 rfl rfl 32 Z (heap_alloc_new w13 _) (by rw[HY13S.out];exact szPrs) (by rw[HZS.out,HY13S.out]) HY13O.out ?_;rw[show(w13.alloc (.cells Z 32)).setRow w13.heap.size Y13=mkV w13 Z Y13 32 from rfl,←HW13.out])
  |fail)
 refine(HAL.out W13).mono ?_
 rintro e W14 ⟨rfl,bu14⟩
 have HBU14:=Lib.hid bu14
 have HB14:Hid (Below w.heap.size w W14):=Lib.hid (HB13.out.trans (bu14.mono HB13.out.size))
 have HX13at14:Hid (BoxC W14 (w13.heap.size) Y13 32):=Lib.hid (HX13at13.out.below bu14 HX13at13.out.lt)
 clear bu14
 have s1:(convert 22 9 (.slice A2d 2 k2d)).run Tryz.prog W14=.ok (.string (strL [3,0])) W14:=run_str (HRO2.out.below (below_go (below_go (below_go (below_go (below_go (below_go (below_go (below_go (below_go (below_go (below_go HBU3.out HBU4.out) HBU5.out) HBU6.out) HBU7.out) HBU8.out) HBU9.out) HBU10.out) HBU11.out) HBU12.out) HBU13.out) HBU14.out) (Nat.le_refl _)).1 k2d
 have s2:(convert 22 9 (.slice A6d 6 k6d)).run Tryz.prog W14=.ok (.string (strL [0,1,0,254,255,97])) W14:=run_str (HRO6.out.below (below_go (below_go (below_go (below_go (below_go (below_go (below_go HBU7.out HBU8.out) HBU9.out) HBU10.out) HBU11.out) HBU12.out) HBU13.out) HBU14.out) (Nat.le_refl _)).1 k6d
 have s3:(convert 22 9 (.slice A7d 2 k7d)).run Tryz.prog W14=.ok (.string (strL [3,0])) W14:=run_str (HRO7.out.below (below_go (below_go (below_go (below_go (below_go (below_go HBU8.out HBU9.out) HBU10.out) HBU11.out) HBU12.out) HBU13.out) HBU14.out) (Nat.le_refl _)).1 k7d
 have s4:(convert 22 9 (.slice A13d 4 k13d)).run Tryz.prog W14=.ok (.string (strL [74,4,40,9])) W14:=run_str (HRO13.out.below HBU14.out (Nat.le_refl _)).1 k13d
 rw[←strE [3,0] #[3,0] rfl]at s1 s3
 rw[←strE [0,1,0,254,255,97] #[0,1,0,254,255,97] rfl]at s2
 rw[←strE [74,4,40,9] #[74,4,40,9] rfl]at s4
 have c7:W14.cell? ⟨w13.heap.size,7,none⟩=some (.int .i64 4):=by rw[HX13at14.out.cell,HY13E.out,←HEK.out];rfl
 have hck:=HCC.out W14 ⟨0,0,0,false,[],[],[],0,false⟩ none 0 none 0 none 0 ⟨ByR.nil _ _ _ (lst_lt (L:=[]) (fun x hx=>by cases hx)),ByR.nil _ _ _ (lst_lt (L:=[]) (fun x hx=>by cases hx)),ByR.nil _ _ _ (lst_lt (L:=[]) (fun x hx=>by cases hx))⟩
 rw[show chkP ⟨0,0,0,false,[],[],[],0,false⟩=8 from by decide,←HZE.out]at hck
 have HCK:=Lib.hid hck
 clear kc hck
 go_wp2_with (first
  |(refine wpList_buildTo_on (by rfl) 32 #[] rfl (some 170) rfl Z (by simpa using hb0) ?_)
  |fail)
 refine HCK.out.mono ?_
 rintro e W15 ⟨rfl,bu15⟩
 have HBU15:=Lib.hid bu15
 have HB15:Hid (Below w.heap.size w W15):=Lib.hid (HB14.out.trans (bu15.mono HB14.out.size))
 clear bu15
 go_wp2
 go_ret
 exact⟨rfl,HB15.out⟩
end Go.Proofs.YtokpcpjnihinfaaGreat
