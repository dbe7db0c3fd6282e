/-
  Words and walks.
-/
import Derived.Test.Ytcmpmighjglnpaasaab
import Derived.Test.Ytcmpmighjglnpaasaao
import Derived.Test.Ytcmpmighjglnpaasaap
set_option maxRecDepth 100000
set_option maxHeartbeats 16000000
namespace Go.Proofs.Ytcmpmighjglnpaa
open Go.RowKit
theorem pfixed_gen(w:World)(p:Nat)(A:Option Addr)(l c:Nat)(s:Rz)(h:Rdr w p A l c s)(F1 F2:Nat→Nat)(h1:∀j,F1 j<256)(h2:∀j,F2 j<256)
  (hfx:∀w:World,Calls Try.prog 67 #[] w fun e w'=>∃A1 c1 A2 c2,e=.returned (.tuple #[.slice A1 288 c1,.slice A2 32 c2])∧
   w'.ownsRow w.heap.size 5 1 (.slice A1 288 c1) 288 (bytesL 288 F1)∧w'.ownsRow w.heap.size 5 1 (.slice A2 32 c2) 32 (bytesL 32 F2)∧Below w.heap.size w w'):
  Calls Try.prog 51 #[.pointer (some ⟨p,0,none⟩)] w fun e w'=>∃u1 u2,e=.returned (.tuple #[.agg (trA (grC F1 288 15) u1),.agg (trA (grC F2 32 15) u2)])∧
   Rdr w' p A l c (gwS F2 32 15 (gwS F1 288 15 s))∧OwnS w' w.heap.size u1 (grS F1 288 15)∧OwnS w' w.heap.size u2 (grS F2 32 15)∧Fr (At p) w w':=by
 have hp:=h.lt
 obtain⟨k,hk⟩:∃k,k=w.heap.size:=⟨_,rfl⟩
 obtain⟨Z,hZ⟩:∃Z,Z=trA (fun _=>0) (.slice none 0 0):=⟨_,rfl⟩
 obtain⟨W1,hW1⟩:∃W1,W1=(w.alloc (.cells Z 26)).alloc (.cells Z 26):=⟨_,rfl⟩
 have hb1:Below k w W1:=by rw[hW1,hk];exact((Below.refl _ _).alloc (Nat.le_refl _) _).alloc (by simp) _
 have hs1:W1.heap.size=k+2:=by rw[hW1,hk];simp
 have z1:BoxC W1 k Z 26:=by rw[hW1,hk];exact(BoxC.new w _ _).old _
 have y1:BoxC W1 (k+1) Z 26:=by rw[hW1,hk];have:=BoxC.new (w.alloc (.cells Z 26)) Z 26;rwa[World.size_alloc]at this
 have HD1:=Lib.hid (BoxC.below h hb1 (by omega):Rdr W1 p A l c s)
 have HF1:=Lib.hid (Fr.of (S:=At p) (hk▸hb1))
 have hzb:∀u:World,(zeroValue 26).run Try.prog u=.ok (.agg Z) u:=by rw[hZ];exact(zero_of_info infoTree13).1
 have HZS:Hid (Z.size=17):=Lib.hid (by rw[hZ,trA_size])
 have HFX:=Lib.hid (hfx W1)
 have HW1:=Lib.hid hW1;have HK:=Lib.hid hk;have HS1:=Lib.hid hs1;have HZ1:=Lib.hid z1;have HY1:=Lib.hid y1
 have HP:Hid (p<k):=Lib.hid (by omega)
 have H1:=Lib.hid h1;have H2:=Lib.hid h2
 clear h hZ hW1 hk hb1 hs1 z1 y1 hfx hp h1 h2
 go_enter Try.func51,Try.ntmps51
 go_wp2_with (first|(rw[←HW1.out,←HK.out])|fail)
 refine HFX.out.mono ?_
 rintro e w2 ⟨A1,c1,A2,c2,rfl,o1,o2,hb2⟩
 have HD2:=Lib.hid (BoxC.below HD1.out hb2 HD1.out.lt:Rdr w2 p A l c s)
 have hr1:=(ByR.of_own o1 H1.out).1
 have hr2:=(ByR.of_own o2 H2.out).1
 have hn2:∀b o,0<32→A2=some ⟨b,o,none⟩→¬At p b:=fun b o h0 e (hb:b=p)=>by
  obtain⟨g',cap,hv,hge,_⟩:=o2.form h0
  injection hv with hv _ _
  rw[e]at hv
  injection hv with hv
  injection hv with e1 _ _
  have:=HP.out;have:=HS1.out;omega
 have HR2:Hid (RdF (At p) w2 A2 32 F2):=Lib.hid ⟨hr2,hn2⟩
 have HG1:=Lib.hid (pgrow_any w2 p A l c s HD2.out A1 288 c1 F1 hr1 (by omega) 15)
 have HF2:=Lib.hid (HF1.out.on hb2)
 have HZ2:=Lib.hid (HZ1.out.below hb2 HZ1.out.lt);have HY2:=Lib.hid (HY1.out.below hb2 HY1.out.lt)
 have HK2:Hid (k+2≤w2.heap.size):=Lib.hid (by have:=hb2.size;rw[HS1.out]at this;exact this)
 clear o1 o2 hb2 hr1 hr2 hn2 HFX
 go_wp2_with fail
 refine HG1.out.mono ?_
 rintro e w3 ⟨u1,rfl,r3,o3,f3⟩
 have HR3:=Lib.hid (HR2.out.fr f3)
 have HO3:=Lib.hid o3
 have HF3:=Lib.hid (HF2.out.trans f3)
 have HG2:=Lib.hid (pgrow_any w3 p A l c _ r3 A2 32 c2 F2 HR3.out.1 (by omega) 15)
 have hpk:¬At p k∧¬At p (k+1):=by have:=HP.out;exact⟨by show¬k=p;omega,by show¬k+1=p;omega⟩
 have HZ3:=Lib.hid (HZ2.out.fr f3 hpk.1);have HY3:=Lib.hid (HY2.out.fr f3 hpk.2)
 have HK3:Hid (k+2≤w3.heap.size):=Lib.hid (Nat.le_trans HK2.out f3.size)
 obtain⟨X,hX⟩:∃X,X=trA (grC F1 288 15) u1:=⟨_,rfl⟩
 rw[←hX]
 have HXS:Hid (X.size=17):=Lib.hid (by rw[hX,trA_size])
 have HXO:Hid (X.all (·.oneCell')=true):=Lib.hid (by rw[hX];exact trA_one _ _ o3.one)
 have HXE:=Lib.hid hX
 clear r3 o3 f3 hX HG1 HR2 HD2
 go_wp2_with fail
 refine HG2.out.mono ?_
 rintro e w4 ⟨u2,rfl,r4,o4,f4⟩
 obtain⟨Y,hY⟩:∃X,X=trA (grC F2 32 15) u2:=⟨_,rfl⟩
 rw[←hY]
 have HYS:Hid (Y.size=17):=Lib.hid (by rw[hY,trA_size])
 have HYO:Hid (Y.all (·.oneCell')=true):=Lib.hid (by rw[hY];exact trA_one _ _ o4.one)
 have HYE:=Lib.hid hY
 have HZ4:=Lib.hid (HZ3.out.fr f4 hpk.1)
 have HY4:Hid (BoxC (w4.setRow k X) (k+1) Z 26):=Lib.hid ((HY3.out.fr f4 hpk.2).rowO (by omega) _)
 have HO1:=Lib.hid (HO3.out.fr f4 (fun j (e:j=p)=>by have:=HP.out;have:=HK2.out;omega))
 have HO2:=Lib.hid o4;have HR4:=Lib.hid r4;have HF4:=Lib.hid (HF3.out.trans f4)
 clear r4 o4 f4 hY HG2 HZ3 HY3 HO3 HF3 hpk
 go_wp2_with (first
  |(refine wpList_store_rowTo rfl _ _ _ rfl rfl k X rfl rfl 26 Z HZ4.out (szTree17 HXS.out) (by rw[HZS.out,HXS.out]) HXO.out ?_)
  |(refine wpList_store_rowTo rfl _ _ _ rfl rfl (k+1) Y rfl rfl 26 Z HY4.out (szTree17 HYS.out) (by rw[HZS.out,HYS.out]) HYO.out ?_)
  |fail)
 have hkk:=HK2.out;have hkk3:=HK3.out;have hpp:=HP.out
 refine bodyPost_ret (v:=.tuple #[.agg X,.agg Y]) (cell_twoT rfl _ _ k (k+1) X Y HXS.out HYS.out rfl rfl (BoxC.rowO (show BoxC (w4.setRow k X) k X 26 from setRow_heap _ _ _ _ _ _ HZ4.out) (by omega) _) (setRow_heap _ _ _ _ _ _ HY4.out)) rfl ⟨u1,u2,by rw[HXE.out,HYE.out],?_,?_,?_,?_⟩
 ·exact BoxC.rowO (BoxC.rowO HR4.out (by omega) _) (by omega) _
 ·rw[←HK.out];exact ownsRow_lower (own_blk HO1.out fun j hj=>(setRow_other _ _ _ _ (by have:=(own_blk_lt HO1.out j hj).1;omega)).trans (setRow_other _ _ _ _ (by have:=(own_blk_lt HO1.out j hj).1;omega))) (by omega)
 ·rw[←HK.out];exact ownsRow_lower (own_blk HO2.out fun j hj=>(setRow_other _ _ _ _ (by have:=(own_blk_lt HO2.out j hj).1;omega)).trans (setRow_other _ _ _ _ (by have:=(own_blk_lt HO2.out j hj).1;omega))) (by omega)
 ·exact(HF4.out.from (Fr.row w4 k X) fun j hj=>.inr (by rw[←HK.out];exact Nat.le_of_eq hj.symm)).from (Fr.row _ (k+1) Y) fun j hj=>.inr (by rw[←HK.out];have:j=k+1:=hj;omega)
def dyL(g:Nat→Nat)(L:Nat)(s:Rz):Nat:=tkV g L 5 s+257
def dyS1(L:Nat)(s:Rz):Rz:=tkS L 5 s
def dyF(g:Nat→Nat)(L:Nat)(s:Rz):Nat:=tkV g L 5 (dyS1 L s)+1
def dyS2(L:Nat)(s:Rz):Rz:=tkS L 5 (dyS1 L s)
def dyC(g:Nat→Nat)(L:Nat)(s:Rz):Nat:=tkV g L 4 (dyS2 L s)+4
def dyS4(g:Nat→Nat)(L:Nat)(s:Rz):Rz:=wantS (tkS L 4 (dyS2 L s)) (decide (dyL g L s≤286∧dyF g L s≤30)) 132
def dyH(g:Nat→Nat)(L:Nat)(s:Rz):Nat→Nat:=shG g L (dyS4 g L s) (dyC g L s)
def dyS5(g:Nat→Nat)(L:Nat)(s:Rz):Rz:=wantS (gwS (dyH g L s) 19 7 (shS L (dyS4 g L s) (dyC g L s))) (decide (2≤(((grS (dyH g L s) 19 7).length:Nat):Int))) 132
def dyR(g:Nat→Nat)(L:Nat)(s:Rz):List (Int×Int)×Rz:=lnS (extF 19 (dyH g L s)) g L (dyL g L s+dyF g L s) (dyL g L s+dyF g L s) 0 [] (dyS5 g L s)
def dyO(g:Nat→Nat)(L:Nat)(s:Rz):List Nat:=(strO (dyR g L s).1 ((dyL g L s+dyF g L s:Nat):Int)).2
def dyS9(g:Nat→Nat)(L:Nat)(s:Rz):Rz:=if(dyR g L s).2.2≠0 then(dyR g L s).2 else gwS (lst ((dyO g L s).drop (dyL g L s))) (dyF g L s) 15 (gwS (lst (dyO g L s)) (dyL g L s) 15 (wantS (dyR g L s).2 (decide (0<lst (dyO g L s) 256)) 132))
def dyG1(g:Nat→Nat)(L:Nat)(s:Rz):Nat→Int:=if(dyR g L s).2.2≠0 then fun _=>0 else grC (lst (dyO g L s)) (dyL g L s) 15
def dyG2(g:Nat→Nat)(L:Nat)(s:Rz):Nat→Int:=if(dyR g L s).2.2≠0 then fun _=>0 else grC (lst ((dyO g L s).drop (dyL g L s))) (dyF g L s) 15
def dyY1(g:Nat→Nat)(L:Nat)(s:Rz):List Int:=if(dyR g L s).2.2≠0 then[]else grS (lst (dyO g L s)) (dyL g L s) 15
def dyY2(g:Nat→Nat)(L:Nat)(s:Rz):List Int:=if(dyR g L s).2.2≠0 then[]else grS (lst ((dyO g L s).drop (dyL g L s))) (dyF g L s) 15
theorem dyS4_in{g:Nat→Nat}{L:Nat}{s:Rz}(h:s.1≤8*L):(dyS4 g L s).1≤8*L:=by unfold dyS4;rw[wantS_in];exact tkS_in (tkS_in (tkS_in h))
theorem dyS5_in{g:Nat→Nat}{L:Nat}{s:Rz}(h:s.1≤8*L):(dyS5 g L s).1≤8*L:=by unfold dyS5 gwS;rw[wantS_in,wantS_in];exact shS_in (dyS4_in h) _
theorem wantS_ok{s:Rz}{b:Bool}{x:Int}(hx:x≠0)(h:(wantS s b x).2=0):s.2=0∧b=true:=by
 unfold wantS keepS at h
 cases b
 ·exfalso
  rw[if_neg (by decide)]at h
  split at h
  ·exact hx h
  ·rename_i h2;exact h2 h
 ·rw[if_pos rfl]at h;exact⟨h,rfl⟩
theorem dyS5_ok{g:Nat→Nat}{L:Nat}{s:Rz}(h:(dyS5 g L s).2=0):checkE (dyH g L s) 19 7=0:=of_decide_eq_true (wantS_ok (by decide) (wantS_ok (by decide) h).1).2
theorem exec_slice{P:Program}{o:Oper}{a:Act}(t:TypeId)(x:Operand)(lo hi:Option Operand)(ho:o.op=.slice t x lo hi none)(u v:Value)(lo' hi':Option Value)(hx:a.eval x=u)(h1:lo.map a.eval=lo')(h2:hi.map a.eval=hi')(hr:∀w,(Instr.sliceAt t u lo' hi' none).run P w=.ok v w)(w:World):(execOp a.eval o).run P w=.ok (.value v) w:=by
 unfold execOp;simp only[ho,hx,h1,h2,Option.map_none,Sem.run_bind,hr,Result.andThen_ok];rfl
theorem exec_move{P:Program}{o:Oper}{a:Act}(x:Operand)(ho:o.op=.move x)(u:Value)(hx:a.eval x=u)(w:World):(execOp a.eval o).run P w=.ok (.value u) w:=by
 unfold execOp;simp only[ho,hx];rfl
theorem drop_rd{w:World}{B:Nat}{b o n:Nat}{O:List Nat}{k:Nat}(h:RdB w B (some ⟨b,o,none⟩) n (lst O))(hk:k≤n):RdB w B (some ⟨b,o+k,none⟩) (n-k) (lst (O.drop k)):=by
 refine⟨fun j=>?_,fun h0=>?_⟩
 ·have:=h.1 (k+j);unfold lst at this⊢;rwa[List.getD_eq_getElem?_getD,List.getElem?_drop,←List.getD_eq_getElem?_getD]
 ·obtain⟨b',o',e,hb,hc⟩:=h.2 (by omega)
  cases e
  refine⟨b,o+k,rfl,hb,fun j hj=>?_⟩
  have:=hc (k+j) (by omega)
  rw[←Nat.add_assoc]at this
  rw[this];unfold lst
  rw[List.getD_eq_getElem?_getD,List.getD_eq_getElem?_getD,List.getElem?_drop]
end Go.Proofs.Ytcmpmighjglnpaa
