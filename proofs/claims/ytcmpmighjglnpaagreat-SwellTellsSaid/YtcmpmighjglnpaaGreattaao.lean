/-
  Words and walks.
-/
import Derived.StillTail
import Derived.Test.YtcmpmighjglnpaaGreattaab
import Derived.Test.YtcmpmighjglnpaaGreattaad
import Derived.Test.YtcmpmighjglnpaaGreattaan
set_option maxRecDepth 100000
set_option maxHeartbeats 16000000
namespace Go.Proofs.YtcmpmighjglnpaaGreat
open Go.RowKit Go.ChangeShapes Go.WideShapes Go.ChangeAt Go.Joins
theorem lnS_end{F g:Nat→Nat}{L n:Nat}:∀{k made:Nat} {l:List (Int×Int)} {s:Rz},¬(made<n∧s.2=0)→lnS F g L n k made l s=(l,s)
 |0,_,_,_,_=>rfl
 |k+1,_,_,_,h=>by unfold lnS;rw[if_neg h]
theorem lnS_on{F g:Nat→Nat}{L n k made:Nat}{l:List (Int×Int)}{s:Rz}(h:made<n∧s.2=0):lnS F g L n (k+1) made l s=lnS F g L n k (made+ruT F g L s) (l++[((ruY F g L s:Int),(ruX F g L s:Int))]) (ruE F g L n made s):=by
 rw[lnS,if_pos h]
theorem timesR_in{y x:Nat}(hx:x<128):1≤timesR (y:Int) (x:Int)∧timesR (y:Int) (x:Int)≤138:=by
 unfold timesR;split
 ·omega
 ·split<;>omega
theorem ruX_lt(F g:Nat→Nat)(L:Nat)(s:Rz):ruX F g L s<128:=by
 have h:=tkV_lt g L (bitsR (ruY F g L s:Int)) (ruS1 F g L s)
 have h2:(2:Nat)^(bitsR (ruY F g L s:Int))≤2^7:=Nat.pow_le_pow_right (by omega) (bitsR_le _)
 have h3:(2:Nat)^7=128:=rfl
 have h4:ruX F g L s=tkV g L (bitsR (ruY F g L s:Int)) (ruS1 F g L s):=rfl
 omega
theorem ruS_in{F g:Nat→Nat}{L:Nat}{s:Rz}(h:s.1≤8*L):(ruS F g L s).1≤8*L:=tkS_in (syS_in h)
theorem ruE_in{F g:Nat→Nat}{L n made:Nat}{s:Rz}(h:s.1≤8*L):(ruE F g L n made s).1≤8*L:=by unfold ruE;rw[wantS_in,wantS_in];exact ruS_in h
def UpB(p B:Nat):Nat→Prop:=fun j=>j=p∨B≤j
theorem own_fr{S:Nat→Prop}{w w':World}{base sz n:Nat}{e:TypeId}{v:Value}{xs:List Value}(h:w.ownsRow base e sz v n xs)(k:Fr S w w')(hS:∀j,S j→j<base):w'.ownsRow base e sz v n xs:=
 own_blk h fun j hj=>k.block j (own_blk_lt h j hj).2 fun hs=>by have:=hS j hs;have:=(own_blk_lt h j hj).1;omega
theorem Fr.up{w w':World}{p B:Nat}(h:Below B w w'):Fr (UpB p B) w w':=⟨h.os,h.tape,h.output,h.size,fun k _ hk=>h.block k (by rcases Nat.lt_or_ge k B with x|x;exact x;exact absurd (.inr x) hk)⟩
theorem plengths_any(w:World)(p:Nat)(A:Option Addr)(l c:Nat)(g:Nat→Nat)(s:Rz)(h:Rdr w p A l c s)(S:Nat→Prop)(hS:S p)(hSw:∀j,S j→j<w.heap.size)(hg:RdF S w A l g)(hl:l≤1000000)(hs:s.1≤8*l)(F:Nat→Nat)(ct:Nat→Int)(u:Value)(hu:u.oneCell'=true)(ht:s.2=0→TrF S w F ct u)(n:Nat)(hn:n≤400):
  Calls Tryz.prog 127 #[.pointer (some ⟨p,0,none⟩),.agg (trA ct u),.int .i64 (n:Int)] w fun e w'=>∃A' n' c',e=.returned (.slice A' n' c')∧n'=(strO (lnS F g l n n 0 [] s).1 (n:Int)).2.length∧
   ByR w' w'.heap.size A' n' c' (lst (strO (lnS F g l n n 0 [] s).1 (n:Int)).2)∧NewB w' w.heap.size A' n'∧Rdr w' p A l c (lnS F g l n n 0 [] s).2∧Fr (At p) w w':=by
 have hp:=h.lt
 obtain⟨k,hk⟩:∃k,k=w.heap.size:=⟨_,rfl⟩
 obtain⟨T,hT⟩:∃T,T=trA ct u:=⟨_,rfl⟩
 rw[←hT]
 obtain⟨R,hR⟩:∃R,R=lnS F g l n n 0 [] s:=⟨_,rfl⟩
 rw[←hR]
 obtain⟨W1,hW1⟩:∃W1,W1=w.alloc (.cells T 26):=⟨_,rfl⟩
 have hb1:Below k w W1:=by rw[hW1,hk];exact(Below.refl _ _).alloc (Nat.le_refl _) _
 have hs1:W1.heap.size=k+1:=by rw[hW1,hk];simp
 have t1:BoxC W1 k T 26:=by rw[hW1,hk];exact BoxC.new w _ _
 have fW:∀T:Nat→Prop,Fr T w W1:=fun T=>Fr.of (hk▸hb1)
 have h1:Rdr W1 p A l c s:=BoxC.below h hb1 (by omega)
 have hTS:Hid (T.size=17):=Lib.hid (by rw[hT,trA_size])
 have HR:=Lib.hid hR.symm;have HW1:=Lib.hid hW1;have HK:=Lib.hid hk;have HS1:=Lib.hid hs1;have HT1:=Lib.hid t1;have HD1:=Lib.hid h1;have HG0:=Lib.hid hg;have HT0:=Lib.hid ht;have HF1:=Lib.hid (fW (At p));have HTE:=Lib.hid hT
 have HP:Hid (p<k):=Lib.hid (by omega)
 have HSP:Hid (S p∧∀j,S j→j<k):=Lib.hid ⟨hS,by rw[hk];exact hSw⟩
 have HSZ:=Lib.hid hs;have HU:=Lib.hid hu
 clear h hg hT hR hW1 hk hb1 hs1 t1 h1 fW hp hS hSw hs ht hu
 go_enter Tryz.func127,Tryz.ntmps127
 go_wp2_with (first|(rw[←HW1.out,←HK.out])|fail)
 go_loopw [7,8] (fun lv mv wr=>∃(made m:Nat) (Al:Option Addr) (cl:Nat) (pre:List (Int×Int)) (q:Rz) (fu:Nat),made≤n+200∧m≤made∧lv=.slice Al m cl∧mv=.int .i64 (made:Int)∧Hid (lnS F g l n fu made pre q=R∧n≤fu+made)∧
  Hid (wr.ownsRow (k+1) 166 2 (.slice Al m cl) m (runsL pre))∧Hid (Rdr wr p A l c q)∧Hid (q.1≤8*l∧(q.2=0→s.2=0))∧Hid (Fr (UpB p (k+1)) W1 wr)) (fun _ mv wr=>match wr.cell? ⟨p,2,none⟩with|some (.int .i64 e)=>if e=0 then(n+300)-(intOf mv).toNat else 0|_=>0)
 case atStart=>exact⟨0,0,none,0,[],s,n,by omega,by omega,rfl,rfl,Lib.hid ⟨HR.out,by omega⟩,Lib.hid (World.ownsRow_nil _ _ _ 2),HD1,Lib.hid ⟨HSZ.out,id⟩,Lib.hid (Fr.refl _ _)⟩
 case round=>
  obtain⟨made,m,Al,cl,pre,q,fu,hmade,hmm,rfl,rfl,HL,HO,HD,HQ,HF⟩:=hrel
  have k2:=HD.out.e
  have hend:=fun(hx:¬(made<n∧q.2=0))=>(lnS_end (F:=F) (g:=g) (L:=l) (k:=fu) (l:=pre) hx).symm.trans HL.out.1
  have HFW:Hid (Fr (At p) w wr):=Lib.hid (HF1.out.from HF.out fun j e=>by rcases e with e|e;exact .inl e;exact .inr (by rw[←HK.out];omega))
  by_cases hlt:made<n∧q.2=0
  ·obtain⟨qa,qe⟩:=q
   obtain⟨hm1,rfl⟩:made<n∧qe=0:=hlt
   have hlti:(made:Int)<(n:Int):=by omega
   obtain⟨fu',rfl⟩:∃f,fu=f+1:=⟨fu-1,by have:=HL.out.2;omega⟩
   have hon:=(lnS_on (F:=F) (g:=g) (L:=l) (k:=fu') (l:=pre) (s:=(qa,0)) ⟨hm1,rfl⟩).symm.trans HL.out.1
   have hs0:=HQ.out.2 rfl
   have HGW:=Lib.hid (HG0.out.fr (HFW.out.mono fun j (e:j=p)=>e▸HSP.out.1))
   have hru:=prun_any wr p A l c g (qa,0) HD.out S HSP.out.1 HGW.out hl HQ.out.1 F ct u HU.out (fun _=>(HT0.out hs0).fr (HFW.out.mono fun j (e:j=p)=>e▸HSP.out.1))
   rw[←HTE.out]at hru
   have hx7:=ruX_lt F g l (qa,0)
   have hy9:ruY F g l (qa,0)<320:=syV_lt HQ.out.1 (by omega)
   have hEE:ruE F g l n made (qa,0)=wantS (wantS (ruS F g l (qa,0)) (decide (0<made∨ruY F g l (qa,0)≠16)) 132) (decide (made+ruT F g l (qa,0)≤n)) 132:=rfl
   have hEI:(ruE F g l n made (qa,0)).1≤8*l:=ruE_in HQ.out.1
   have hTT:ruT F g l (qa,0)=timesR (ruY F g l (qa,0):Int) (ruX F g l (qa,0):Int):=rfl
   obtain⟨y,hy⟩:∃y,y=ruY F g l (qa,0):=⟨_,rfl⟩
   obtain⟨x,hx⟩:∃x,x=ruX F g l (qa,0):=⟨_,rfl⟩
   obtain⟨q2,hq2⟩:∃x,x=ruS F g l (qa,0):=⟨_,rfl⟩
   obtain⟨q3,hq3⟩:∃x,x=ruE F g l n made (qa,0):=⟨_,rfl⟩
   obtain⟨tt,htt⟩:∃x,x=ruT F g l (qa,0):=⟨_,rfl⟩
   rw[←hy,←hx,←hq2]at hru
   rw[←hy,←htt,←hq2,←hq3]at hEE
   rw[←hx]at hx7
   rw[←hy]at hy9
   rw[←htt,←hy,←hx]at hTT
   rw[←hy,←hx,←hq3,←htt]at hon
   rw[←hq3]at hEI
   have hti:=timesR_in (y:=y) hx7
   rw[←hTT]at hti
   obtain⟨md,hmd⟩:∃x,x=made+tt:=⟨_,rfl⟩
   have hmdi:(made:Int)+(tt:Int)=(md:Int):=by omega
   rw[←hmd]at hon hEE
   have htm:=fun V=>ptimes_any V y x (by omega) (by omega)
   rw[←hTT]at htm
   have HRU:=Lib.hid hru;have HON:=Lib.hid hon;have HEE:=Lib.hid hEE;have HTM:=Lib.hid htm;have HEI:=Lib.hid hEI;have HTI:=Lib.hid hti;have HMD:=Lib.hid hmd;have HS0:=Lib.hid hs0
   have HBB:Hid ((0<made∧decide (0<made∨y≠16)=true)∨(made=0∧y=16∧decide (0<made∨y≠16)=false)∨(made=0∧¬y=16∧decide (0<made∨y≠16)=true)):=Lib.hid (by
    rcases Nat.eq_zero_or_pos made with z|z
    ·by_cases y6:y=16
     ·exact .inr (.inl ⟨z,y6,decide_eq_false (by omega)⟩)
     ·exact .inr (.inr ⟨z,y6,decide_eq_true (.inr y6)⟩)
    ·exact .inl ⟨z,decide_eq_true (.inl z)⟩)
   have HL2:=Lib.hid HL.out.2;have HK2:=Lib.hid k2
   clear hru hx7 hEE hon hEI hTT hti hmd htm hy hx hq2 hq3 htt hend HQ HL hs0 HGW
   have hmd2:md≤n+200:=by have:=HTI.out;have:=HMD.out;omega
   have hmade2:made<md:=by have:=HTI.out;have:=HMD.out;omega
   go_wp2_with (first
    |(refine wpList_load_row rfl _ _ rfl k rfl _ T (0,0) _ (HT1.out.fr HF.out (by have:=HP.out;show¬(k=p∨k+1≤k);omega)) Tryz.underlying26 rfl (szTree17 hTS.out) ?_)
    |fail)
   refine HRU.out.mono ?_
   rintro e w2 ⟨rfl,r2,f2⟩
   obtain⟨Y,hY⟩:∃Y:Array Value,Y=#[.int .i64 (y:Int),.int .i64 (x:Int)]:=⟨_,rfl⟩
   have HYS:Hid (Y.size=2):=Lib.hid (by rw[hY];rfl)
   have HYO:Hid (Y.all (·.oneCell')=true):=Lib.hid (by rw[hY];simp[Value.oneCell'])
   obtain⟨t,ht⟩:∃t,t=w2.heap.size:=⟨_,rfl⟩
   obtain⟨W3,hW3⟩:∃W,W=mkV w2 #[.int .i64 0,.int .i64 0] Y 166:=⟨_,rfl⟩
   have hb3:Below w2.heap.size w2 W3:=by rw[hW3];exact mkV_below _ _ _ _
   have y3:BoxC W3 t Y 166:=by rw[hW3,ht];exact mkV_row w2 _ Y _
   have c3:W3.cell? ⟨t,0,none⟩=some (.int .i64 (y:Int)):=by rw[y3.cell,hY];rfl
   have hkw:k+1≤wr.heap.size:=by have:=HF.out.size;rw[HS1.out]at this;exact this
   have htk:k+1≤t:=by have:=f2.size;omega
   have HD3:=Lib.hid (BoxC.below r2 hb3 r2.lt:Rdr W3 p A l c q2)
   have HF3:=Lib.hid (HF.out.trans ((f2.mono fun j e=>.inl e).on hb3):Fr (UpB p (k+1)) W1 W3)
   have HO3:Hid (W3.ownsRow (k+1) 166 2 (.slice Al m cl) m (runsL pre)):=Lib.hid (own_keepU (own_fr HO.out f2 (fun j (e:j=p)=>by have:=HP.out;omega)) hb3)
   have HTW:Hid (∀cs:Array Value,W3.heap[t]?=some (.cells cs 166 (0,0))→(Value.slice Al m cl).ownBlock≠some t):=Lib.hid fun cs _ e=>by have:=(own_blk_lt (own_fr HO.out f2 (fun j (e:j=p)=>by have:=HP.out;omega)) t e).2;omega
   have HW3:=Lib.hid hW3;have HT:=Lib.hid ht;have HY3:=Lib.hid y3;have HYE:=Lib.hid hY;have HTK:=Lib.hid htk
   have HWA:=Lib.hid fun b=>pwant_any W3 p A l c q2 HD3.out b 132
   clear r2 f2 hY ht hW3 hb3 y3 hkw htk HRU HO HF HD k2
   rcases HBB.out with⟨z,hbt⟩|⟨z,z6,hbt⟩|⟨z,z6,hbt⟩
   ·have d1:decide ((0:Int)<(made:Int))=true:=decY (by omega)
    have d1':decide (0<made)=true:=decY0 z
    have hY2:=HYE
    clear z
    go_wp2_with (first
     |(rw[←hY2.out];refine wpList_store_rowTo rfl _ _ _ rfl rfl w2.heap.size Y rfl rfl 166 #[.int .i64 0,.int .i64 0] (heap_alloc_new w2 _) (szRun13 HYS.out) (by rw[HYS.out];rfl) HYO.out ?_;change wpList _ _ _ _ _ (mkV w2 #[.int .i64 0,.int .i64 0] Y 166);rw[←HW3.out,←HT.out])
     |fail)
    refine(HWA.out _).mono ?_
    rintro e w4 ⟨rfl,r4,f4⟩
    rw[←hbt]at r4
    have HD4:=Lib.hid r4;have HF4:=Lib.hid (HF3.out.trans (f4.mono fun j e=>.inl e))
    have HO4:Hid (w4.ownsRow (k+1) 166 2 (.slice Al m cl) m (runsL pre)):=Lib.hid (own_fr HO3.out f4 (fun j (e:j=p)=>by have:=HP.out;omega))
    have HY4:=Lib.hid (HY3.out.fr f4 (by have:=HP.out;have:=HTK.out;show¬t=p;omega))
    have HTMX:=Lib.hid (HTM.out w4)
    clear r4 f4 HWA HTM
    go_wp2_with (first
     |(refine wpList_load_row rfl _ _ rfl t rfl _ Y (0,0) _ HY4.out Tryz.underlying166 rfl (szRun13 HYS.out) ?_;rw[hY2.out])
     |fail)
    refine HTMX.out.mono ?_
    rintro e w5 ⟨rfl,hb5⟩
    have HD5:=Lib.hid (BoxC.below HD4.out hb5 HD4.out.lt:Rdr w5 p A l c _)
    have HF5:=Lib.hid (HF4.out.on hb5)
    have HO5:Hid (w5.ownsRow (k+1) 166 2 (.slice Al m cl) m (runsL pre)):=Lib.hid (own_keepU HO4.out hb5)
    have HY5:=Lib.hid (HY4.out.below hb5 HY4.out.lt)
    have HWB:=Lib.hid (pwant_any w5 p A l c _ HD5.out (decide (md≤n)) 132)
    rw[←HEE.out]at HWB
    clear hb5 HTMX HD4 HF4 HO4 HY4
    go_wp2_with fail
    refine HWB.out.mono ?_
    rintro e w6 ⟨rfl,r6,f6⟩
    have HD6:=Lib.hid r6;have HF6:=Lib.hid (HF5.out.trans (f6.mono fun j e=>.inl e))
    have HO6:Hid (w6.ownsRow (k+1) 166 2 (.slice Al m cl) m (runsL pre)):=Lib.hid (own_fr HO5.out f6 (fun j (e:j=p)=>by have:=HP.out;omega))
    have HY6:=Lib.hid (HY5.out.fr f6 (by have:=HP.out;have:=HTK.out;show¬t=p;omega))
    have hsz6:k+1≤w6.heap.size:=by have:=HF6.out.size;rw[HS1.out]at this;exact this
    obtain⟨A',c',w7,hrun,hown,hb7⟩:=run_oneU w6 (k+1) Al m cl pre HO6.out ((y:Int),(x:Int)) (by omega) hsz6
    have HRUN:=Lib.hid hrun;have HOWN:=Lib.hid hown;have HB7:=Lib.hid hb7
    clear r6 f6 HWB hrun hown hb7 hsz6 HO5 HY5 HD5 HF5
    go_wp2_with (first
     |(refine wpList_load_row rfl _ _ rfl t rfl _ Y (0,0) _ HY6.out Tryz.underlying166 rfl (szRun13 HYS.out) ?_;rw[hY2.out])
     |(at_builtin;refine wpList_append_run rfl (.tmp 43) (.tmp 45) 195 rfl (.slice Al m cl) (.slice (some ⟨w6.heap.size,0,none⟩) 1 1) (.slice A' (m+1) c') w7 rfl rfl HRUN.out ?_))
    have h2:w7.cell? ⟨p,2,none⟩=some (.int .i64 q3.2):=Rdr.e (BoxC.below HD6.out HB7.out (by have:=HP.out;omega):Rdr w7 p A l c q3)
    go_roundw
    case rel=>exact⟨md,m+1,A',c',pre++[((y:Int),(x:Int))],q3,fu',hmd2,by omega,rfl,by go_num,Lib.hid ⟨HON.out,by have:=HL2.out;omega⟩,HOWN,Lib.hid (BoxC.below HD6.out HB7.out (by have:=HP.out;omega)),Lib.hid ⟨HEI.out,fun _=>HS0.out⟩,Lib.hid (HF6.out.trans (Fr.up HB7.out))⟩
    case measure=>
     rw[h2,HK2.out]
     show(if q3.2=0 then n+300-(md:Int).toNat else 0)<(if(0:Int)=0 then n+300-(made:Int).toNat else 0)
     rw[if_pos rfl]
     split<;>omega
   ·have d1:decide ((0:Int)<(made:Int))=false:=decN (by omega)
    have d1':decide (0<made)=false:=decN0 (by omega)
    have d2:((y:Int)==16)=true:=by rw[z6];rfl
    have d3:((y:Int) !=16)=false:=by simp[bne,d2]
    have hY2:=HYE
    clear z6 z
    go_wp2_with (first
     |(rw[←hY2.out];refine wpList_store_rowTo rfl _ _ _ rfl rfl w2.heap.size Y rfl rfl 166 #[.int .i64 0,.int .i64 0] (heap_alloc_new w2 _) (szRun13 HYS.out) (by rw[HYS.out];rfl) HYO.out ?_;change wpList _ _ _ _ _ (mkV w2 #[.int .i64 0,.int .i64 0] Y 166);rw[←HW3.out,←HT.out])
     |fail)
    refine(HWA.out _).mono ?_
    rintro e w4 ⟨rfl,r4,f4⟩
    rw[←hbt]at r4
    have HD4:=Lib.hid r4;have HF4:=Lib.hid (HF3.out.trans (f4.mono fun j e=>.inl e))
    have HO4:Hid (w4.ownsRow (k+1) 166 2 (.slice Al m cl) m (runsL pre)):=Lib.hid (own_fr HO3.out f4 (fun j (e:j=p)=>by have:=HP.out;omega))
    have HY4:=Lib.hid (HY3.out.fr f4 (by have:=HP.out;have:=HTK.out;show¬t=p;omega))
    have HTMX:=Lib.hid (HTM.out w4)
    clear r4 f4 HWA HTM
    go_wp2_with (first
     |(refine wpList_load_row rfl _ _ rfl t rfl _ Y (0,0) _ HY4.out Tryz.underlying166 rfl (szRun13 HYS.out) ?_;rw[hY2.out])
     |fail)
    refine HTMX.out.mono ?_
    rintro e w5 ⟨rfl,hb5⟩
    have HD5:=Lib.hid (BoxC.below HD4.out hb5 HD4.out.lt:Rdr w5 p A l c _)
    have HF5:=Lib.hid (HF4.out.on hb5)
    have HO5:Hid (w5.ownsRow (k+1) 166 2 (.slice Al m cl) m (runsL pre)):=Lib.hid (own_keepU HO4.out hb5)
    have HY5:=Lib.hid (HY4.out.below hb5 HY4.out.lt)
    have HWB:=Lib.hid (pwant_any w5 p A l c _ HD5.out (decide (md≤n)) 132)
    rw[←HEE.out]at HWB
    clear hb5 HTMX HD4 HF4 HO4 HY4
    go_wp2_with fail
    refine HWB.out.mono ?_
    rintro e w6 ⟨rfl,r6,f6⟩
    have HD6:=Lib.hid r6;have HF6:=Lib.hid (HF5.out.trans (f6.mono fun j e=>.inl e))
    have HO6:Hid (w6.ownsRow (k+1) 166 2 (.slice Al m cl) m (runsL pre)):=Lib.hid (own_fr HO5.out f6 (fun j (e:j=p)=>by have:=HP.out;omega))
    have HY6:=Lib.hid (HY5.out.fr f6 (by have:=HP.out;have:=HTK.out;show¬t=p;omega))
    have hsz6:k+1≤w6.heap.size:=by have:=HF6.out.size;rw[HS1.out]at this;exact this
    obtain⟨A',c',w7,hrun,hown,hb7⟩:=run_oneU w6 (k+1) Al m cl pre HO6.out ((y:Int),(x:Int)) (by omega) hsz6
    have HRUN:=Lib.hid hrun;have HOWN:=Lib.hid hown;have HB7:=Lib.hid hb7
    clear r6 f6 HWB hrun hown hb7 hsz6 HO5 HY5 HD5 HF5
    go_wp2_with (first
     |(refine wpList_load_row rfl _ _ rfl t rfl _ Y (0,0) _ HY6.out Tryz.underlying166 rfl (szRun13 HYS.out) ?_;rw[hY2.out])
     |(at_builtin;refine wpList_append_run rfl (.tmp 43) (.tmp 45) 195 rfl (.slice Al m cl) (.slice (some ⟨w6.heap.size,0,none⟩) 1 1) (.slice A' (m+1) c') w7 rfl rfl HRUN.out ?_))
    have h2:w7.cell? ⟨p,2,none⟩=some (.int .i64 q3.2):=Rdr.e (BoxC.below HD6.out HB7.out (by have:=HP.out;omega):Rdr w7 p A l c q3)
    go_roundw
    case rel=>exact⟨md,m+1,A',c',pre++[((y:Int),(x:Int))],q3,fu',hmd2,by omega,rfl,by go_num,Lib.hid ⟨HON.out,by have:=HL2.out;omega⟩,HOWN,Lib.hid (BoxC.below HD6.out HB7.out (by have:=HP.out;omega)),Lib.hid ⟨HEI.out,fun _=>HS0.out⟩,Lib.hid (HF6.out.trans (Fr.up HB7.out))⟩
    case measure=>
     rw[h2,HK2.out]
     show(if q3.2=0 then n+300-(md:Int).toNat else 0)<(if(0:Int)=0 then n+300-(made:Int).toNat else 0)
     rw[if_pos rfl]
     split<;>omega
   ·have d1:decide ((0:Int)<(made:Int))=false:=decN (by omega)
    have d1':decide (0<made)=false:=decN0 (by omega)
    have d2:((y:Int)==16)=false:=beq_eq_false_iff_ne.2 (by omega)
    have d3:((y:Int) !=16)=true:=by simp[bne,d2]
    have hY2:=HYE
    clear z6 z
    go_wp2_with (first
     |(rw[←hY2.out];refine wpList_store_rowTo rfl _ _ _ rfl rfl w2.heap.size Y rfl rfl 166 #[.int .i64 0,.int .i64 0] (heap_alloc_new w2 _) (szRun13 HYS.out) (by rw[HYS.out];rfl) HYO.out ?_;change wpList _ _ _ _ _ (mkV w2 #[.int .i64 0,.int .i64 0] Y 166);rw[←HW3.out,←HT.out])
     |fail)
    refine(HWA.out _).mono ?_
    rintro e w4 ⟨rfl,r4,f4⟩
    rw[←hbt]at r4
    have HD4:=Lib.hid r4;have HF4:=Lib.hid (HF3.out.trans (f4.mono fun j e=>.inl e))
    have HO4:Hid (w4.ownsRow (k+1) 166 2 (.slice Al m cl) m (runsL pre)):=Lib.hid (own_fr HO3.out f4 (fun j (e:j=p)=>by have:=HP.out;omega))
    have HY4:=Lib.hid (HY3.out.fr f4 (by have:=HP.out;have:=HTK.out;show¬t=p;omega))
    have HTMX:=Lib.hid (HTM.out w4)
    clear r4 f4 HWA HTM
    go_wp2_with (first
     |(refine wpList_load_row rfl _ _ rfl t rfl _ Y (0,0) _ HY4.out Tryz.underlying166 rfl (szRun13 HYS.out) ?_;rw[hY2.out])
     |fail)
    refine HTMX.out.mono ?_
    rintro e w5 ⟨rfl,hb5⟩
    have HD5:=Lib.hid (BoxC.below HD4.out hb5 HD4.out.lt:Rdr w5 p A l c _)
    have HF5:=Lib.hid (HF4.out.on hb5)
    have HO5:Hid (w5.ownsRow (k+1) 166 2 (.slice Al m cl) m (runsL pre)):=Lib.hid (own_keepU HO4.out hb5)
    have HY5:=Lib.hid (HY4.out.below hb5 HY4.out.lt)
    have HWB:=Lib.hid (pwant_any w5 p A l c _ HD5.out (decide (md≤n)) 132)
    rw[←HEE.out]at HWB
    clear hb5 HTMX HD4 HF4 HO4 HY4
    go_wp2_with fail
    refine HWB.out.mono ?_
    rintro e w6 ⟨rfl,r6,f6⟩
    have HD6:=Lib.hid r6;have HF6:=Lib.hid (HF5.out.trans (f6.mono fun j e=>.inl e))
    have HO6:Hid (w6.ownsRow (k+1) 166 2 (.slice Al m cl) m (runsL pre)):=Lib.hid (own_fr HO5.out f6 (fun j (e:j=p)=>by have:=HP.out;omega))
    have HY6:=Lib.hid (HY5.out.fr f6 (by have:=HP.out;have:=HTK.out;show¬t=p;omega))
    have hsz6:k+1≤w6.heap.size:=by have:=HF6.out.size;rw[HS1.out]at this;exact this
    obtain⟨A',c',w7,hrun,hown,hb7⟩:=run_oneU w6 (k+1) Al m cl pre HO6.out ((y:Int),(x:Int)) (by omega) hsz6
    have HRUN:=Lib.hid hrun;have HOWN:=Lib.hid hown;have HB7:=Lib.hid hb7
    clear r6 f6 HWB hrun hown hb7 hsz6 HO5 HY5 HD5 HF5
    go_wp2_with (first
     |(refine wpList_load_row rfl _ _ rfl t rfl _ Y (0,0) _ HY6.out Tryz.underlying166 rfl (szRun13 HYS.out) ?_;rw[hY2.out])
     |(at_builtin;refine wpList_append_run rfl (.tmp 43) (.tmp 45) 195 rfl (.slice Al m cl) (.slice (some ⟨w6.heap.size,0,none⟩) 1 1) (.slice A' (m+1) c') w7 rfl rfl HRUN.out ?_))
    have h2:w7.cell? ⟨p,2,none⟩=some (.int .i64 q3.2):=Rdr.e (BoxC.below HD6.out HB7.out (by have:=HP.out;omega):Rdr w7 p A l c q3)
    go_roundw
    case rel=>exact⟨md,m+1,A',c',pre++[((y:Int),(x:Int))],q3,fu',hmd2,by omega,rfl,by go_num,Lib.hid ⟨HON.out,by have:=HL2.out;omega⟩,HOWN,Lib.hid (BoxC.below HD6.out HB7.out (by have:=HP.out;omega)),Lib.hid ⟨HEI.out,fun _=>HS0.out⟩,Lib.hid (HF6.out.trans (Fr.up HB7.out))⟩
    case measure=>
     rw[h2,HK2.out]
     show(if q3.2=0 then n+300-(md:Int).toNat else 0)<(if(0:Int)=0 then n+300-(made:Int).toNat else 0)
     rw[if_pos rfl]
     split<;>omega
  ·have hR:=hend hlt
   have hst:=RuR.of_own HO.out
   have HSTR:=Lib.hid (str10_any wr Al m cl pre (n:Int) hst (by omega) (by omega) (by omega))
   have HRE:=Lib.hid hR
   have HFF:=HFW
   clear hend hR hst HL HO HF HQ
   by_cases hm1:made<n
   ·obtain⟨qa,qe⟩:=q
    have hq0:¬qe=0:=fun e=>hlt ⟨hm1,e⟩
    have d0:(qe==0)=false:=beq_eq_false_iff_ne.2 hq0
    have hlti:(made:Int)<(n:Int):=by omega
    have k2':wr.cell? ⟨p,2,none⟩=some (.int .i64 qe):=k2
    clear hlt hq0 k2
    go_wp2_with fail
    refine HSTR.out.mono ?_
    rintro e w2 ⟨A',n',c',rfl,e1,e2,hb2,e3⟩
    have HB2:=Lib.hid hb2;have HE2:=Lib.hid e2;have HE3:=Lib.hid e3;have HE1:=Lib.hid e1
    clear hb2 e1 e2 e3
    go_wp2
    go_ret
    have hle:=HFF.out.size
    refine⟨A',n',c',rfl,by rw[←HRE.out];exact HE1.out,by rw[←HRE.out];exact HE2.out,fun h0=>?_,by rw[←HRE.out];exact BoxC.below HD.out HB2.out HD.out.lt,HFF.out.on HB2.out⟩
    obtain⟨g0,o0,cur,q1,q2,q3⟩:=HE3.out h0
    exact⟨g0,o0,cur,q1,Nat.le_trans hle q2,q3⟩
   ·have hlti:¬(made:Int)<(n:Int):=by omega
    clear hlt
    go_wp2_with fail
    refine HSTR.out.mono ?_
    rintro e w2 ⟨A',n',c',rfl,e1,e2,hb2,e3⟩
    have HB2:=Lib.hid hb2;have HE2:=Lib.hid e2;have HE3:=Lib.hid e3;have HE1:=Lib.hid e1
    clear hb2 e1 e2 e3
    go_wp2
    go_ret
    have hle:=HFF.out.size
    refine⟨A',n',c',rfl,by rw[←HRE.out];exact HE1.out,by rw[←HRE.out];exact HE2.out,fun h0=>?_,by rw[←HRE.out];exact BoxC.below HD.out HB2.out HD.out.lt,HFF.out.on HB2.out⟩
    obtain⟨g0,o0,cur,q1,q2,q3⟩:=HE3.out h0
    exact⟨g0,o0,cur,q1,Nat.le_trans hle q2,q3⟩
end Go.Proofs.YtcmpmighjglnpaaGreat
namespace Go.Proofs.YtcmpmighjglnpaaGreat
open Go.RowKit
def Up(T:Value→World→Prop)(v:Value)(w:World):Prop:=∀W,Below w.heap.size w W→T v W
theorem Up.here{T:Value→World→Prop}{v:Value}{w:World}(h:Up T v w):T v w:=h w (Below.refl _ _)
theorem Up.on{T:Value→World→Prop}{v:Value}{w w':World}(h:Up T v w)(hb:Below w.heap.size w w'):Up T v w':=fun W hW=>h W (hb.trans (hW.mono hb.size))
def putL:List (Option Tmp)→(Tmp→Value)→Act→Act
 |[],_,a=>a
 |none::r,vals,a=>putL r vals a
 |some d::r,vals,a=>putL r vals (a.put (some d) (vals d))
theorem putL_size:∀(l:List (Option Tmp)) (vals:Tmp→Value) (a:Act),(putL l vals a).tmps.size=a.tmps.size
 |[],_,_=>rfl
 |none::r,vals,a=>putL_size r vals a
 |some d::r,vals,a=>by rw[putL,putL_size r vals];simp[Act.put]
theorem putL_defers:∀(l:List (Option Tmp)) (vals:Tmp→Value) (a:Act),(putL l vals a).defers=a.defers
 |[],_,_=>rfl
 |none::r,vals,a=>putL_defers r vals a
 |some d::r,vals,a=>by rw[putL,putL_defers r vals];rfl
theorem putL_in:∀(l:List (Option Tmp)) (vals:Tmp→Value) (a:Act) (s:Tmp),(some s∈l∨a.tmps[s]?=some (vals s))→s<a.tmps.size→(putL l vals a).tmps[s]?=some (vals s)
 |[],vals,a,s,h,_=>by
  rcases h with h|h
  ·cases h
  ·exact h
 |none::r,vals,a,s,h,hs=>putL_in r vals a s (h.imp (fun h=>by simpa using h) id) hs
 |some d::r,vals,a,s,h,hs=>by
  refine putL_in r vals _ s ?_ (by simpa[Act.put]using hs)
  by_cases e:d=s
  ·right;subst e;simp[Act.put,hs]
  ·rcases h with h|h
   ·left
    rcases List.mem_cons.1 h with h|h
    ·exact absurd (Option.some.inj h).symm e
    ·exact h
   ·right;simpa[Act.put,Array.getElem?_setIfInBounds_ne e]using h
theorem putL_out:∀(l:List (Option Tmp)) (vals:Tmp→Value) (a:Act) (s:Tmp),some s∉l→(putL l vals a).tmps[s]?=a.tmps[s]?
 |[],_,_,_,_=>rfl
 |none::r,vals,a,s,h=>putL_out r vals a s (fun g=>h (List.mem_cons_of_mem _ g))
 |some d::r,vals,a,s,h=>by
  rw[putL,putL_out r vals _ s (fun g=>h (List.mem_cons_of_mem _ g))]
  have e:d≠s:=fun e=>h (by rw[e];exact List.mem_cons_self ..)
  simp[Act.put,Array.getElem?_setIfInBounds_ne e]
def tabB(l:List Oper)(n:Nat):Bool:=decide (l.filterMap (·.dst)).Nodup&&(l.all fun o=>match o.dst with|some d=>decide (d<n)|none=>true)&&((List.range l.length).all fun i=>match l[i]? with
 |some o=>o.after.all fun e=> !Region.binds .any e||decide (e.on<i)
 |none=>true)
def offB(l:List Oper)(s:Tmp):Bool:=l.all fun o=>o.dst !=some s
def TabStep(P:Program)(l:List Oper)(T:Nat→Value→World→Prop)(a0:Act)(U:World)(k:Nat)(o:Oper):Prop:=
 ∀(a:Act) (w:World),Below U.heap.size U w→(∀s,offB l s=true→a.eval (.tmp s)=a0.eval (.tmp s))→(∀j d,Region.waitsFor .any l.toArray k j=true→(l[j]?).bind (·.dst)=some d→Up (T j) (a.eval (.tmp d)) w)→
  ∀(K:Act→World→Prop) (Q:Exit→Act→World→Prop),(∀v w',Below w.heap.size w w'→Up (T k) v w'→K (a.put o.dst v) w')→if Region.wanted o (yielded l.toArray a.tmps)=true then Oper.wp P o a w K Q else K (a.put o.dst undef) w
def TabAll(P:Program)(l:List Oper)(T:Nat→Value→World→Prop)(a0:Act)(U:World):Nat→List Oper→Prop
 |_,[]=>True
 |k,o::r=>TabStep P l T a0 U k o∧TabAll P l T a0 U (k+1) r
theorem TabAll.get{P:Program}{l:List Oper}{T:Nat→Value→World→Prop}{a0:Act}{U:World}:∀{r:List Oper} {k:Nat},TabAll P l T a0 U k r→∀{j:Nat} {o:Oper},r[j]?=some o→TabStep P l T a0 U (k+j) o
 |[],_,_,_,_,h=>by cases h
 |_::_,k,hA,0,_,h=>by cases h;exact hA.1
 |_::r,k,hA,j+1,o,h=>by
  have:=TabAll.get (r:=r) hA.2 (j:=j) (by simpa using h)
  rw[show k+1+j=k+(j+1) by omega]at this
  exact this
structure TabInv (l:List Oper) (T:Nat→Value→World→Prop) (a0:Act) (U:World) (listed:Array Bool) (a:Act) (w:World):Prop where
 size:listed.size=l.length
 tmps:a.tmps.size=a0.tmps.size
 defers:a.defers=a0.defers
 below:Below U.heap.size U w
 off:∀s,(∀j d,listed.getD j false=true→(l[j]?).bind (·.dst)=some d→d≠s)→a.tmps[s]?=a0.tmps[s]?
 told:∀j d,listed.getD j false=true→(l[j]?).bind (·.dst)=some d→Up (T j) (a.eval (.tmp d)) w
theorem offB_is{l:List Oper}{s:Tmp}(h:offB l s=true){j:Nat}{d:Tmp}(hd:(l[j]?).bind (·.dst)=some d):d≠s:=fun e=>by
 cases hj:l[j]? with
 |none=>rw[hj]at hd;cases hd
 |some y=>
  rw[hj]at hd
  have h1:=List.all_eq_true.1 h y (List.mem_of_getElem? hj)
  have h2:y.dst=some d:=by simpa using hd
  rw[h2,e]at h1;simp at h1
theorem tab_dst{l:List Oper}(h:(l.filterMap (·.dst)).Nodup){i j:Nat}{x y:Oper}{d:Tmp}(hi:l[i]?=some x)(hj:l[j]?=some y)(hx:x.dst=some d)(hy:y.dst=some d):i=j:=by
 induction l generalizing i j with
 |nil=>cases hi
 |cons z r ih=>
  have hr:(r.filterMap (·.dst)).Nodup:=by
   rw[List.filterMap_cons]at h
   split at h
   ·exact h
   ·exact(List.nodup_cons.1 h).2
  have hz:∀(q:Nat) (u:Oper),r[q]?=some u→u.dst=some d→z.dst≠some d:=fun q u hq hu hzd=>by
   rw[List.filterMap_cons,hzd]at h
   exact(List.nodup_cons.1 h).1 (List.mem_filterMap.2 ⟨u,List.mem_of_getElem? hq,hu⟩)
  rcases i with _|i<;>rcases j with _|j
  ·rfl
  ·cases hi;exact absurd hx (hz j y (by simpa using hj) hy)
  ·cases hj;exact absurd hy (hz i x (by simpa using hi) hx)
  ·exact congrArg (·+1) (ih hr (by simpa using hi) (by simpa using hj))
theorem tab_any{P:Program}{Q:Exit→Act→World→Prop}{a0:Act}{U:World}{l:List Oper}{T:Nat→Value→World→Prop}(hB:tabB l a0.tmps.size=true)(hstep:TabAll P l T a0 U 0 l)
  (hend:∀listed a w,TabInv l T a0 U listed a w→(∀i,i<l.length→listed.getD i false=true)→Q .normal a w):
  ∀(f:Nat) (listed:Array Bool) (a:Act) (w:World),((List.range l.length).filter fun i=> !listed.getD i false).length=f→TabInv l T a0 U listed a w→wpAny P .any l.toArray Q f listed a w:=by
 have hB':=hB
 simp only[tabB,Bool.and_eq_true,decide_eq_true_eq]at hB'
 obtain⟨⟨hnd,hin⟩,hlow⟩:=hB'
 have hall:∀(listed:Array Bool),listed.size=l.length→Region.ready .any l.toArray listed=[]→∀i,i<l.length→listed.getD i false=true:=fun listed hsz hr i=>by
  induction i using Nat.strongRecOn with
  |_ i ih=>
   intro hi
   cases hu:listed.getD i false with
   |true=>rfl
   |false=>
    exfalso
    have h1:=List.all_eq_true.1 hlow i (List.mem_range.2 hi)
    have hoi:l[i]?=some l[i]:=List.getElem?_eq_getElem hi
    simp only[hoi]at h1
    have:i∈Region.ready .any l.toArray listed:=mem_ready.2 ⟨getD_in (by omega) hu,l[i],by simp[hi],fun e he hb=>by
     have h2:=Array.all_eq_true_iff_forall_mem.1 h1 e he
     simp only[hb,Bool.not_true,Bool.false_or,decide_eq_true_eq]at h2
     exact ih e.on h2 (by omega)⟩
    rw[hr]at this;cases this
 intro f
 induction f with
 |zero=>
  intro listed a w hf inv
  have hup:∀i,i<l.length→listed.getD i false=true:=fun i hi=>by
   have h0:=List.length_eq_zero_iff.1 hf
   have h1:=List.filter_eq_nil_iff.1 h0 i (List.mem_range.2 hi)
   simpa using h1
  refine⟨?_,hend listed a w inv hup⟩
  apply List.eq_nil_iff_forall_not_mem.2
  intro i hi
  obtain⟨h0,o,ho,_⟩:=mem_ready.1 hi
  have hlt:i<l.length:=by have:=(Array.getElem?_eq_some_iff.1 ho).1;simpa using this
  have h1:=hup i hlt
  rw[getD_both h0]at h1;cases h1
 |succ f ih=>
  intro listed a w hf inv
  refine⟨fun h0=>hend listed a w inv (hall listed inv.size h0),fun k hk=>?_⟩
  obtain⟨h0,o,ho,hafter⟩:=mem_ready.1 hk
  have hol:l[k]?=some o:=by simpa using ho
  have hlt:k<l.length:=(List.getElem?_eq_some_iff.1 hol).1
  have hst:TabStep P l T a0 U k o:=by have:=hstep.get hol;rwa[Nat.zero_add]at this
  have heval:∀s,offB l s=true→a.eval (.tmp s)=a0.eval (.tmp s):=fun s hs=>by
   show a.tmps.getD s undef=a0.tmps.getD s undef
   rw[Array.getD_eq_getD_getElem?,Array.getD_eq_getD_getElem?,inv.off s (fun _ _ _ hd=>offB_is hs hd)]
  have hfacts:∀j d,Region.waitsFor .any l.toArray k j=true→(l[j]?).bind (·.dst)=some d→Up (T j) (a.eval (.tmp d)) w:=fun j d hw hd=>by
   obtain⟨ok,hok,e,he,hb,hon⟩:=Region.waitsFor_spec hw
   rw[ho]at hok;cases hok
   exact inv.told j d (by have:=hafter e he hb;rwa[hon]at this) hd
  have hdlt:∀d,o.dst=some d→d<a.tmps.size:=fun d hd=>by
   have h1:=List.all_eq_true.1 hin o (List.mem_of_getElem? hol)
   simp only[hd,decide_eq_true_eq]at h1
   rw[inv.tmps];exact h1
  have hgo:=hst a w inv.below heval hfacts (wpAny P .any l.toArray Q f (listed.setIfInBounds k true)) Q (fun v w' hb hv=>by
   refine ih _ _ _ ?_ ⟨by simp[inv.size],?_,?_,inv.below.trans (hb.mono inv.below.size),fun s hs=>?_,fun j d hl hd=>?_⟩
   ·have hfe:((List.range l.length).filter fun i=> !(listed.setIfInBounds k true).getD i false)=((List.range l.length).filter fun i=> !listed.getD i false).erase k:=by
     rw[List.Nodup.erase_eq_filter (List.nodup_range.filter _),List.filter_filter]
     apply List.filter_congr
     intro x hx
     by_cases e:x=k
     ·subst e
      have:x<listed.size:=by rw[inv.size];exact hlt
      simp[this]
     ·rw[getD_set_ne false (Ne.symm e)];simp[e]
    rw[hfe,List.length_erase_of_mem (List.mem_filter.2 ⟨List.mem_range.2 hlt,by rw[getD_both h0];rfl⟩),hf];rfl
   ·unfold Act.put;cases o.dst<;>simp[inv.tmps]
   ·unfold Act.put;cases o.dst<;>exact inv.defers
   ·rw[←inv.off s (fun j d hl hd=>hs j d (getD_set_true hl) hd)]
    unfold Act.put
    cases hd:o.dst with
    |none=>rfl
    |some d=>
     have e:d≠s:=hs k d (by have:k<listed.size:=(by rw[inv.size];exact hlt);simp[this]) (by rw[hol];simpa using hd)
     simp[Array.getElem?_setIfInBounds_ne e]
   ·by_cases e:j=k
    ·subst e
     rw[hol]at hd
     have hd':o.dst=some d:=by simpa using hd
     have hlt2:=hdlt d hd'
     have he:(a.put o.dst v).eval (.tmp d)=v:=by rw[hd'];simp[Act.put,Act.eval,hlt2]
     rw[he];exact hv
    ·rw[getD_set_ne false (Ne.symm e)]at hl
     have h1:=inv.told j d hl hd
     have he:(a.put o.dst v).eval (.tmp d)=a.eval (.tmp d):=Act.eval_put fun d' hd' hx=>by
      cases hx
      cases hj:l[j]? with
      |none=>rw[hj]at hd;cases hd
      |some y=>
       rw[hj]at hd
       exact e (tab_dst hnd hj hol (by simpa using hd) hd')
     rw[he];exact h1.on hb)
  unfold wpOp
  simp only[ho]
  split at hgo
  ·rename_i hw;rw[if_pos hw];exact .inl hgo
  ·rename_i hw;rw[if_neg hw];exact hgo
theorem wp_region_tab{P:Program}{id:Nat}{Q:Exit→Act→World→Prop}{a0:Act}{w0:World}{l:List Oper}(T:Nat→Value→World→Prop)(U:World)(hU:Below U.heap.size U w0)(hm:P.follows .mixedOrders=true)(hB:tabB l a0.tmps.size=true)
  (hstep:TabAll P l T a0 U 0 l)
  (hend:∀(vals:Tmp→Value) (w:World),Below U.heap.size U w→(∀j d,(l[j]?).bind (·.dst)=some d→Up (T j) (vals d) w)→Q .normal (putL (l.map (·.dst)) vals a0) w):(Code.region id l.toArray true).wp P Q a0 w0:=by
 refine wp_region_any hm ?_
 have hl0:∀i,(Array.replicate l.toArray.size false).getD i false=false:=fun i=>getD_replicate_false _ _
 refine tab_any (T:=T) hB hstep (fun listed a w inv hup=>?_) l.toArray.size _ _ _ ?_ ⟨by simp,rfl,rfl,hU.drew,fun _ _=>rfl,fun j d h _=>by rw[hl0]at h;cases h⟩
 ·have ha:a=putL (l.map (·.dst)) (fun d=>a.eval (.tmp d)) a0:=by
   have ht:a.tmps=(putL (l.map (·.dst)) (fun d=>a.eval (.tmp d)) a0).tmps:=by
    apply Array.ext_getElem?
    intro s
    by_cases hs:some s∈l.map (·.dst)
    ·obtain⟨o,ho,hd⟩:=List.mem_map.1 hs
     simp only[tabB,Bool.and_eq_true,decide_eq_true_eq]at hB
     have h1:=List.all_eq_true.1 hB.1.2 o ho
     simp only[hd,decide_eq_true_eq]at h1
     rw[putL_in _ _ _ s (.inl hs) h1]
     have h2:s<a.tmps.size:=by rw[inv.tmps];exact h1
     simp[Act.eval,h2]
    ·rw[putL_out _ _ _ s hs]
     refine inv.off s (fun j d _ hd e=>hs ?_)
     cases hj:l[j]? with
     |none=>rw[hj]at hd;cases hd
     |some y=>
      rw[hj]at hd
      exact List.mem_map.2 ⟨y,List.mem_of_getElem? hj,by rw[←e];simpa using hd⟩
   have hdf:a.defers=(putL (l.map (·.dst)) (fun d=>a.eval (.tmp d)) a0).defers:=by rw[putL_defers];exact inv.defers
   cases a with
   |mk t df=>
    generalize hp:putL (l.map (·.dst)) (fun d=>(Act.mk t df).eval (.tmp d)) a0=p at*
    cases p with
    |mk t2 df2=>simp only at ht hdf;rw[ht,hdf]
  rw[ha]
  refine hend _ w inv.below fun j d hd=>?_
  refine inv.told j d (hup j ?_) hd
  cases hj:l[j]? with
  |none=>rw[hj]at hd;cases hd
  |some _=>exact(List.getElem?_eq_some_iff.1 hj).1
 ·rw[List.filter_eq_self.2 (fun i _=>by rw[hl0];rfl)];simp
theorem tab_free{l:List Oper}{o:Oper}{a:Act}(hg:o.guard=none):Region.wanted o (yielded l.toArray a.tmps)=true:=by simp[Region.wanted,hg]
theorem tab_val{P:Program}{l:List Oper}{o:Oper}{a:Act}{w:World}{T:Value→World→Prop}{K:Act→World→Prop}{Q:Exit→Act→World→Prop}{E:Prop}(hw:Region.wanted o (yielded l.toArray a.tmps)=true)(v:Value)
  (hr:(execOp a.eval o).run P w=.ok (.value v) w) (hT:Up T v w) (hK:∀v w',Below w.heap.size w w'→Up T v w'→K (a.put o.dst v) w'):if Region.wanted o (yielded l.toArray a.tmps)=true then Oper.wp P o a w K Q else E:=by
 rw[if_pos hw]
 unfold Oper.wp
 rw[hr]
 exact hK v w (Below.refl _ _) hT
theorem tab_move{P:Program}{l:List Oper}{o:Oper}{a:Act}{w:World}{T:Value→World→Prop}{K:Act→World→Prop}{Q:Exit→Act→World→Prop}{E:Prop}(hw:Region.wanted o (yielded l.toArray a.tmps)=true)(x:Operand)(ho:o.op=.move x)
  (hT:Up T (a.eval x) w) (hK:∀v w',Below w.heap.size w w'→Up T v w'→K (a.put o.dst v) w'):if Region.wanted o (yielded l.toArray a.tmps)=true then Oper.wp P o a w K Q else E:=
 tab_val hw (a.eval x) (by simp[execOp,ho]) hT hK
theorem tab_assign{P:Program}{l:List Oper}{o:Oper}{a:Act}{w:World}{T:Value→World→Prop}{K:Act→World→Prop}{Q:Exit→Act→World→Prop}{E:Prop}(hw:Region.wanted o (yielded l.toArray a.tmps)=true)(x:Operand)(ho:o.op=.assign x)
  (hT:Up T (a.eval x) w) (hK:∀v w',Below w.heap.size w w'→Up T v w'→K (a.put o.dst v) w'):if Region.wanted o (yielded l.toArray a.tmps)=true then Oper.wp P o a w K Q else E:=
 tab_val hw (a.eval x) (by simp[execOp,ho]) hT hK
theorem tab_bin{P:Program}{l:List Oper}{o:Oper}{a:Act}{w:World}{T:Value→World→Prop}{K:Act→World→Prop}{Q:Exit→Act→World→Prop}{E:Prop}(hw:Region.wanted o (yielded l.toArray a.tmps)=true)(b:BinOp)(t t':TypeId)(x y:Operand)(ho:o.op=.binOp b t x y t')(u z v:Value)(hx:a.eval x=u)(hy:a.eval y=z)
  (hg:(eqGuard b t x y u z).run P w=.ok () w) (hr:(binOp b t u z).run P w=.ok v w)
  (hT:Up T v w) (hK:∀v w',Below w.heap.size w w'→Up T v w'→K (a.put o.dst v) w'):if Region.wanted o (yielded l.toArray a.tmps)=true then Oper.wp P o a w K Q else E:=
 tab_val hw v (by simp only[execOp,ho,hx,hy,Sem.run_bind,hg,hr,Result.andThen_ok];rfl) hT hK
theorem tab_call{l:List Oper}{o:Oper}{a:Act}{w:World}{T:Value→World→Prop}{K:Act→World→Prop}{Q:Exit→Act→World→Prop}{E:Prop}(hw:Region.wanted o (yielded l.toArray a.tmps)=true)(f:FuncId)(xs:Array Operand)(ts:Array TypeId)
  (ho:o.op=.call {callee:=.value (.func f),args:=xs,argTypes:=ts}) (eg:∀args w,(callFunc f args).run Tryz.prog w=.ok (.enter f args) w) (args:Array Value) (hx:xs.map a.eval=args) {R:Ending→World→Prop} (hc:Calls Tryz.prog f args w R)
  (h:∀e w',R e w'→∃v,e=.returned v∧Below w.heap.size w w'∧Up T v w') (hK:∀v w',Below w.heap.size w w'→Up T v w'→K (a.put o.dst v) w'):
  if Region.wanted o (yielded l.toArray a.tmps)=true then Oper.wp Tryz.prog o a w K Q else E:=
 step_call_on hw f xs ts ho eg args hx hc fun e w' hr=>by
  obtain⟨v,he,hb,hv⟩:=h e w' hr
  exact⟨v,he,hK v w' hb hv⟩
theorem TabAll.nil{P:Program}{l:List Oper}{T:Nat→Value→World→Prop}{a0:Act}{U:World}{k:Nat}:TabAll P l T a0 U k []:=trivial
theorem TabAll.cons {P:Program} {l:List Oper} {T:Nat→Value→World→Prop} {a0:Act} {U:World} {k:Nat} {o:Oper} {r:List Oper} (h:∀(a:Act) (w:World),Below U.heap.size U w→(∀s,offB l s=true→a.eval (.tmp s)=a0.eval (.tmp s))→(∀j d,Region.waitsFor .any l.toArray k j=true→(l[j]?).bind (·.dst)=some d→Up (T j) (a.eval (.tmp d)) w)→
  ∀(K:Act→World→Prop) (Q:Exit→Act→World→Prop),(∀v w',Below w.heap.size w w'→Up (T k) v w'→K (a.put o.dst v) w')→if Region.wanted o (yielded l.toArray a.tmps)=true then Oper.wp P o a w K Q else K (a.put o.dst undef) w) (hr:TabAll P l T a0 U (k+1) r):TabAll P l T a0 U k (o::r):=⟨h,hr⟩
def tabT(L:List (Value→World→Prop))(k:Nat):Value→World→Prop:=(L[k]?).getD fun _ _=>True
theorem up_eq{v x:Value}{w:World}(h:v=x):Up (fun u _=>u=x) v w:=fun _ _=>h
end Go.Proofs.YtcmpmighjglnpaaGreat
namespace Go.Proofs.YtcmpmighjglnpaaGreat
open Go.RowKit
theorem tab_row{l:List Oper}{o:Oper}{a:Act}{w:World}{T:Value→World→Prop}{K:Act→World→Prop}{Q:Exit→Act→World→Prop}{E:Prop}(hw:Region.wanted o (yielded l.toArray a.tmps)=true)(ty:TypeId)(x:Operand)(ho:o.op=.load ty x)(b k:Nat)(hx:a.eval x=.pointer (some ⟨b,k,none⟩))(cs:List Value)(d:TypeDesc)
  (hS:w.rangeAt b k cs) (hu:Tryz.prog.underlying ty=some d) (hd:d.isRow=true) (hi:(Tryz.prog.info? ty).map (·.size)=some cs.length)
  (hT:Up T (.agg cs.toArray) w) (hK:∀v w',Below w.heap.size w w'→Up T v w'→K (a.put o.dst v) w'):if Region.wanted o (yielded l.toArray a.tmps)=true then Oper.wp Tryz.prog o a w K Q else E:=
 tab_val hw _ (by
  unfold execOp
  simp only[ho,hx,Instr.loadAt,Instr.sureAddr,Sem.run_bind,Sem.run_pure,Result.andThen_ok,run_loadVar_mid w b k ty cs d hS hu hd hi]) hT hK
theorem tab_load{l:List Oper}{o:Oper}{a:Act}{w:World}{T:Value→World→Prop}{K:Act→World→Prop}{Q:Exit→Act→World→Prop}{E:Prop}(hw:Region.wanted o (yielded l.toArray a.tmps)=true)(ty:TypeId)(x:Operand)(ho:o.op=.load ty x)(u v:Value)(hx:a.eval x=u)
  (hr:(Instr.loadAt ty u).run Tryz.prog w=.ok v w)
  (hT:Up T v w) (hK:∀v w',Below w.heap.size w w'→Up T v w'→K (a.put o.dst v) w'):if Region.wanted o (yielded l.toArray a.tmps)=true then Oper.wp Tryz.prog o a w K Q else E:=
 tab_val hw v (by unfold execOp;simp only[ho,hx,Sem.run_bind,hr,Result.andThen_ok];rfl) hT hK
theorem tab_field{l:List Oper}{o:Oper}{a:Act}{w:World}{T:Value→World→Prop}{K:Act→World→Prop}{Q:Exit→Act→World→Prop}{E:Prop}(hw:Region.wanted o (yielded l.toArray a.tmps)=true)(ty:TypeId)(x:Operand)(f:Nat)(ho:o.op=.fieldAddr ty x f)(u v:Value)(hx:a.eval x=u)
  (hr:(Instr.fieldAt ty u f).run Tryz.prog w=.ok v w)
  (hT:Up T v w) (hK:∀v w',Below w.heap.size w w'→Up T v w'→K (a.put o.dst v) w'):if Region.wanted o (yielded l.toArray a.tmps)=true then Oper.wp Tryz.prog o a w K Q else E:=
 tab_val hw v (by unfold execOp;simp only[ho,hx,Sem.run_bind,hr,Result.andThen_ok];rfl) hT hK
theorem eqg_no(P:Program)(b:BinOp)(t:TypeId)(x y:Operand)(u v:Value)(hb:b≠.eql)(hb2:b≠.neq)(w:World):(eqGuard b t x y u v).run P w=.ok () w:=by
 unfold eqGuard
 cases b<;>first|exact absurd rfl hb|exact absurd rfl hb2|simp[go_sem]
theorem tab_extract{P:Program}{l:List Oper}{o:Oper}{a:Act}{w:World}{T:Value→World→Prop}{K:Act→World→Prop}{Q:Exit→Act→World→Prop}{E:Prop}(hw:Region.wanted o (yielded l.toArray a.tmps)=true)(x:Operand)(i:Nat)(ho:o.op=.extract x i)(u v:Value)(hx:a.eval x=u)(hr:(Instr.extract u i).run P w=.ok v w)
  (hT:Up T v w) (hK:∀v w',Below w.heap.size w w'→Up T v w'→K (a.put o.dst v) w'):if Region.wanted o (yielded l.toArray a.tmps)=true then Oper.wp P o a w K Q else E:=
 tab_val hw v (by unfold execOp;simp only[ho,hx,Sem.run_bind,hr,Result.andThen_ok];rfl) hT hK
theorem tab_make{P:Program}{l:List Oper}{o:Oper}{a:Act}{w w':World}{T:Value→World→Prop}{K:Act→World→Prop}{Q:Exit→Act→World→Prop}{E:Prop}(hw:Region.wanted o (yielded l.toArray a.tmps)=true)(v:Value)
  (hr:(execOp a.eval o).run P w=.ok (.value v) w') (hb:Below w.heap.size w w') (hT:Up T v w') (hK:∀v w',Below w.heap.size w w'→Up T v w'→K (a.put o.dst v) w'):if Region.wanted o (yielded l.toArray a.tmps)=true then Oper.wp P o a w K Q else E:=by
 rw[if_pos hw]
 unfold Oper.wp
 rw[hr]
 exact hK v w' hb hT
theorem rem_nat(P:Program)(t:TypeId)(k:IntKind)(x y:Nat)(hy:0<y)(w:World):(binOp .rem t (.int k (x:Int)) (.int k (y:Int))).run P w=.ok (.int k ((x%y:Nat):Int)) w:=by
 have h0:¬(y:Int)=0:=by omega
 have e:(x:Int).tmod (y:Int)=((x%y:Nat):Int):=by rw[Int.tmod_eq_emod_of_nonneg (by omega)];simp
 unfold binOp
 simp only[ne_eq,not_true_eq_false,if_false,Op.intDiv,if_neg h0,e]
 rfl
theorem tab_slice{P:Program}{l:List Oper}{o:Oper}{a:Act}{w:World}{T:Value→World→Prop}{K:Act→World→Prop}{Q:Exit→Act→World→Prop}{E:Prop}(hw:Region.wanted o (yielded l.toArray a.tmps)=true)(t:TypeId)(x:Operand)(lo hi mx:Option Operand)(ho:o.op=.slice t x lo hi mx)(u v:Value)(lo' hi' mx':Option Value)(hx:a.eval x=u)(h1:lo.map a.eval=lo')(h2:hi.map a.eval=hi')(h3:mx.map a.eval=mx')
  (hr:(Instr.sliceAt t u lo' hi' mx').run P w=.ok v w)
  (hT:Up T v w) (hK:∀v w',Below w.heap.size w w'→Up T v w'→K (a.put o.dst v) w'):if Region.wanted o (yielded l.toArray a.tmps)=true then Oper.wp P o a w K Q else E:=
 tab_val hw v (by unfold execOp;simp only[ho,hx,h1,h2,h3,Sem.run_bind,hr,Result.andThen_ok];rfl) hT hK
theorem tab_build{P:Program}{l:List Oper}{o:Oper}{a:Act}{w:World}{T:Value→World→Prop}{K:Act→World→Prop}{Q:Exit→Act→World→Prop}{E:Prop}(hw:Region.wanted o (yielded l.toArray a.tmps)=true)(t:TypeId)(parts:Array (Nat×Operand))(ho:o.op=.build t parts)(cells:Array Value)(hf:P.built t (parts.map fun(i,x)=>(i,a.eval x)).toList=some cells)
  (hT:Up T (.agg cells) w) (hK:∀v w',Below w.heap.size w w'→Up T v w'→K (a.put o.dst v) w'):if Region.wanted o (yielded l.toArray a.tmps)=true then Oper.wp P o a w K Q else E:=
 tab_val hw (.agg cells) (by unfold execOp;simp only[ho,Sem.run_bind,run_build w t _ cells hf,Result.andThen_ok];rfl) hT hK
theorem wrap_i64(q:Nat)(h:q≤9223372036854775807):IntKind.i64.wrap (q:Int)=(q:Int):=by
 show(let m:=(q:Int)%(2^64:Int);if(true&&decide (m≥(2^63:Int)))=true then m-(2^64:Int)else m)=_
 have h1:(2:Int)^64=18446744073709551616:=rfl
 have h2:(2:Int)^63=9223372036854775808:=rfl
 have e1:(q:Int)%(2^64:Int)=(q:Int):=Int.emod_eq_of_lt (by omega) (by omega)
 simp only[e1]
 rw[if_neg (by simp;omega)]
theorem quo_nat(P:Program)(t:TypeId)(x y:Nat)(hy:0<y)(hx:x≤9223372036854775807)(w:World):(binOp .quo t (.int .i64 (x:Int)) (.int .i64 (y:Int))).run P w=.ok (.int .i64 ((x/y:Nat):Int)) w:=by
 have h0:¬(y:Int)=0:=by omega
 obtain⟨q,hq⟩:∃q,q=x/y:=⟨_,rfl⟩
 have e:(x:Int).tdiv (y:Int)=(q:Int):=by rw[Int.tdiv_eq_ediv_of_nonneg (by omega),hq];simp
 have hle:q≤x:=by rw[hq];exact Nat.div_le_self _ _
 rw[←hq]
 unfold binOp
 simp only[ne_eq,not_true_eq_false,if_false,Op.intDiv,if_neg h0,e,wrap_i64 q (by omega)]
 rfl
theorem run_from(A A2:Option Addr)(L c k:Nat)(hk:k≤L)(hA:(if c=k then A else A.map (·.add k))=A2)(w:World):(Instr.sliceAt 22 (.slice A L c) (some (.int .i64 (k:Int))) none none).run Tryz.prog w=.ok (.slice A2 (L-k) (c-k)) w:=by
 obtain⟨i0,hi,hz0,hz1,hz2⟩:=info_parts infoU8
 have hs:(sizeOf 5).run Tryz.prog w=.ok 1 w:=by simp[sizeOf,typeInfo,hi,hz1,go_sem]
 rw[run_sliceAt_slice (h:=Tryz.underlying22),run_slice_l (ht:=Tryz.underlying22) (h0:=by omega) (h1:=by omega)]
 have he:Tryz.prog.elem 22=5:=by kernel_rfl
 rw[he,hs]
 simp[sliced,←hA,Result.andThen]
theorem run_to(A:Option Addr)(L c k:Nat)(hk:k≤c)(w:World):(Instr.sliceAt 22 (.slice A L c) none (some (.int .i64 (k:Int))) none).run Tryz.prog w=.ok (.slice A k c) w:=by
 obtain⟨i0,hi,hz0,hz1,hz2⟩:=info_parts infoU8
 have hs:(sizeOf 5).run Tryz.prog w=.ok 1 w:=by simp[sizeOf,typeInfo,hi,hz1,go_sem]
 rw[run_sliceAt_slice (h:=Tryz.underlying22),run_slice_h (ht:=Tryz.underlying22) (h0:=by omega) (h2:=by omega)]
 have he:Tryz.prog.elem 22=5:=by kernel_rfl
 rw[he,hs]
 have h0:(if c=0 then A else A.map fun x=>x.add 0)=A:=by
  split
  ·rfl
  ·cases A with
   |none=>rfl
   |some a=>simp[Addr.add]
 simp[sliced,Result.andThen,h0]
end Go.Proofs.YtcmpmighjglnpaaGreat
namespace Go.Proofs.YtcmpmighjglnpaaGreat
open Go.RowKit
def sinkX(l:List Oper)(i0 n:Nat):Bool:=(List.range n).all fun i=>i==i0||(List.range (n+1)).any fun j=>decide (i<j)&&j !=i0&&Region.waitsFor .any l.toArray j i
def floatB(l:List Oper)(i0:Nat):Bool:=(List.range l.length).all fun j=>j==i0||Region.waitsFor .any l.toArray i0 j||Region.waitsFor .any l.toArray j i0||match l[i0]?,l[j]? with
 |some x,some y=>x.apart l.toArray y
 |_,_=>false
theorem tail_lateX{l:List Oper}{i0 n:Nat}{listed:Array Bool}(hs:sinkX l i0 n=true)(hc:Region.chainB .any l.toArray n=true)(hn:n<l.length)(inv:HeadInv .any l.toArray n listed){i:Nat}(hi:i<n)(hi0:i≠i0)(hu:listed.getD i true=false):
  ∀t,n≤t→t∉Region.ready .any l.toArray listed:=by
 have hsz:listed.size=l.length:=by rw[inv.size];simp
 have key:∀(d i:Nat),d=n-i→i≤n→i≠i0→listed.getD i true=false→n∈Region.ready .any l.toArray listed→i=n:=by
  intro d
  induction d using Nat.strongRecOn with
  |_ d ih=>
   intro i hd hi hi0 hu hr
   rcases Nat.eq_or_lt_of_le hi with e|hi
   ·exact e
   ·exfalso
    have h1:=List.all_eq_true.1 hs i (List.mem_range.2 hi)
    simp only[Bool.or_eq_true,beq_iff_eq]at h1
    rcases h1 with h1|h1
    ·exact hi0 h1
    ·obtain⟨j,hj,hj2⟩:=List.any_eq_true.1 h1
     simp only[Bool.and_eq_true,decide_eq_true_eq,bne_iff_ne,ne_eq]at hj2
     obtain⟨oj,hoj,e,he,hb,hon⟩:=Region.waitsFor_spec hj2.2
     have hjn:j≤n:=by have:=List.mem_range.1 hj;omega
     cases hl:listed.getD j false with
     |true=>
      have h2:=inv.closed j oj hoj hl e he hb
      rw[hon,getD_both hu]at h2;cases h2
     |false=>
      have hjt:=ih (n-j) (by omega) j rfl hjn hj2.1.2 (getD_in (by omega) hl) hr
      subst hjt
      obtain⟨_,ot,hot,hall⟩:=mem_ready.1 hr
      rw[hoj]at hot;cases hot
      have h2:=hall e he hb
      rw[hon,getD_both hu]at h2;cases h2
 intro t ht hr
 by_cases htn:t=n
 ·subst htn
  have:=key (t-i) i rfl (by omega) hi0 hu hr
  omega
 ·obtain⟨_,ot,hot,hall⟩:=mem_ready.1 hr
  have htl:t<l.length:=by have:=(Array.getElem?_eq_some_iff.1 hot).1;simpa using this
  have h1:=List.all_eq_true.1 hc t (List.mem_range.2 (by simpa using htl))
  simp only[Bool.or_eq_true,decide_eq_true_eq]at h1
  rcases h1 with h1|h1
  ·omega
  ·obtain⟨o',ho',e,he,hb,hon⟩:=Region.waitsFor_spec h1
   rw[hot]at ho';cases ho'
   have h2:=hall e he hb
   rw[hon,getD_both (inv.tail (t-1) (by omega) (by simp;omega))]at h2;cases h2
theorem tabf_any{P:Program}{Q:Exit→Act→World→Prop}{a0:Act}{U:World}{l:List Oper}{T:Nat→Value→World→Prop}{n i0:Nat}{o0:Oper}(hi0:l[i0]?=some o0)(hi0n:i0<n)(hn:n<l.length)(hs:sinkX l i0 n=true)(hfl:floatB l i0=true)(hsel:Region.noSelect l.toArray=true)(hg0:o0.guard=none)(d0:Tmp)(hd0:o0.dst=some d0)(hQ0:∀v c a w,Q (.panic c) (a.put o0.dst v) w→Q (.panic c) a w)
  (hy0:∀(a:Act) (w:World),Below U.heap.size U w→(∀s,offB l s=true→a.eval (.tmp s)=a0.eval (.tmp s))→(∀j d,Region.waitsFor .any l.toArray i0 j=true→(l[j]?).bind (·.dst)=some d→Up (T j) (a.eval (.tmp d)) w)→∃v,(∀w',(execOp a.eval o0).run P w'=.ok (.value v) w')∧Up (T i0) v w)
   (hc:Region.chainB .any l.toArray n=true)
  (hseq:Region.seqB .any l.toArray (l.length-n) n (doneA n (l.length-n))=true) (hB:tabB l a0.tmps.size=true) (hstep:TabAll P l T a0 U 0 (l.take n))
  (hend:∀listed a w,TabInv l T a0 U listed a w→(∀i,i<n→listed.getD i false=true)→(∀i,n≤i→i<l.length→listed.getD i true=false)→wpList P l.toArray Q (l.drop n) a w):
  ∀(f:Nat) (listed:Array Bool) (a:Act) (w:World),((List.range n).filter fun i=> !listed.getD i false).length=f→TabInv l T a0 U listed a w→HeadInv .any l.toArray n listed→wpAny P .any l.toArray Q (f+(l.length-n)) listed a w:=by
 have hB':=hB
 simp only[tabB,Bool.and_eq_true,decide_eq_true_eq]at hB'
 obtain⟨⟨hnd,hin⟩,hlow⟩:=hB'
 intro f
 induction f with
 |zero=>
  intro listed a w hf inv hi
  have hup:∀i,i<n→listed.getD i false=true:=fun i hi=>by
   have h0:=List.length_eq_zero_iff.1 hf
   have h1:=List.filter_eq_nil_iff.1 h0 i (List.mem_range.2 hi)
   simpa using h1
  have hk:=hend listed a w inv hup (fun i h1 h2=>hi.tail i h1 (by simpa using h2))
  have he:=split_done (n:=n) (g:=l.length-n) (listed:=listed) (by rw[inv.size];omega) (fun i h=>by
   have h1:=hup i h
   cases h2:listed.getD i true with
   |true=>rfl
   |false=>rw[getD_both h2]at h1;cases h1) (fun t ht ht2=>hi.tail t ht (by simp;omega))
  subst he
  have h3:=wpAny_of_seq (P:=P) (md:=.any) (Q':=Q) (l.drop n) n (doneA n (l.length-n)) a w (fun j=>by simp[List.getElem?_drop]) (by rw[List.length_drop];exact hseq) hk
  rw[List.length_drop]at h3
  rw[Nat.zero_add];exact h3
 |succ f ih=>
  intro listed a w hf inv hi
  rw[show f+1+(l.length-n)=(f+(l.length-n))+1 by omega]
  obtain⟨x,hxn,hxu⟩:∃x,x<n∧listed.getD x false=false:=by
   have:0<((List.range n).filter fun i=> !listed.getD i false).length:=by omega
   obtain⟨x,hx⟩:=List.exists_mem_of_length_pos this
   obtain⟨h1,h2⟩:=List.mem_filter.1 hx
   exact⟨x,List.mem_range.1 h1,by simpa using h2⟩
  by_cases hr0:i0∈Region.ready .any l.toArray listed
  ·
   obtain⟨h0,o,ho,hafter⟩:=mem_ready.1 hr0
   have hol:l[i0]?=some o:=by simpa using ho
   have hoo:o=o0:=by rw[hi0]at hol;exact(Option.some.inj hol).symm
   subst hoo
   have hlt:i0<l.length:=(List.getElem?_eq_some_iff.1 hol).1
   have heval:∀s,offB l s=true→a.eval (.tmp s)=a0.eval (.tmp s):=fun s hs=>by
    show a.tmps.getD s undef=a0.tmps.getD s undef
    rw[Array.getD_eq_getD_getElem?,Array.getD_eq_getD_getElem?,inv.off s (fun _ _ _ hd=>offB_is hs hd)]
   have hfacts:∀j d,Region.waitsFor .any l.toArray i0 j=true→(l[j]?).bind (·.dst)=some d→Up (T j) (a.eval (.tmp d)) w:=fun j d hw hd=>by
    obtain⟨ok,hok,e,he,hb,hon⟩:=Region.waitsFor_spec hw
    rw[ho]at hok;cases hok
    exact inv.told j d (by have:=hafter e he hb;rwa[hon]at this) hd
   obtain⟨v,hv1,hv2⟩:=hy0 a w inv.below heval hfacts
   have hdlt:d0<a.tmps.size:=by
    have h1:=List.all_eq_true.1 hin o (List.mem_of_getElem? hol)
    simp only[hd0,decide_eq_true_eq]at h1
    rw[inv.tmps];exact h1
   refine wpAny_first (oi:=o) (v:=v) ho (Region.noSelect_spec hsel) (hQ0 v) (f+(l.length-n)) listed a w (fun j oj hj hne hun hno=>?_) hr0 (.inl ⟨by simp[Region.wanted,hg0],hv1⟩) ?_
   ·have hjl:j<l.length:=by have:=(Array.getElem?_eq_some_iff.1 hj).1;simpa using this
    have h1:=List.all_eq_true.1 hfl j (List.mem_range.2 hjl)
    have hj2:l[j]?=some oj:=by simpa using hj
    simp only[hi0,hj2,Bool.or_eq_true,beq_iff_eq]at h1
    rcases h1 with((h1|h1)|h1)|h1
    ·exact absurd h1 hne
    ·obtain⟨ok,hok,e,he,hb,hon⟩:=Region.waitsFor_spec h1
     rw[ho]at hok;cases hok
     have h2:=hafter e he hb
     rw[hon,getD_both hun]at h2;cases h2
    ·obtain⟨ok,hok,e,he,hb,hon⟩:=Region.waitsFor_spec h1
     rw[hj]at hok;cases hok
     exact absurd hon (hno e he hb)
    ·exact h1
   ·refine ih _ _ _ ?_ ⟨by simp[inv.size],?_,?_,inv.below,fun s hs=>?_,fun j d hl hd=>?_⟩ (hi.set hr0 hi0n)
    ·have hfe:((List.range n).filter fun i=> !(listed.setIfInBounds i0 true).getD i false)=((List.range n).filter fun i=> !listed.getD i false).erase i0:=by
      rw[List.Nodup.erase_eq_filter (List.nodup_range.filter _),List.filter_filter]
      apply List.filter_congr
      intro x hx
      by_cases e:x=i0
      ·subst e
       have:x<listed.size:=by rw[inv.size];exact hlt
       simp[this]
      ·rw[getD_set_ne false (Ne.symm e)];simp[e]
     rw[hfe,List.length_erase_of_mem (List.mem_filter.2 ⟨List.mem_range.2 hi0n,by rw[getD_both h0];rfl⟩),hf];rfl
    ·unfold Act.put;cases o.dst<;>simp[inv.tmps]
    ·unfold Act.put;cases o.dst<;>exact inv.defers
    ·rw[←inv.off s (fun j d hl hd=>hs j d (getD_set_true hl) hd),hd0]
     have e:d0≠s:=hs i0 d0 (by have:i0<listed.size:=(by rw[inv.size];exact hlt);simp[this]) (by rw[hol];simpa using hd0)
     simp[Act.put,Array.getElem?_setIfInBounds_ne e]
    ·by_cases e:j=i0
     ·subst e
      rw[hol]at hd
      have hd':o.dst=some d:=by simpa using hd
      have hdd:d=d0:=by rw[hd0]at hd';exact(Option.some.inj hd').symm
      subst hdd
      have he:(a.put o.dst v).eval (.tmp d)=v:=by rw[hd'];simp[Act.put,Act.eval,hdlt]
      rw[he];exact hv2
     ·rw[getD_set_ne false (Ne.symm e)]at hl
      have h1:=inv.told j d hl hd
      have he:(a.put o.dst v).eval (.tmp d)=a.eval (.tmp d):=Act.eval_put fun d' hd' hx=>by
       cases hx
       cases hj:l[j]? with
       |none=>rw[hj]at hd;cases hd
       |some y=>
        rw[hj]at hd
        exact e (tab_dst hnd hj hol (by simpa using hd) hd')
      rw[he];exact h1
  obtain⟨y,hyn,hy0',hyu⟩:∃y,y<n∧y≠i0∧listed.getD y false=false:=by
   by_cases e:x=i0
   ·subst e
    have hex:∃e,e∈o0.after∧Region.binds .any e=true∧listed.getD e.on false≠true:=by
     apply Classical.byContradiction
     intro hno
     exact hr0 (mem_ready.2 ⟨getD_in (by rw[inv.size];omega) hxu,o0,by simpa using hi0,fun e he hb=>Classical.byContradiction fun hne=>hno ⟨e,he,hb,hne⟩⟩)
    obtain⟨e,he,hb,hne⟩:=hex
    have h1:=List.all_eq_true.1 hlow x (List.mem_range.2 (by omega))
    simp only[hi0]at h1
    have h2:=Array.all_eq_true_iff_forall_mem.1 h1 e he
    simp only[hb,Bool.not_true,Bool.false_or,decide_eq_true_eq]at h2
    exact⟨e.on,by omega,by omega,by simpa using hne⟩
   ·exact⟨x,hxn,e,hxu⟩
  have hxt:listed.getD y true=false:=getD_in (by rw[inv.size];omega) hyu
  have hready:∀i,i∈Region.ready .any l.toArray listed→i<n:=fun i hr=>by
   rcases Nat.lt_or_ge i n with g|g
   ·exact g
   ·exact absurd hr (tail_lateX hs hc hn hi hyn hy0' hxt i g)
  refine⟨fun h0=>?_,fun k hk=>?_⟩
  ·exfalso
   have hall:∀i,i<l.length→listed.getD i false=true:=fun i=>by
    induction i using Nat.strongRecOn with
    |_ i ih2=>
     intro hil
     cases hu:listed.getD i false with
     |true=>rfl
     |false=>
      exfalso
      have h1:=List.all_eq_true.1 hlow i (List.mem_range.2 hil)
      have hoi:l[i]?=some l[i]:=List.getElem?_eq_getElem hil
      simp only[hoi]at h1
      have:i∈Region.ready .any l.toArray listed:=mem_ready.2 ⟨getD_in (by rw[inv.size];exact hil) hu,l[i],by simp[hil],fun e he hb=>by
       have h2:=Array.all_eq_true_iff_forall_mem.1 h1 e he
       simp only[hb,Bool.not_true,Bool.false_or,decide_eq_true_eq]at h2
       exact ih2 e.on h2 (by omega)⟩
      rw[h0]at this;cases this
   have:=hall x (by omega)
   rw[hxu]at this;cases this
  ·have hkn:=hready k hk
   obtain⟨h0,o,ho,hafter⟩:=mem_ready.1 hk
   have hol:l[k]?=some o:=by simpa using ho
   have hlt:k<l.length:=(List.getElem?_eq_some_iff.1 hol).1
   have hst:TabStep P l T a0 U k o:=by
    have:=hstep.get (j:=k) (o:=o) (by rw[List.getElem?_take_of_lt hkn];exact hol)
    rwa[Nat.zero_add]at this
   have heval:∀s,offB l s=true→a.eval (.tmp s)=a0.eval (.tmp s):=fun s hs=>by
    show a.tmps.getD s undef=a0.tmps.getD s undef
    rw[Array.getD_eq_getD_getElem?,Array.getD_eq_getD_getElem?,inv.off s (fun _ _ _ hd=>offB_is hs hd)]
   have hfacts:∀j d,Region.waitsFor .any l.toArray k j=true→(l[j]?).bind (·.dst)=some d→Up (T j) (a.eval (.tmp d)) w:=fun j d hw hd=>by
    obtain⟨ok,hok,e,he,hb,hon⟩:=Region.waitsFor_spec hw
    rw[ho]at hok;cases hok
    exact inv.told j d (by have:=hafter e he hb;rwa[hon]at this) hd
   have hdlt:∀d,o.dst=some d→d<a.tmps.size:=fun d hd=>by
    have h1:=List.all_eq_true.1 hin o (List.mem_of_getElem? hol)
    simp only[hd,decide_eq_true_eq]at h1
    rw[inv.tmps];exact h1
   have hgo:=hst a w inv.below heval hfacts (wpAny P .any l.toArray Q (f+(l.length-n)) (listed.setIfInBounds k true)) Q (fun v w' hb hv=>by
    refine ih _ _ _ ?_ ⟨by simp[inv.size],?_,?_,inv.below.trans (hb.mono inv.below.size),fun s hs=>?_,fun j d hl hd=>?_⟩ (hi.set hk hkn)
    ·have hfe:((List.range n).filter fun i=> !(listed.setIfInBounds k true).getD i false)=((List.range n).filter fun i=> !listed.getD i false).erase k:=by
      rw[List.Nodup.erase_eq_filter (List.nodup_range.filter _),List.filter_filter]
      apply List.filter_congr
      intro x hx
      by_cases e:x=k
      ·subst e
       have:x<listed.size:=by rw[inv.size];exact hlt
       simp[this]
      ·rw[getD_set_ne false (Ne.symm e)];simp[e]
     rw[hfe,List.length_erase_of_mem (List.mem_filter.2 ⟨List.mem_range.2 hkn,by rw[getD_both h0];rfl⟩),hf];rfl
    ·unfold Act.put;cases o.dst<;>simp[inv.tmps]
    ·unfold Act.put;cases o.dst<;>exact inv.defers
    ·rw[←inv.off s (fun j d hl hd=>hs j d (getD_set_true hl) hd)]
     unfold Act.put
     cases hd:o.dst with
     |none=>rfl
     |some d=>
      have e:d≠s:=hs k d (by have:k<listed.size:=(by rw[inv.size];exact hlt);simp[this]) (by rw[hol];simpa using hd)
      simp[Array.getElem?_setIfInBounds_ne e]
    ·by_cases e:j=k
     ·subst e
      rw[hol]at hd
      have hd':o.dst=some d:=by simpa using hd
      have hlt2:=hdlt d hd'
      have he:(a.put o.dst v).eval (.tmp d)=v:=by rw[hd'];simp[Act.put,Act.eval,hlt2]
      rw[he];exact hv
     ·rw[getD_set_ne false (Ne.symm e)]at hl
      have h1:=inv.told j d hl hd
      have he:(a.put o.dst v).eval (.tmp d)=a.eval (.tmp d):=Act.eval_put fun d' hd' hx=>by
       cases hx
       cases hj:l[j]? with
       |none=>rw[hj]at hd;cases hd
       |some y=>
        rw[hj]at hd
        exact e (tab_dst hnd hj hol (by simpa using hd) hd')
      rw[he];exact h1.on hb)
   unfold wpOp
   simp only[ho]
   split at hgo
   ·rename_i hw;rw[if_pos hw];exact .inl hgo
   ·rename_i hw;rw[if_neg hw];exact hgo
theorem float_extract{P:Program}{o:Oper}{a:Act}(x:Operand)(i:Nat)(ho:o.op=.extract x i)(u v:Value)(hx:a.eval x=u)(hr:∀w,(Instr.extract u i).run P w=.ok v w):∀w',(execOp a.eval o).run P w'=.ok (.value v) w':=fun w'=>by
 unfold execOp;simp only[ho,hx,Sem.run_bind,hr w',Result.andThen_ok];rfl
def tabfB(l:List Oper)(i0 n m:Nat):Bool:=decide (i0<n)&&floatB l i0&&Region.noSelect l.toArray&&decide (n<l.length)&&sinkX l i0 n&&Region.chainB .any l.toArray n&&Region.seqB .any l.toArray (l.length-n) n (doneA n (l.length-n))&&tabB l m
theorem wp_region_tabf{P:Program}{id:Nat}{Q:Exit→Act→World→Prop}{a0:Act}{w0:World}{l:List Oper}(n i0:Nat)(o0:Oper)(hi0:l[i0]?=some o0)(hg0:o0.guard=none)(d0:Tmp)(hd0:o0.dst=some d0)(T:Nat→Value→World→Prop)(U:World)(hU:Below U.heap.size U w0)(hm:P.follows .mixedOrders=true)(hB:tabfB l i0 n a0.tmps.size=true)(hQ0:∀v c a w,Q (.panic c) (a.put o0.dst v) w→Q (.panic c) a w)
  (hy0:∀(a:Act) (w:World),Below U.heap.size U w→(∀s,offB l s=true→a.eval (.tmp s)=a0.eval (.tmp s))→(∀j d,Region.waitsFor .any l.toArray i0 j=true→(l[j]?).bind (·.dst)=some d→Up (T j) (a.eval (.tmp d)) w)→∃v,(∀w',(execOp a.eval o0).run P w'=.ok (.value v) w')∧Up (T i0) v w)
  (hstep:TabAll P l T a0 U 0 (l.take n))
  (hend:∀(vals:Tmp→Value) (w:World),Below U.heap.size U w→(∀j d,((l.take n)[j]?).bind (·.dst)=some d→Up (T j) (vals d) w)→wpList P l.toArray Q (l.drop n) (putL ((l.take n).map (·.dst)) vals a0) w):(Code.region id l.toArray true).wp P Q a0 w0:=by
 simp only[tabfB,Bool.and_eq_true,decide_eq_true_eq]at hB
 obtain⟨⟨⟨⟨⟨⟨⟨hi0n,hfl⟩,hsel⟩,hn⟩,hs⟩,hc⟩,hseq⟩,hB⟩:=hB
 refine wp_region_any hm ?_
 have hl0:∀i,(Array.replicate l.toArray.size false).getD i false=false:=fun i=>getD_replicate_false _ _
 have hinv:HeadInv .any l.toArray n (Array.replicate l.toArray.size false):=⟨by simp,(fun j oj _ hl=>by rw[hl0]at hl;cases hl),(fun t _ ht=>by simp at ht;simp[ht])⟩
 have key:=tabf_any (P:=P) (Q:=Q) (T:=T) (U:=U) hi0 hi0n hn hs hfl hsel hg0 d0 hd0 hQ0 hy0 hc hseq hB hstep (fun listed a w inv hup htl=>by
  have ha:a=putL ((l.take n).map (·.dst)) (fun d=>a.eval (.tmp d)) a0:=by
   have hB2:=hB
   simp only[tabB,Bool.and_eq_true,decide_eq_true_eq]at hB2
   have ht:a.tmps=(putL ((l.take n).map (·.dst)) (fun d=>a.eval (.tmp d)) a0).tmps:=by
    apply Array.ext_getElem?
    intro s
    by_cases hs:some s∈(l.take n).map (·.dst)
    ·obtain⟨o,ho,hd⟩:=List.mem_map.1 hs
     have h1:=List.all_eq_true.1 hB2.1.2 o (List.mem_of_mem_take ho)
     simp only[hd,decide_eq_true_eq]at h1
     rw[putL_in _ _ _ s (.inl hs) h1]
     have h2:s<a.tmps.size:=by rw[inv.tmps];exact h1
     simp[Act.eval,h2]
    ·rw[putL_out _ _ _ s hs]
     refine inv.off s (fun j d hl hd e=>hs ?_)
     cases hj:l[j]? with
     |none=>rw[hj]at hd;cases hd
     |some y=>
      have hjl:j<l.length:=(List.getElem?_eq_some_iff.1 hj).1
      have hjn:j<n:=by
       rcases Nat.lt_or_ge j n with g|g
       ·exact g
       ·have:=getD_both (htl j g hjl)
        rw[hl]at this;cases this
      rw[hj]at hd
      exact List.mem_map.2 ⟨y,List.mem_of_getElem? (i:=j) (by rw[List.getElem?_take_of_lt hjn];exact hj),by rw[←e];simpa using hd⟩
   have hdf:a.defers=(putL ((l.take n).map (·.dst)) (fun d=>a.eval (.tmp d)) a0).defers:=by rw[putL_defers];exact inv.defers
   cases a with
   |mk t df=>
    generalize hp:putL ((l.take n).map (·.dst)) (fun d=>(Act.mk t df).eval (.tmp d)) a0=p at*
    cases p with
    |mk t2 df2=>simp only at ht hdf;rw[ht,hdf]
  rw[ha]
  refine hend _ w inv.below fun j d hd=>?_
  rcases Nat.lt_or_ge j n with g|g
  ·rw[List.getElem?_take_of_lt g]at hd
   exact inv.told j d (hup j g) hd
  ·rw[List.getElem?_eq_none (by rw[List.length_take];omega)]at hd;cases hd) n (Array.replicate l.toArray.size false) a0 w0.drew (by rw[List.filter_eq_self.2 (fun i _=>by rw[hl0];rfl)];simp) ⟨by simp,rfl,rfl,hU.drew,fun _ _=>rfl,fun j d h _=>by rw[hl0]at h;cases h⟩ hinv
 rw[show n+(l.length-n)=l.toArray.size by simp;omega]at key
 exact key
end Go.Proofs.YtcmpmighjglnpaaGreat
namespace Go.Proofs.YtcmpmighjglnpaaGreat
open Go.RowKit
theorem any_float{P:Program}{Q:Exit→Act→World→Prop}{l:List Oper}(i:Nat){o:Oper}(v:Value)(hsel:Region.noSelect l.toArray=true)(hfl:floatB l i=true)(ho:l[i]?=some o)(hg:o.guard=none)(d:Tmp)(hd:o.dst=some d){fuel:Nat}{listed:Array Bool}{a:Act}{w:World}
  (hQ:∀c a w,Q (.panic c) (a.put (some d) v) w→Q (.panic c) a w) (hr:(Region.ready .any l.toArray listed).contains i=true) (hv:∀w',(execOp a.eval o).run P w'=.ok (.value v) w')
  (h:wpAny P .any l.toArray Q fuel (listed.setIfInBounds i true) (a.put (some d) v) w):wpAny P .any l.toArray Q (fuel+1) listed a w:=by
 rw[←hd]at h hQ
 have hr':i∈Region.ready .any l.toArray listed:=by simpa using hr
 obtain⟨hu0,oi,hoi,hafter⟩:=mem_ready.1 hr'
 have ho':l.toArray[i]?=some o:=by simpa using ho
 rw[ho']at hoi;cases hoi
 refine wpAny_first (oi:=o) (v:=v) ho' (Region.noSelect_spec hsel) hQ fuel listed a w (fun j oj hj hne hun hno=>?_) hr' (.inl ⟨by simp[Region.wanted,hg],hv⟩) h
 have hjl:j<l.length:=by have:=(Array.getElem?_eq_some_iff.1 hj).1;simpa using this
 have h1:=List.all_eq_true.1 hfl j (List.mem_range.2 hjl)
 have hj2:l[j]?=some oj:=by simpa using hj
 simp only[ho,hj2,Bool.or_eq_true,beq_iff_eq]at h1
 rcases h1 with((h1|h1)|h1)|h1
 ·exact absurd h1 hne
 ·obtain⟨ok,hok,e,he,hb,hon⟩:=Region.waitsFor_spec h1
  rw[ho']at hok;cases hok
  have h2:=hafter e he hb
  rw[hon,getD_both hun]at h2;cases h2
 ·obtain⟨ok,hok,e,he,hb,hon⟩:=Region.waitsFor_spec h1
  rw[hj]at hok;cases hok
  exact absurd hon (hno e he hb)
 ·exact h1
end Go.Proofs.YtcmpmighjglnpaaGreat
namespace Go.Proofs.YtcmpmighjglnpaaGreat
open Go.RowKit
theorem pfixed_gen(w:World)(p:Nat)(A:Option Addr)(l c:Nat)(s:Rz)(h:Rdr w p A l c s)(F1 F2:Nat→Nat)(h1:∀j,F1 j<256)(h2:∀j,F2 j<256)
  (hfx:∀w:World,Calls Tryz.prog 125 #[] w fun e w'=>∃A1 c1 A2 c2,e=.returned (.tuple #[.slice A1 288 c1,.slice A2 32 c2])∧
   w'.ownsRow w.heap.size 5 1 (.slice A1 288 c1) 288 (bytesL 288 F1)∧w'.ownsRow w.heap.size 5 1 (.slice A2 32 c2) 32 (bytesL 32 F2)∧Below w.heap.size w w'):
  Calls Tryz.prog 100 #[.pointer (some ⟨p,0,none⟩)] w fun e w'=>∃u1 u2,e=.returned (.tuple #[.agg (trA (grC F1 288 15) u1),.agg (trA (grC F2 32 15) u2)])∧
   Rdr w' p A l c (gwS F2 32 15 (gwS F1 288 15 s))∧OwnS w' w.heap.size u1 (grS F1 288 15)∧OwnS w' w.heap.size u2 (grS F2 32 15)∧Fr (At p) w w':=by
 have hp:=h.lt
 obtain⟨k,hk⟩:∃k,k=w.heap.size:=⟨_,rfl⟩
 obtain⟨Z,hZ⟩:∃Z,Z=trA (fun _=>0) (.slice none 0 0):=⟨_,rfl⟩
 obtain⟨W1,hW1⟩:∃W1,W1=(w.alloc (.cells Z 26)).alloc (.cells Z 26):=⟨_,rfl⟩
 have hb1:Below k w W1:=by rw[hW1,hk];exact((Below.refl _ _).alloc (Nat.le_refl _) _).alloc (by simp) _
 have hs1:W1.heap.size=k+2:=by rw[hW1,hk];simp
 have z1:BoxC W1 k Z 26:=by rw[hW1,hk];exact(BoxC.new w _ _).old _
 have y1:BoxC W1 (k+1) Z 26:=by rw[hW1,hk];have:=BoxC.new (w.alloc (.cells Z 26)) Z 26;rwa[World.size_alloc]at this
 have HD1:=Lib.hid (BoxC.below h hb1 (by omega):Rdr W1 p A l c s)
 have HF1:=Lib.hid (Fr.of (S:=At p) (hk▸hb1))
 have hzb:∀u:World,(zeroValue 26).run Tryz.prog u=.ok (.agg Z) u:=by rw[hZ];exact(zero_of_info infoTree13).1
 have HZS:Hid (Z.size=17):=Lib.hid (by rw[hZ,trA_size])
 have HFX:=Lib.hid (hfx W1)
 have HW1:=Lib.hid hW1;have HK:=Lib.hid hk;have HS1:=Lib.hid hs1;have HZ1:=Lib.hid z1;have HY1:=Lib.hid y1
 have HP:Hid (p<k):=Lib.hid (by omega)
 have H1:=Lib.hid h1;have H2:=Lib.hid h2
 clear h hZ hW1 hk hb1 hs1 z1 y1 hfx hp h1 h2
 go_enter Tryz.func100,Tryz.ntmps100
 go_wp2_with (first|(rw[←HW1.out,←HK.out])|fail)
 refine HFX.out.mono ?_
 rintro e w2 ⟨A1,c1,A2,c2,rfl,o1,o2,hb2⟩
 have HD2:=Lib.hid (BoxC.below HD1.out hb2 HD1.out.lt:Rdr w2 p A l c s)
 have hr1:=(ByR.of_own o1 H1.out).1
 have hr2:=(ByR.of_own o2 H2.out).1
 have hn2:∀b o,0<32→A2=some ⟨b,o,none⟩→¬At p b:=fun b o h0 e (hb:b=p)=>by
  obtain⟨g',cap,hv,hge,_⟩:=o2.form h0
  injection hv with hv _ _
  rw[e]at hv
  injection hv with hv
  injection hv with e1 _ _
  have:=HP.out;have:=HS1.out;omega
 have HR2:Hid (RdF (At p) w2 A2 32 F2):=Lib.hid ⟨hr2,hn2⟩
 have HG1:=Lib.hid (pgrow_any w2 p A l c s HD2.out A1 288 c1 F1 hr1 (by omega) 15)
 have HF2:=Lib.hid (HF1.out.on hb2)
 have HZ2:=Lib.hid (HZ1.out.below hb2 HZ1.out.lt);have HY2:=Lib.hid (HY1.out.below hb2 HY1.out.lt)
 have HK2:Hid (k+2≤w2.heap.size):=Lib.hid (by have:=hb2.size;rw[HS1.out]at this;exact this)
 clear o1 o2 hb2 hr1 hr2 hn2 HFX
 go_wp2_with fail
 refine HG1.out.mono ?_
 rintro e w3 ⟨u1,rfl,r3,o3,f3⟩
 have HR3:=Lib.hid (HR2.out.fr f3)
 have HO3:=Lib.hid o3
 have HF3:=Lib.hid (HF2.out.trans f3)
 have HG2:=Lib.hid (pgrow_any w3 p A l c _ r3 A2 32 c2 F2 HR3.out.1 (by omega) 15)
 have hpk:¬At p k∧¬At p (k+1):=by have:=HP.out;exact⟨by show¬k=p;omega,by show¬k+1=p;omega⟩
 have HZ3:=Lib.hid (HZ2.out.fr f3 hpk.1);have HY3:=Lib.hid (HY2.out.fr f3 hpk.2)
 have HK3:Hid (k+2≤w3.heap.size):=Lib.hid (Nat.le_trans HK2.out f3.size)
 obtain⟨X,hX⟩:∃X,X=trA (grC F1 288 15) u1:=⟨_,rfl⟩
 rw[←hX]
 have HXS:Hid (X.size=17):=Lib.hid (by rw[hX,trA_size])
 have HXO:Hid (X.all (·.oneCell')=true):=Lib.hid (by rw[hX];exact trA_one _ _ o3.one)
 have HXE:=Lib.hid hX
 clear r3 o3 f3 hX HG1 HR2 HD2
 go_wp2_with fail
 refine HG2.out.mono ?_
 rintro e w4 ⟨u2,rfl,r4,o4,f4⟩
 obtain⟨Y,hY⟩:∃X,X=trA (grC F2 32 15) u2:=⟨_,rfl⟩
 rw[←hY]
 have HYS:Hid (Y.size=17):=Lib.hid (by rw[hY,trA_size])
 have HYO:Hid (Y.all (·.oneCell')=true):=Lib.hid (by rw[hY];exact trA_one _ _ o4.one)
 have HYE:=Lib.hid hY
 have HZ4:=Lib.hid (HZ3.out.fr f4 hpk.1)
 have HY4:Hid (BoxC (w4.setRow k X) (k+1) Z 26):=Lib.hid ((HY3.out.fr f4 hpk.2).rowO (by omega) _)
 have HO1:=Lib.hid (HO3.out.fr f4 (fun j (e:j=p)=>by have:=HP.out;have:=HK2.out;omega))
 have HO2:=Lib.hid o4;have HR4:=Lib.hid r4;have HF4:=Lib.hid (HF3.out.trans f4)
 clear r4 o4 f4 hY HG2 HZ3 HY3 HO3 HF3 hpk
 go_wp2_with (first
  |(refine wpList_store_rowTo rfl _ _ _ rfl rfl k X rfl rfl 26 Z HZ4.out (szTree17 HXS.out) (by rw[HZS.out,HXS.out]) HXO.out ?_)
  |(refine wpList_store_rowTo rfl _ _ _ rfl rfl (k+1) Y rfl rfl 26 Z HY4.out (szTree17 HYS.out) (by rw[HZS.out,HYS.out]) HYO.out ?_)
  |fail)
 have hkk:=HK2.out;have hkk3:=HK3.out;have hpp:=HP.out
 refine bodyPost_ret (v:=.tuple #[.agg X,.agg Y]) (cell_twoT rfl _ _ k (k+1) X Y HXS.out HYS.out rfl rfl (BoxC.rowO (show BoxC (w4.setRow k X) k X 26 from setRow_heap _ _ _ _ _ _ HZ4.out) (by omega) _) (setRow_heap _ _ _ _ _ _ HY4.out)) rfl ⟨u1,u2,by rw[HXE.out,HYE.out],?_,?_,?_,?_⟩
 ·exact BoxC.rowO (BoxC.rowO HR4.out (by omega) _) (by omega) _
 ·rw[←HK.out];exact ownsRow_lower (own_blk HO1.out fun j hj=>(setRow_other _ _ _ _ (by have:=(own_blk_lt HO1.out j hj).1;omega)).trans (setRow_other _ _ _ _ (by have:=(own_blk_lt HO1.out j hj).1;omega))) (by omega)
 ·rw[←HK.out];exact ownsRow_lower (own_blk HO2.out fun j hj=>(setRow_other _ _ _ _ (by have:=(own_blk_lt HO2.out j hj).1;omega)).trans (setRow_other _ _ _ _ (by have:=(own_blk_lt HO2.out j hj).1;omega))) (by omega)
 ·exact(HF4.out.from (Fr.row w4 k X) fun j hj=>.inr (by rw[←HK.out];exact Nat.le_of_eq hj.symm)).from (Fr.row _ (k+1) Y) fun j hj=>.inr (by rw[←HK.out];have:j=k+1:=hj;omega)
def dyL(g:Nat→Nat)(L:Nat)(s:Rz):Nat:=tkV g L 5 s+257
def dyS1(L:Nat)(s:Rz):Rz:=tkS L 5 s
def dyF(g:Nat→Nat)(L:Nat)(s:Rz):Nat:=tkV g L 5 (dyS1 L s)+1
def dyS2(L:Nat)(s:Rz):Rz:=tkS L 5 (dyS1 L s)
def dyC(g:Nat→Nat)(L:Nat)(s:Rz):Nat:=tkV g L 4 (dyS2 L s)+4
def dyS4(g:Nat→Nat)(L:Nat)(s:Rz):Rz:=wantS (tkS L 4 (dyS2 L s)) (decide (dyL g L s≤286∧dyF g L s≤30)) 132
def dyH(g:Nat→Nat)(L:Nat)(s:Rz):Nat→Nat:=shG g L (dyS4 g L s) (dyC g L s)
def dyS5(g:Nat→Nat)(L:Nat)(s:Rz):Rz:=wantS (gwS (dyH g L s) 19 7 (shS L (dyS4 g L s) (dyC g L s))) (decide (2≤(((grS (dyH g L s) 19 7).length:Nat):Int))) 132
def dyR(g:Nat→Nat)(L:Nat)(s:Rz):List (Int×Int)×Rz:=lnS (extF 19 (dyH g L s)) g L (dyL g L s+dyF g L s) (dyL g L s+dyF g L s) 0 [] (dyS5 g L s)
def dyO(g:Nat→Nat)(L:Nat)(s:Rz):List Nat:=(strO (dyR g L s).1 ((dyL g L s+dyF g L s:Nat):Int)).2
def dyS9(g:Nat→Nat)(L:Nat)(s:Rz):Rz:=if(dyR g L s).2.2≠0 then(dyR g L s).2 else gwS (lst ((dyO g L s).drop (dyL g L s))) (dyF g L s) 15 (gwS (lst (dyO g L s)) (dyL g L s) 15 (wantS (dyR g L s).2 (decide (0<lst (dyO g L s) 256)) 132))
def dyG1(g:Nat→Nat)(L:Nat)(s:Rz):Nat→Int:=if(dyR g L s).2.2≠0 then fun _=>0 else grC (lst (dyO g L s)) (dyL g L s) 15
def dyG2(g:Nat→Nat)(L:Nat)(s:Rz):Nat→Int:=if(dyR g L s).2.2≠0 then fun _=>0 else grC (lst ((dyO g L s).drop (dyL g L s))) (dyF g L s) 15
def dyY1(g:Nat→Nat)(L:Nat)(s:Rz):List Int:=if(dyR g L s).2.2≠0 then[]else grS (lst (dyO g L s)) (dyL g L s) 15
def dyY2(g:Nat→Nat)(L:Nat)(s:Rz):List Int:=if(dyR g L s).2.2≠0 then[]else grS (lst ((dyO g L s).drop (dyL g L s))) (dyF g L s) 15
theorem dyS4_in{g:Nat→Nat}{L:Nat}{s:Rz}(h:s.1≤8*L):(dyS4 g L s).1≤8*L:=by unfold dyS4;rw[wantS_in];exact tkS_in (tkS_in (tkS_in h))
theorem dyS5_in{g:Nat→Nat}{L:Nat}{s:Rz}(h:s.1≤8*L):(dyS5 g L s).1≤8*L:=by unfold dyS5 gwS;rw[wantS_in,wantS_in];exact shS_in (dyS4_in h) _
theorem wantS_ok{s:Rz}{b:Bool}{x:Int}(hx:x≠0)(h:(wantS s b x).2=0):s.2=0∧b=true:=by
 unfold wantS keepS at h
 cases b
 ·exfalso
  rw[if_neg (by decide)]at h
  split at h
  ·exact hx h
  ·rename_i h2;exact h2 h
 ·rw[if_pos rfl]at h;exact⟨h,rfl⟩
theorem dyS5_ok{g:Nat→Nat}{L:Nat}{s:Rz}(h:(dyS5 g L s).2=0):checkE (dyH g L s) 19 7=0:=of_decide_eq_true (wantS_ok (by decide) (wantS_ok (by decide) h).1).2
theorem exec_slice{P:Program}{o:Oper}{a:Act}(t:TypeId)(x:Operand)(lo hi:Option Operand)(ho:o.op=.slice t x lo hi none)(u v:Value)(lo' hi':Option Value)(hx:a.eval x=u)(h1:lo.map a.eval=lo')(h2:hi.map a.eval=hi')(hr:∀w,(Instr.sliceAt t u lo' hi' none).run P w=.ok v w)(w:World):(execOp a.eval o).run P w=.ok (.value v) w:=by
 unfold execOp;simp only[ho,hx,h1,h2,Option.map_none,Sem.run_bind,hr,Result.andThen_ok];rfl
theorem exec_move{P:Program}{o:Oper}{a:Act}(x:Operand)(ho:o.op=.move x)(u:Value)(hx:a.eval x=u)(w:World):(execOp a.eval o).run P w=.ok (.value u) w:=by
 unfold execOp;simp only[ho,hx];rfl
theorem drop_rd{w:World}{B:Nat}{b o n:Nat}{O:List Nat}{k:Nat}(h:RdB w B (some ⟨b,o,none⟩) n (lst O))(hk:k≤n):RdB w B (some ⟨b,o+k,none⟩) (n-k) (lst (O.drop k)):=by
 refine⟨fun j=>?_,fun h0=>?_⟩
 ·have:=h.1 (k+j);unfold lst at this⊢;rwa[List.getD_eq_getElem?_getD,List.getElem?_drop,←List.getD_eq_getElem?_getD]
 ·obtain⟨b',o',e,hb,hc⟩:=h.2 (by omega)
  cases e
  refine⟨b,o+k,rfl,hb,fun j hj=>?_⟩
  have:=hc (k+j) (by omega)
  rw[←Nat.add_assoc]at this
  rw[this];unfold lst
  rw[List.getD_eq_getElem?_getD,List.getD_eq_getElem?_getD,List.getElem?_drop]
end Go.Proofs.YtcmpmighjglnpaaGreat
