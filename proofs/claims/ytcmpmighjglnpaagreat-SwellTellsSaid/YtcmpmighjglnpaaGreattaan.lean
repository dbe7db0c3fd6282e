/-
  Words and walks.
-/
import Derived.Deep.MidRow
import Derived.Laws.CopyOwn
import Derived.Lib.AppendZeros
import Derived.Deep.RegionLaw
import Derived.BigQuiet
import Derived.WalkKit
import Derived.ProofKit
import Derived.Lib.Hide
import Derived.BigRegion
import Derived.OneCell
import Derived.Deep.DeepCutAuto
import Derived.WalkMore
import Derived.Test.YtcmpmighjglnpaaGreattaaa
import Derived.Test.YtcmpmighjglnpaaGreattaab
import Derived.Test.YtcmpmighjglnpaaGreattaac
import Derived.Test.YtcmpmighjglnpaaGreattaad
import Derived.Test.YtcmpmighjglnpaaGreattaai
import Derived.Test.YtcmpmighjglnpaaGreattaal
import Derived.Test.YtcmpmighjglnpaaGreattaam
set_option maxRecDepth 100000
set_option maxHeartbeats 16000000
namespace Go.Proofs.YtcmpmighjglnpaaGreat
open Go.RowKit
theorem extB_is(far:Bool)(y:Nat):(if far then fbV (y:Int)else lbV (y:Int))=((extB far y:Nat):Int)∧extB far y≤13:=by
 unfold extB
 cases far
 ·have:=(lb_is (y:Int)).2;simp only[Bool.false_eq_true,if_false];omega
 ·have:=(fb_is (y:Int)).2;simp only[if_true];omega
theorem pnuml_any(w:World)(p:Nat)(A:Option Addr)(l c:Nat)(g:Nat→Nat)(s:Rz)(h:Rdr w p A l c s)(S:Nat→Prop)(hS:S p)(hg:RdF S w A l g)(hl:l≤1000000)(hs:s.1≤8*l)(y:Nat):
  Calls Tryz.prog 105 #[.pointer (some ⟨p,0,none⟩),.int .i64 (y:Int),.func (.func 106) #[] #[],.func (.func 107) #[] #[]] w fun e w'=>e=.returned (.int .i64 (nuV false y g l s))∧Rdr w' p A l c (nuS false y g l s)∧Fr (At p) w w':=by
 have HSP:Hid (∀j,At p j→S j):=Lib.hid fun j (e:j=p)=>e▸hS
 have HE:=Lib.hid fun V=>lbit9_any V (y:Int)
 have HO:=Lib.hid fun V x=>lof9_any V (y:Int) x
 have e1:=(extB_is false y).1
 have h13:=(extB_is false y).2
 simp only[Bool.false_eq_true,if_false]at e1
 rw[e1]at HE
 have d1:extE false y=lbE (y:Int):=rfl
 rw[←d1]at HE
 have d2:∀x:Nat,ofE false y x=loE (y:Int) (x:Int):=fun _=>rfl
 have d3:∀x:Nat,ofV false y x=loV (y:Int) (x:Int):=fun _=>rfl
 have n1:nuV false y g l s=ofV false y (tkV g l (extB false y) (nu1 false y s)):=rfl
 have n2:nuS false y g l s=keepS (tkS l (extB false y) (nu1 false y s)) (ofE false y (tkV g l (extB false y) (nu1 false y s))):=rfl
 have n3:nu1 false y s=keepS s (extE false y):=rfl
 obtain⟨s1,hs1⟩:∃x,x=nu1 false y s:=⟨_,rfl⟩
 rw[←hs1]at n1 n2 n3
 have hin:s1.1≤8*l:=by rw[n3,keepS_in];exact hs
 obtain⟨b,hb⟩:∃x,x=extB false y:=⟨_,rfl⟩
 obtain⟨E,hE⟩:∃x,x=extE false y:=⟨_,rfl⟩
 rw[←hb]at HE h13 n1 n2
 rw[←hE]at HE n3
 have hV:tkV g l b s1=tkV g l b s1:=rfl
 obtain⟨x,hx⟩:∃x,x=tkV g l b s1:=⟨_,rfl⟩
 rw[←hx]at n1 n2
 have HOx:=Lib.hid fun V=>HO.out V (x:Int)
 rw[←d2,←d3]at HOx
 obtain⟨v,hv⟩:∃v,v=ofV false y x:=⟨_,rfl⟩
 obtain⟨q,hq⟩:∃v,v=ofE false y x:=⟨_,rfl⟩
 rw[←hv,←hq]at HOx
 rw[←hv]at n1
 rw[←hq]at n2
 rw[n1,n2]
 have HR:=Lib.hid h;have HG:=Lib.hid hg;have HX:=Lib.hid hx;have HN3:=Lib.hid n3
 clear h hg hx n3 n1 n2 hv hq hE hb hs1 hV d1 d2 d3 e1 HO hS hs
 go_enter Tryz.func105,Tryz.ntmps105
 go_wp2_with fail
 refine(HE.out w).mono ?_
 rintro e w1 ⟨rfl,hb1⟩
 have HR1:=Lib.hid (BoxC.below HR.out hb1 HR.out.lt:Rdr w1 p A l c s);have HF1:=Lib.hid (Fr.of (S:=At p) hb1);have HG1:=Lib.hid (HG.out.fr (Fr.of hb1))
 have HKP:=Lib.hid (pkeep_any w1 p A l c s HR1.out E)
 rw[←HN3.out]at HKP
 clear hb1 HE HR HG
 go_wp2_with fail
 refine HKP.out.mono ?_
 rintro e w2 ⟨rfl,r2,f2⟩
 have HR2:=Lib.hid r2;have HF2:=Lib.hid (HF1.out.trans f2);have HG2:=Lib.hid (HG1.out.fr (f2.mono HSP.out))
 have HT:=Lib.hid (ptake_any w2 p A l c g s1 HR2.out HG2.out.1 hl hin b (by omega))
 rw[←HX.out]at HT
 clear r2 f2 HKP HR1 HF1 HG1
 go_wp2_with fail
 refine HT.out.mono ?_
 rintro e w3 ⟨rfl,r3,f3⟩
 have HR3:=Lib.hid r3;have HF3:=Lib.hid (HF2.out.trans f3)
 clear r3 f3 HT HR2 HF2 HG2
 go_wp2_with fail
 refine(HOx.out w3).mono ?_
 rintro e w4 ⟨rfl,hb4⟩
 have HR4:=Lib.hid (BoxC.below HR3.out hb4 HR3.out.lt:Rdr w4 p A l c (tkS l b s1));have HF4:=Lib.hid (HF3.out.on hb4)
 have HKQ:=Lib.hid (pkeep_any w4 p A l c _ HR4.out q)
 clear hb4 HOx HR3 HF3
 go_wp2_with fail
 refine HKQ.out.mono ?_
 rintro e w5 ⟨rfl,r5,f5⟩
 have HR5:=Lib.hid r5;have HF5:=Lib.hid (HF4.out.trans f5)
 clear r5 f5 HKQ
 go_wp2
 go_ret
 exact⟨rfl,HR5.out,HF5.out⟩
theorem pnumf_any(w:World)(p:Nat)(A:Option Addr)(l c:Nat)(g:Nat→Nat)(s:Rz)(h:Rdr w p A l c s)(S:Nat→Prop)(hS:S p)(hg:RdF S w A l g)(hl:l≤1000000)(hs:s.1≤8*l)(y:Nat):
  Calls Tryz.prog 105 #[.pointer (some ⟨p,0,none⟩),.int .i64 (y:Int),.func (.func 108) #[] #[],.func (.func 109) #[] #[]] w fun e w'=>e=.returned (.int .i64 (nuV true y g l s))∧Rdr w' p A l c (nuS true y g l s)∧Fr (At p) w w':=by
 have HSP:Hid (∀j,At p j→S j):=Lib.hid fun j (e:j=p)=>e▸hS
 have HE:=Lib.hid fun V=>fbit9_any V (y:Int)
 have HO:=Lib.hid fun V x=>fof9_any V (y:Int) x
 have e1:=(extB_is true y).1
 have h13:=(extB_is true y).2
 simp only[if_true]at e1
 rw[e1]at HE
 have d1:extE true y=fbE (y:Int):=rfl
 rw[←d1]at HE
 have d2:∀x:Nat,ofE true y x=foE (y:Int) (x:Int):=fun _=>rfl
 have d3:∀x:Nat,ofV true y x=foV (y:Int) (x:Int):=fun _=>rfl
 have n1:nuV true y g l s=ofV true y (tkV g l (extB true y) (nu1 true y s)):=rfl
 have n2:nuS true y g l s=keepS (tkS l (extB true y) (nu1 true y s)) (ofE true y (tkV g l (extB true y) (nu1 true y s))):=rfl
 have n3:nu1 true y s=keepS s (extE true y):=rfl
 obtain⟨s1,hs1⟩:∃x,x=nu1 true y s:=⟨_,rfl⟩
 rw[←hs1]at n1 n2 n3
 have hin:s1.1≤8*l:=by rw[n3,keepS_in];exact hs
 obtain⟨b,hb⟩:∃x,x=extB true y:=⟨_,rfl⟩
 obtain⟨E,hE⟩:∃x,x=extE true y:=⟨_,rfl⟩
 rw[←hb]at HE h13 n1 n2
 rw[←hE]at HE n3
 have hV:tkV g l b s1=tkV g l b s1:=rfl
 obtain⟨x,hx⟩:∃x,x=tkV g l b s1:=⟨_,rfl⟩
 rw[←hx]at n1 n2
 have HOx:=Lib.hid fun V=>HO.out V (x:Int)
 rw[←d2,←d3]at HOx
 obtain⟨v,hv⟩:∃v,v=ofV true y x:=⟨_,rfl⟩
 obtain⟨q,hq⟩:∃v,v=ofE true y x:=⟨_,rfl⟩
 rw[←hv,←hq]at HOx
 rw[←hv]at n1
 rw[←hq]at n2
 rw[n1,n2]
 have HR:=Lib.hid h;have HG:=Lib.hid hg;have HX:=Lib.hid hx;have HN3:=Lib.hid n3
 clear h hg hx n3 n1 n2 hv hq hE hb hs1 hV d1 d2 d3 e1 HO hS hs
 go_enter Tryz.func105,Tryz.ntmps105
 go_wp2_with fail
 refine(HE.out w).mono ?_
 rintro e w1 ⟨rfl,hb1⟩
 have HR1:=Lib.hid (BoxC.below HR.out hb1 HR.out.lt:Rdr w1 p A l c s);have HF1:=Lib.hid (Fr.of (S:=At p) hb1);have HG1:=Lib.hid (HG.out.fr (Fr.of hb1))
 have HKP:=Lib.hid (pkeep_any w1 p A l c s HR1.out E)
 rw[←HN3.out]at HKP
 clear hb1 HE HR HG
 go_wp2_with fail
 refine HKP.out.mono ?_
 rintro e w2 ⟨rfl,r2,f2⟩
 have HR2:=Lib.hid r2;have HF2:=Lib.hid (HF1.out.trans f2);have HG2:=Lib.hid (HG1.out.fr (f2.mono HSP.out))
 have HT:=Lib.hid (ptake_any w2 p A l c g s1 HR2.out HG2.out.1 hl hin b (by omega))
 rw[←HX.out]at HT
 clear r2 f2 HKP HR1 HF1 HG1
 go_wp2_with fail
 refine HT.out.mono ?_
 rintro e w3 ⟨rfl,r3,f3⟩
 have HR3:=Lib.hid r3;have HF3:=Lib.hid (HF2.out.trans f3)
 clear r3 f3 HT HR2 HF2 HG2
 go_wp2_with fail
 refine(HOx.out w3).mono ?_
 rintro e w4 ⟨rfl,hb4⟩
 have HR4:=Lib.hid (BoxC.below HR3.out hb4 HR3.out.lt:Rdr w4 p A l c (tkS l b s1));have HF4:=Lib.hid (HF3.out.on hb4)
 have HKQ:=Lib.hid (pkeep_any w4 p A l c _ HR4.out q)
 clear hb4 HOx HR3 HF3
 go_wp2_with fail
 refine HKQ.out.mono ?_
 rintro e w5 ⟨rfl,r5,f5⟩
 have HR5:=Lib.hid r5;have HF5:=Lib.hid (HF4.out.trans f5)
 clear r5 f5 HKQ
 go_wp2
 go_ret
 exact⟨rfl,HR5.out,HF5.out⟩
end Go.Proofs.YtcmpmighjglnpaaGreat
namespace Go.Proofs.YtcmpmighjglnpaaGreat
open Go.RowKit
theorem cell_tok2{fn:Func}{p u:Tmp}(h:fn.results=#[.cell p 82,.tmp u])(tmps:Array Value)(w:World)(g:Nat)(cs:Array Value)(hs:cs.size=3)(hp:tmps.getD p undef=.pointer (some ⟨g,0,none⟩))(ht:w.heap[g]?=some (.cells cs 82 (0,0))):
  (results fn tmps).run Tryz.prog w=.ok (.tuple #[.agg cs,tmps.getD u undef]) w:=by
 have hp':tmps[p]?.getD undef=.pointer (some ⟨g,0,none⟩):=by simpa using hp
 have hl:=run_loadVar_row (P:=Tryz.prog) w g 82 82 cs (0,0) _ ht Tryz.underlying82 rfl (by rw[hs];exact szTok)
 simp[results,h,hp',asAddr,hl]
def tkA3(t:Tok):Array Value:=#[.int .u8 (t.x:Int),.int .i64 t.d,.int .i64 t.n]
def stpV(r:Tok×Bool×Rz):Value:=.tuple #[.agg (tkA3 r.1),.bool r.2.1]
theorem tkA3_one(t:Tok):(tkA3 t).all (·.oneCell')=true:=oneTok _ _ _
theorem stp_sto0{k:Blk13}{g:Nat→Nat}{L:Nat}{s:Rz}(h:k.kind=0)(h2:k.left=0):stT k g L s=(tokZ,true,s):=by unfold stT;rw[if_pos h,if_pos h2]
theorem stp_sto1{k:Blk13}{g:Nat→Nat}{L:Nat}{s:Rz}(h:k.kind=0)(h2:¬k.left=0):stT k g L s=(⟨tkV g L 8 s,0,0⟩,false,tkS L 8 s):=by unfold stT;rw[if_pos h,if_neg h2]
theorem stp_lit{k:Blk13}{g:Nat→Nat}{L y:Nat}{s s1:Rz}(h:¬k.kind=0)(hy:syV (readR k.F k.n g L s.1 17 0) s=y)(h1:syS (readR k.F k.n g L s.1 17 0) s=s1)(h2:y<256):stT k g L s=(⟨y,0,0⟩,false,s1):=by unfold stT;rw[if_neg h];simp only[hy,h1];rw[if_pos h2]
theorem stp_end{k:Blk13}{g:Nat→Nat}{L y:Nat}{s s1:Rz}(h:¬k.kind=0)(hy:syV (readR k.F k.n g L s.1 17 0) s=y)(h1:syS (readR k.F k.n g L s.1 17 0) s=s1)(h2:y=256):stT k g L s=(tokZ,true,s1):=by unfold stT;rw[if_neg h];simp only[hy,h1];rw[if_neg (by omega),if_pos h2]
theorem stp_cop{k:Blk13}{g:Nat→Nat}{L y z:Nat}{s s1 s2 s3:Rz}(h:¬k.kind=0)(hy:syV (readR k.F k.n g L s.1 17 0) s=y)(h1:syS (readR k.F k.n g L s.1 17 0) s=s1)(h2:¬y<256)(h3:¬y=256)(h4:nuS false y g L s1=s2)(hz:syV (readR k.G k.m g L s2.1 17 0) s2=z)(h5:syS (readR k.G k.m g L s2.1 17 0) s2=s3):
  stT k g L s=(⟨0,nuV true z g L s3,nuV false y g L s1⟩,false,nuS true z g L s3):=by unfold stT;rw[if_neg h];simp only[hy,h1,h4,hz,h5];rw[if_neg h2,if_neg h3]
theorem pstored_any(w:World)(p:Nat)(A:Option Addr)(l c:Nat)(g:Nat→Nat)(s:Rz)(h:Rdr w p A l c s)(hg:RdB w w.heap.size A l g)(hl:l≤1000000)(hs:s.1≤8*l)(k:Blk13)(h0:k.kind=0):
  Calls Tryz.prog 103 #[.pointer (some ⟨p,0,none⟩),.int .i64 (k.left:Int)] w fun e w'=>e=.returned (stpV (stT k g l s))∧Rdr w' p A l c (stT k g l s).2.2∧Fr (At p) w w':=by
 obtain⟨b,hb⟩:∃b,b=w.heap.size:=⟨_,rfl⟩
 have hp:=h.lt
 obtain⟨W1,hW1⟩:∃W1,W1=w.alloc (.cells #[.int .u8 0,.int .i64 0,.int .i64 0] 82):=⟨_,rfl⟩
 have hb1:Below b w W1:=by rw[hW1,hb];exact(Below.refl _ _).alloc (Nat.le_refl _) _
 have t1:BoxC W1 b #[.int .u8 0,.int .i64 0,.int .i64 0] 82:=by rw[hW1,hb];exact BoxC.new w _ _
 have r1:Rdr W1 p A l c s:=BoxC.below h hb1 (by omega)
 have HF1:=Lib.hid (Fr.of (S:=At p) (hb▸hb1))
 have hT:=ptake_lit W1 p A l c g s r1 ((hg.below (hb▸hb1) (Nat.le_refl _)).more hb1.size) hl hs 8 8 rfl (by omega)
 have hlt:=tkV_lt g l 8 s
 have HNA:Hid (¬At p b):=Lib.hid (by show¬b=p;omega)
 by_cases y0:k.left=0
 ·rw[stp_sto0 h0 y0,y0]
  have HR1:=Lib.hid r1;have HT1:=Lib.hid t1;have HW1:=Lib.hid hW1;have HB:=Lib.hid hb
  clear h hg hT hlt t1 hW1 hb hb1 hp r1 y0 h0 hs
  go_enter Tryz.func103,Tryz.ntmps103
  go_wp2_with (first
   |(rw[←HW1.out,←HB.out])
   |(refine wpList_buildTo rfl 82 #[] rfl (some 8) rfl #[.int .u8 0,.int .i64 0,.int .i64 0] ?_ ?_;focus(simpa[Act.eval]using built_tok0))
   |(refine wpList_store_rowTo rfl _ _ _ rfl rfl b #[.int .u8 0,.int .i64 0,.int .i64 0] rfl rfl 82 #[.int .u8 0,.int .i64 0,.int .i64 0] HT1.out szTok rfl (oneTok _ _ _) ?_)
   |fail)
  refine bodyPost_ret ((cell_tok2 rfl _ _ b _ rfl rfl (setRow_heap _ _ _ _ _ _ HT1.out)).trans rfl) rfl ⟨rfl,?_,?_⟩
  ·exact BoxC.rowO HR1.out (fun e=>HNA.out e.symm) _
  ·exact HF1.out.from (Fr.row _ b _) fun j hj=>.inr (by rw[←HB.out];exact Nat.le_of_eq hj.symm)
 ·rw[stp_sto1 h0 y0]
  obtain⟨x,hx⟩:∃x,x=tkV g l 8 s:=⟨_,rfl⟩
  rw[←hx]at hT hlt⊢
  have hx8:x<256:=hlt
  obtain⟨q,hq⟩:∃q,q=k.left:=⟨_,rfl⟩
  rw[←hq]at y0⊢
  have d0:((q:Int)==0)=false:=beq_eq_false_iff_ne.2 (by omega)
  have HT1:=Lib.hid t1;have HW1:=Lib.hid hW1;have HB:=Lib.hid hb;have HTK:=Lib.hid hT
  clear h hg hT hlt t1 hW1 hb hb1 hp r1 y0 h0 hs hx hq
  go_enter Tryz.func103,Tryz.ntmps103
  go_wp2_with (first|(rw[←HW1.out,←HB.out])|fail)
  refine HTK.out.mono ?_
  rintro e w2 ⟨rfl,r2,f2⟩
  have HR2:=Lib.hid r2;have HF2:=Lib.hid (HF1.out.trans f2);have HT2:=Lib.hid (HT1.out.fr f2 HNA.out)
  clear r2 f2 HTK
  go_wp2_with (first
   |(refine wpList_buildTo rfl 82 #[(0,.tmp 11)] rfl (some 12) rfl #[.int .u8 (x:Int),.int .i64 0,.int .i64 0] ?_ ?_;focus(simpa[Act.eval]using built_tok1p x))
   |(refine wpList_store_rowTo rfl _ _ _ rfl rfl b #[.int .u8 (x:Int),.int .i64 0,.int .i64 0] rfl rfl 82 #[.int .u8 0,.int .i64 0,.int .i64 0] HT2.out szTok rfl (oneTok _ _ _) ?_)
   |fail)
  refine bodyPost_ret ((cell_tok2 rfl _ _ b _ rfl rfl (setRow_heap _ _ _ _ _ _ HT2.out)).trans rfl) rfl ⟨rfl,?_,?_⟩
  ·exact BoxC.rowO HR2.out (fun e=>HNA.out e.symm) _
  ·exact HF2.out.from (Fr.row _ b _) fun j hj=>.inr (by rw[←HB.out];exact Nat.le_of_eq hj.symm)
theorem blk_range{w:World}{b:Nat}{kd:Nat}{last:Bool}{left:Nat}{c1 c2:Nat→Int}{v1 v2:Value}(h:BoxC w b (blkT kd last left c1 c2 v1 v2) 28):w.rangeAt b 3 (trL c1 v1)∧w.rangeAt b 20 (trL c2 v2):=by
 have hl:∀(c:Nat→Int) (v:Value),(trL c v).length=17:=fun c v=>by simp[trL,cntV]
 constructor
 ·intro j u hu
  have hj:j<17:=by rw[←hl c1 v1];exact(List.getElem?_eq_some_iff.1 hu).1
  rw[cell_of_row w b _ _ _ (0,0) h]
  show(blkT kd last left c1 c2 v1 v2)[3+j]?=some u
  unfold blkT
  rw[List.getElem?_toArray,Nat.add_comm 3 j]
  show((trL c1 v1++trL c2 v2):List Value)[j]?=some u
  rw[List.getElem?_append_left (by rw[hl];exact hj)];exact hu
 ·intro j u hu
  have hj:j<17:=by rw[←hl c2 v2];exact(List.getElem?_eq_some_iff.1 hu).1
  rw[cell_of_row w b _ _ _ (0,0) h]
  show(blkT kd last left c1 c2 v1 v2)[20+j]?=some u
  unfold blkT
  rw[List.getElem?_toArray,show 20+j=(j+17)+3 by omega]
  show((trL c1 v1++trL c2 v2):List Value)[j+17]?=some u
  rw[List.getElem?_append_right (by rw[hl];omega),hl,Nat.add_sub_cancel];exact hu
def BlkF(S:Nat→Prop)(w:World)(k:Blk13)(c1 c2:Nat→Int)(v1 v2:Value):Prop:=k.kind≠0→TrF S w (extF k.n k.F) c1 v1∧TrF S w (extF k.m k.G) c2 v2
theorem pstep_any(w:World)(p:Nat)(A:Option Addr)(l c:Nat)(g:Nat→Nat)(s:Rz)(h:Rdr w p A l c s)(S:Nat→Prop)(hS:S p)(_hSw:∀j,S j→j<w.heap.size)(hg:RdF S w A l g)(hl:l≤1000000)(hs:s.1≤8*l)(k:Blk13)(_hkd:k.kind<256)(_hkl:k.left≤65535)(hn:k.n≤320)(hm:k.m≤320)
  (c1 c2:Nat→Int) (v1 v2:Value) (h1:v1.oneCell'=true) (h2:v2.oneCell'=true) (ht:s.2=0→BlkF S w k c1 c2 v1 v2):
  Calls Tryz.prog 83 #[.pointer (some ⟨p,0,none⟩),.agg (blkT k.kind k.last k.left c1 c2 v1 v2)] w fun e w'=>e=.returned (stpV (stT k g l s))∧Rdr w' p A l c (stT k g l s).2.2∧Fr (At p) w w':=by
 obtain⟨b,hb⟩:∃b,b=w.heap.size:=⟨_,rfl⟩
 have hp:=h.lt
 obtain⟨X,hX⟩:∃X,X=blkT k.kind k.last k.left c1 c2 v1 v2:=⟨_,rfl⟩
 rw[←hX]
 obtain⟨W1,hW1⟩:∃W1,W1=(w.alloc (.cells X 28)).alloc (.cells #[.int .u8 0,.int .i64 0,.int .i64 0] 82):=⟨_,rfl⟩
 have hb1:Below b w W1:=by rw[hW1,hb];exact((Below.refl _ _).alloc (Nat.le_refl _) _).alloc (by simp) _
 have x1:BoxC W1 b X 28:=by rw[hW1,hb];exact(BoxC.new w _ _).old _
 have t1:BoxC W1 (b+1) #[.int .u8 0,.int .i64 0,.int .i64 0] 82:=by rw[hW1,hb];have:=BoxC.new (w.alloc (.cells X 28)) #[.int .u8 0,.int .i64 0,.int .i64 0] 82;rwa[World.size_alloc]at this
 have r1:Rdr W1 p A l c s:=BoxC.below h hb1 (by omega)
 have fW:∀T:Nat→Prop,Fr T w W1:=fun T=>Fr.of (hb▸hb1)
 have g1:=hg.fr (fW S)
 have HF1:=Lib.hid (fW (At p))
 have HNA:Hid (¬At p b∧¬At p (b+1)):=Lib.hid ⟨by show¬b=p;omega,by show¬b+1=p;omega⟩
 have HSP:Hid (∀j,At p j→S j):=Lib.hid fun j (e:j=p)=>e▸hS
 have q0:X[0]?=some (.int .u8 (k.kind:Int)):=by rw[hX];rfl
 have q2:X[2]?=some (.int .i64 (k.left:Int)):=by rw[hX];rfl
 have a0:W1.cell? ⟨b,0,none⟩=some (.int .u8 (k.kind:Int)):=x1.cell.trans q0
 have a2:W1.cell? ⟨b,2,none⟩=some (.int .i64 (k.left:Int)):=x1.cell.trans q2
 by_cases k0:k.kind=0
 ·have hst:=pstored_any W1 p A l c g s r1 g1.1 hl hs k k0
  obtain⟨⟨tk,en,s'⟩,hr⟩:∃r,r=stT k g l s:=⟨_,rfl⟩
  rw[←hr]at hst⊢
  have d0:((k.kind:Int)==0)=true:=by rw[k0];rfl
  obtain⟨q,hq⟩:∃q,q=k.left:=⟨_,rfl⟩
  obtain⟨kd,hkd2⟩:∃q,q=k.kind:=⟨_,rfl⟩
  rw[←hq]at hst a2
  rw[←hkd2]at a0 d0
  have HST:=Lib.hid hst;have HT1:=Lib.hid t1;have HW1:=Lib.hid hW1;have HB:=Lib.hid hb
  clear h hg hst t1 hW1 hb hb1 hp r1 k0 hs hq hkd2 x1 fW g1 q0 q2 hX ht _hSw hS _hkd _hkl hr
  go_enter Tryz.func83,Tryz.ntmps83
  go_wp2_with (first|(rw[←HW1.out,←HB.out])|fail)
  refine HST.out.mono ?_
  rintro e w2 ⟨rfl,r2,f2⟩
  have HR2:=Lib.hid r2;have HF2:=Lib.hid (HF1.out.trans f2);have HT2:=Lib.hid (HT1.out.fr f2 HNA.out.2)
  obtain⟨Y,hY⟩:∃Y,Y=tkA3 tk:=⟨_,rfl⟩
  have HYS:Hid (Y.size=3):=Lib.hid (by rw[hY];rfl)
  have HYO:Hid (Y.all (·.oneCell')=true):=Lib.hid (by rw[hY];exact tkA3_one _)
  have HYE:=Lib.hid hY
  unfold stpV
  rw[←hY]
  clear r2 f2 HST hY
  go_wp2_with (first
   |(refine wpList_store_rowTo rfl _ _ _ rfl rfl (b+1) Y rfl rfl 82 #[.int .u8 0,.int .i64 0,.int .i64 0] HT2.out (by rw[HYS.out];exact szTok) (by rw[HYS.out];rfl) HYO.out ?_)
   |fail)
  refine bodyPost_ret ((cell_tok2 rfl _ _ (b+1) Y HYS.out rfl (setRow_heap _ _ _ _ _ _ HT2.out)).trans rfl) rfl ⟨by rw[HYE.out];rfl,?_,?_⟩
  ·exact BoxC.rowO HR2.out (fun e=>HNA.out.2 e.symm) _
  ·exact HF2.out.from (Fr.row _ (b+1) _) fun j hj=>.inr (by rw[←HB.out];have:j=b+1:=hj;omega)
 have d0:((k.kind:Int)==0)=false:=beq_eq_false_iff_ne.2 (by omega)
 have hC:=psym_any W1 p A l c g s r1 g1.1 hl hs S (extF k.n k.F) c1 v1 h1 (fun e=>((ht e) k0).1.fr (fW S))
 rw[ext_read hn]at hC
 have hT2:s.2=0→TrF S W1 (extF k.m k.G) c2 v2:=fun e=>((ht e) k0).2.fr (fW S)
 have HRA:Hid (W1.rangeAt b 3 (trL c1 v1)):=Lib.hid (blk_range (hX▸x1)).1
 have HRB:Hid (∀W,Fr (At p) W1 W→W.rangeAt b 20 (trL c2 v2)):=Lib.hid fun W f=>(blk_range (hX▸x1.fr f HNA.out.1)).2
 have hin:(syS (readR k.F k.n g l s.1 17 0) s).1≤8*l:=syS_in hs
 obtain⟨y,hy⟩:∃y,y=syV (readR k.F k.n g l s.1 17 0) s:=⟨_,rfl⟩
 obtain⟨s1,hs1⟩:∃y,y=syS (readR k.F k.n g l s.1 17 0) s:=⟨_,rfl⟩
 rw[←hy,←hs1]at hC
 rw[←hs1]at hin
 have HT1:=Lib.hid t1;have HW1:=Lib.hid hW1;have HB:=Lib.hid hb;have HC:=Lib.hid hC;have HG1:=Lib.hid g1
 by_cases y1:y<256
 ·rw[stp_lit k0 hy.symm hs1.symm y1]
  have e1:decide ((y:Int)<256)=true:=decY (by omega)
  obtain⟨kd,hkd2⟩:∃q,q=k.kind:=⟨_,rfl⟩
  rw[←hkd2]at a0 d0
  clear h hg hC t1 hW1 hb hb1 hp r1 k0 hs x1 fW g1 q0 q2 hX ht _hSw hS _hkd _hkl a2 hy hs1 hT2 hkd2
  go_enter Tryz.func83,Tryz.ntmps83
  go_wp2_with (first
   |(rw[←HW1.out,←HB.out])
   |(refine wpList_load_mid rfl _ _ rfl b 3 rfl (trL c1 v1) _ HRA.out Tryz.underlying26 rfl (szTreeL13 _ _) ?_)
   |fail)
  refine HC.out.mono ?_
  rintro e w2 ⟨rfl,r2,f2⟩
  have HR2:=Lib.hid r2;have HF2:=Lib.hid (HF1.out.trans f2);have HT2:=Lib.hid (HT1.out.fr f2 HNA.out.2)
  clear r2 f2 HC
  go_wp2_with (first
   |(refine wpList_buildTo rfl 82 #[(0,.tmp 25)] rfl (some 26) rfl #[.int .u8 (y:Int),.int .i64 0,.int .i64 0] ?_ ?_;focus(simpa[Act.eval]using built_tok1p y))
   |(refine wpList_store_rowTo rfl _ _ _ rfl rfl (b+1) #[.int .u8 (y:Int),.int .i64 0,.int .i64 0] rfl rfl 82 #[.int .u8 0,.int .i64 0,.int .i64 0] HT2.out szTok rfl (oneTok _ _ _) ?_)
   |fail)
  refine bodyPost_ret ((cell_tok2 rfl _ _ (b+1) _ rfl rfl (setRow_heap _ _ _ _ _ _ HT2.out)).trans rfl) rfl ⟨rfl,?_,?_⟩
  ·exact BoxC.rowO HR2.out (fun e=>HNA.out.2 e.symm) _
  ·exact HF2.out.from (Fr.row _ (b+1) _) fun j hj=>.inr (by rw[←HB.out];have:j=b+1:=hj;omega)
 have e1:decide ((y:Int)<256)=false:=decN (by omega)
 by_cases y2:y=256
 ·rw[stp_end k0 hy.symm hs1.symm y2]
  have e2:((y:Int)==256)=true:=by rw[y2];rfl
  obtain⟨kd,hkd2⟩:∃q,q=k.kind:=⟨_,rfl⟩
  rw[←hkd2]at a0 d0
  clear h hg hC t1 hW1 hb hb1 hp r1 k0 hs x1 fW g1 q0 q2 hX ht _hSw hS _hkd _hkl a2 hy hs1 hT2 hkd2 y1 y2
  go_enter Tryz.func83,Tryz.ntmps83
  go_wp2_with (first
   |(rw[←HW1.out,←HB.out])
   |(refine wpList_load_mid rfl _ _ rfl b 3 rfl (trL c1 v1) _ HRA.out Tryz.underlying26 rfl (szTreeL13 _ _) ?_)
   |fail)
  refine HC.out.mono ?_
  rintro e w2 ⟨rfl,r2,f2⟩
  have HR2:=Lib.hid r2;have HF2:=Lib.hid (HF1.out.trans f2);have HT2:=Lib.hid (HT1.out.fr f2 HNA.out.2)
  clear r2 f2 HC
  go_wp2_with (first
   |(refine wpList_buildTo rfl 82 #[] rfl (some 29) rfl #[.int .u8 0,.int .i64 0,.int .i64 0] ?_ ?_;focus(simpa[Act.eval]using built_tok0))
   |(refine wpList_store_rowTo rfl _ _ _ rfl rfl (b+1) #[.int .u8 0,.int .i64 0,.int .i64 0] rfl rfl 82 #[.int .u8 0,.int .i64 0,.int .i64 0] HT2.out szTok rfl (oneTok _ _ _) ?_)
   |fail)
  refine bodyPost_ret ((cell_tok2 rfl _ _ (b+1) _ rfl rfl (setRow_heap _ _ _ _ _ _ HT2.out)).trans rfl) rfl ⟨rfl,?_,?_⟩
  ·exact BoxC.rowO HR2.out (fun e=>HNA.out.2 e.symm) _
  ·exact HF2.out.from (Fr.row _ (b+1) _) fun j hj=>.inr (by rw[←HB.out];have:j=b+1:=hj;omega)
 have e2:((y:Int)==256)=false:=beq_eq_false_iff_ne.2 (by omega)
 obtain⟨s2,hs2⟩:∃q,q=nuS false y g l s1:=⟨_,rfl⟩
 obtain⟨z,hz⟩:∃q,q=syV (readR k.G k.m g l s2.1 17 0) s2:=⟨_,rfl⟩
 obtain⟨s3,hs3⟩:∃q,q=syS (readR k.G k.m g l s2.1 17 0) s2:=⟨_,rfl⟩
 rw[stp_cop k0 hy.symm hs1.symm y1 y2 hs2.symm hz.symm hs3.symm]
 have hin2:s2.1≤8*l:=by rw[hs2];exact nuS_in hin
 have hin3:s3.1≤8*l:=by rw[hs3];exact syS_in hin2
 have he2:s2.2=0→s.2=0:=fun e=>by
  rcases Int.decEq s.2 0 with n|n
  ·exfalso
   have:s2.2=s.2:=by rw[hs2,hs1,syS_err n,nuS_err n]
   exact n (this▸e)
  ·exact n
 have HT2F:Hid (s2.2=0→TrF S W1 (extF k.m k.G) c2 v2):=Lib.hid fun e=>hT2 (he2 e)
 have HN1:=Lib.hid fun(W:World) (r:Rdr W p A l c s1) (q:RdF S W A l g)=>pnuml_any W p A l c g s1 r S hS q hl hin y
 have HN2:=Lib.hid fun(W:World) (r:Rdr W p A l c s3) (q:RdF S W A l g)=>pnumf_any W p A l c g s3 r S hS q hl hin3 z
 have HC2:=Lib.hid fun(W:World) (r:Rdr W p A l c s2) (q:RdF S W A l g) (t:s2.2=0→TrF S W (extF k.m k.G) c2 v2)=>psym_any W p A l c g s2 r q.1 hl hin2 S (extF k.m k.G) c2 v2 h2 t
 rw[ext_read hm,←hz,←hs3]at HC2
 rw[←hs2]at HN1
 obtain⟨lo,hlo⟩:∃q,q=nuV false y g l s1:=⟨_,rfl⟩
 obtain⟨di,hdi⟩:∃q,q=nuV true z g l s3:=⟨_,rfl⟩
 obtain⟨s4,hs4⟩:∃q,q=nuS true z g l s3:=⟨_,rfl⟩
 rw[←hlo]at HN1⊢
 rw[←hdi,←hs4]at HN2⊢
 obtain⟨kd,hkd2⟩:∃q,q=k.kind:=⟨_,rfl⟩
 rw[←hkd2]at a0 d0
 clear h hg hC t1 hW1 hb hb1 hp r1 k0 hs x1 fW g1 q0 q2 hX ht _hSw hS _hkd _hkl a2 hy hs1 hT2 hkd2 y1 y2 hlo hdi hs4 hs3 hz hs2 hin hin2 hin3 he2
 go_enter Tryz.func83,Tryz.ntmps83
 go_wp2_with (first
  |(rw[←HW1.out,←HB.out])
  |(refine wpList_load_mid rfl _ _ rfl b 3 rfl (trL c1 v1) _ HRA.out Tryz.underlying26 rfl (szTreeL13 _ _) ?_)
  |fail)
 refine HC.out.mono ?_
 rintro e w2 ⟨rfl,r2,f2⟩
 have HR2:=Lib.hid r2;have HF2:=Lib.hid f2;have HG2:=Lib.hid (HG1.out.fr (f2.mono HSP.out))
 have HNA2:=Lib.hid (HN1.out w2 r2 HG2.out)
 clear r2 f2 HC HN1
 go_wp2_with fail
 refine HNA2.out.mono ?_
 rintro e w3 ⟨rfl,r3,f3⟩
 have HF3:=Lib.hid (HF2.out.trans f3);have HG3:=Lib.hid (HG2.out.fr (f3.mono HSP.out))
 have HC3:=Lib.hid (HC2.out w3 r3 HG3.out (fun e=>(HT2F.out e).fr (HF3.out.mono HSP.out)))
 have HRB3:=Lib.hid (HRB.out w3 HF3.out)
 clear r3 f3 HNA2 HC2 HR2 HF2 HG2 HRB HT2F HRA
 go_wp2_with (first
  |(refine wpList_load_mid rfl _ _ rfl b 20 rfl (trL c2 v2) _ HRB3.out Tryz.underlying26 rfl (szTreeL13 _ _) ?_)
  |fail)
 refine HC3.out.mono ?_
 rintro e w4 ⟨rfl,r4,f4⟩
 have HF4:=Lib.hid (HF3.out.trans f4);have HG4:=Lib.hid (HG3.out.fr (f4.mono HSP.out))
 have HN4:=Lib.hid (HN2.out w4 r4 HG4.out)
 clear r4 f4 HC3 HN2 HF3 HG3 HRB3
 go_wp2_with fail
 refine HN4.out.mono ?_
 rintro e w5 ⟨rfl,r5,f5⟩
 have HR5:=Lib.hid r5;have HF5:=Lib.hid (HF4.out.trans f5);have HT5:=Lib.hid (HT1.out.fr (HF4.out.trans f5) HNA.out.2)
 clear r5 f5 HN4 HF4 HG4
 go_wp2_with (first
  |(refine wpList_buildTo rfl 82 #[(1,.tmp 39),(2,.tmp 40)] rfl (some 41) rfl #[.int .u8 0,.int .i64 di,.int .i64 lo] ?_ ?_;focus(simpa[Act.eval]using built_tok2 di lo))
  |(refine wpList_store_rowTo rfl _ _ _ rfl rfl (b+1) #[.int .u8 0,.int .i64 di,.int .i64 lo] rfl rfl 82 #[.int .u8 0,.int .i64 0,.int .i64 0] HT5.out szTok rfl (oneTok 0 _ _) ?_)
  |fail)
 refine bodyPost_ret ((cell_tok2 rfl _ _ (b+1) _ rfl rfl (setRow_heap _ _ _ _ _ _ HT5.out)).trans rfl) rfl ⟨rfl,?_,?_⟩
 ·exact BoxC.rowO HR5.out (fun e=>HNA.out.2 e.symm) _
 ·exact(HF1.out.trans HF5.out).from (Fr.row _ (b+1) _) fun j hj=>.inr (by rw[←HB.out];have:j=b+1:=hj;omega)
end Go.Proofs.YtcmpmighjglnpaaGreat
namespace Go.Proofs.YtcmpmighjglnpaaGreat
open Go.RowKit
def OrderCon:Prop:=∀w:World,Calls Tryz.prog 143 #[] w fun e w'=>e=.returned (.agg (tblA (fun i=>(ordN i:Int)) 19))∧Below w.heap.size w w'
def FixedCon:Prop:=∀w:World,Calls Tryz.prog 125 #[] w fun e w'=>∃A1 c1 A2 c2,e=.returned (.tuple #[.slice A1 288 c1,.slice A2 32 c2])∧
 w'.ownsRow w.heap.size 5 1 (.slice A1 288 c1) 288 (bytesL 288 fixA)∧w'.ownsRow w.heap.size 5 1 (.slice A2 32 c2) 32 (bytesL 32 fixB)∧(∀g,(Value.slice A1 288 c1).ownBlock=some g→(Value.slice A2 32 c2).ownBlock≠some g)∧Below w.heap.size w w'
end Go.Proofs.YtcmpmighjglnpaaGreat
namespace Go.Proofs.YtcmpmighjglnpaaGreat
open Go.RowKit Go.ChangeShapes Go.WideShapes Go.ChangeAt Go.Joins
theorem and32(c:Nat)(hc:c<4294967296):bits .and .u64 (c:Int) 4294967295=(c:Int):=by
 have h:=u64_and c 4294967295 (by omega) (by omega)
 have e:c&&&4294967295=c%4294967296:=Nat.and_two_pow_sub_one_eq_mod c 32
 rw[e,Nat.mod_eq_of_lt hc]at h
 exact h
theorem mul64_one(w:World)(c:Nat)(hc:c≤1000000):Calls Tryz.prog 158 #[.int .u64 1,.int .u64 (c:Int)] w fun e w'=>e=.returned (.tuple #[.int .u64 0,.int .u64 (c:Int)])∧w=w':=by
 have h1:bits .and .u64 1 4294967295=(1:Int):=and32 1 (by omega)
 have h2:=and32 c (by omega)
 have h3:(c:Int)/4294967296=0:=by omega
 have h0:bits .and .u64 0 4294967295=(0:Int):=and32 0 (by omega)
 go_enter Tryz.func158,Tryz.ntmps158
 go_wp2
 go_ret2
 exact⟨rfl,rfl⟩
theorem mul_one(w:World)(c:Nat)(hc:c≤1000000):Calls Tryz.prog 155 #[.int .u64 1,.int .u64 (c:Int)] w fun e w'=>e=.returned (.tuple #[.int .u64 0,.int .u64 (c:Int)])∧w=w':=by
 have H:=Lib.hid (mul64_one w c hc)
 go_enter Tryz.func155,Tryz.ntmps155
 go_wp2_with fail
 refine H.out.mono ?_
 rintro e w1 ⟨rfl,rfl⟩
 go_wp2
 go_ret2
 exact⟨rfl,rfl⟩
theorem order_con:OrderCon:=by
 intro w
 have hz:=(zero_of_info infoOrd).1
 have f1:=flatOrd
 obtain⟨T,hT⟩:∃T:Nat→Int,T=fun i=>(ordN i:Int):=⟨_,rfl⟩
 obtain⟨Z,hZ⟩:∃Z:Nat→Int,Z=fun _=>0:=⟨_,rfl⟩
 rw[←hT]at f1⊢
 rw[←hZ]at hz
 have F1:=Lib.hid f1
 have K0:Hid ((w.alloc (.cells (tblA Z 19) 160)).heap[w.heap.size]?=some (.cells (tblA Z 19) 160 (0,0))):=Lib.hid (heap_alloc_new w _)
 clear hT hZ f1
 go_enter Tryz.func143,Tryz.ntmps143
 go_wp2_with (first
  |(refine wpList_buildFlatArrTo rfl 160 3 19 _ rfl .i64 [16,17,18,0,8,7,9,6,10,5,11,4,12,3,13,2,14,1,15] (some 1) rfl Tryz.underlying160 (by kernel_rfl) (by kernel_rfl) rfl ?_;rw[F1.out])
  |(refine wpList_store_rowTo rfl _ _ _ rfl rfl w.heap.size (tblA T 19) rfl rfl 160 (tblA Z 19) K0.out (szO19 _) (by rw[tblA_size,tblA_size]) (tblA_one _ _) ?_)
  |fail)
 refine bodyPost_ret (v:=.agg (tblA T 19)) ?_ rfl ⟨rfl,below_row9 ((Below.refl _ _).alloc (Nat.le_refl _) _) (Nat.le_refl _) _⟩
 exact results_cell_row rfl _ _ w.heap.size _ _ (0,0) _ rfl (setRow_heap _ _ _ _ _ _ K0.out) Tryz.underlying160 rfl (szO19 _)
theorem make_lenU(n:Nat)(h:n≤1000000000):∀u:World,(Instr.makeSlice 22 (.int .i64 (n:Int)) (.int .i64 (n:Int))).run Tryz.prog u=
   .ok (.slice (some ⟨u.heap.size,0,none⟩) n n) (u.alloc (.cells (madeCells #[.int .u8 0] n) 5)):=fun u=>by
 obtain⟨i0,hi,hz0,hz1,hz2⟩:=info_parts infoU8
 have h:=run_make (P:=Tryz.prog) u 22 5 i0 _ Tryz.underlying22 hi hz0 .i64 .i64 (n:Int) (n:Int) (by omega) (by omega) (by rw[hz2];omega) (by omega)
 rw[Int.toNat_natCast,hz1,Nat.mul_one]at h
 exact h
def repF(v t j:Nat):Nat:=if j<t then v else 0
theorem splice_rep(c t m v:Nat)(h:t+m≤c):splice (bytesL c (repF v t)) t (bytesL m (fun _=>v))=bytesL c (repF v (t+m)):=by
 apply List.ext_getElem?
 intro j
 have hl:(bytesL m (fun _=>v)).length=m:=by simp[bytesL]
 have hl2:(bytesL c (repF v t)).length=c:=by simp[bytesL]
 simp only[splice,List.getElem?_append,List.length_take,hl,hl2,bytesL_get,List.getElem?_take,List.getElem?_drop,repF,Nat.min_eq_left (show t≤c by omega)]
 by_cases h1:j<t
 ·simp[h1,show j<t+m by omega]
 ·by_cases h2:j<t+m
  ·simp[h1,h2,show j-t<m by omega,show j<c by omega]
  ·simp[h1,h2,show¬j-t<m by omega]
   rw[show t+m+(j-t-m)=j by omega]
   simp[h1]
theorem rep_made(c v:Nat):(madeCells #[.int .u8 0] c)=(bytesL c (repF v 0)).toArray:=by
 have h:=toList_madeCells_one (Value.int .u8 0) c
 have e:bytesL c (repF v 0)=List.replicate c (Value.int .u8 0):=by
  apply List.ext_getElem?
  intro j
  rw[bytesL_get,List.getElem?_replicate]
  simp[repF]
 rw[e,←h]
theorem rep_src{w:World}{b o m v:Nat}(h:∀j,j<m→w.cell? ⟨b,o+j,none⟩=some (.int .u8 (v:Int))):∀(j:Nat) (u:Value),(bytesL m (fun _=>v))[j]?=some u→w.cell? ((⟨b,o,none⟩:Addr).add j)=some u:=by
 intro j u hu
 rw[bytesL_get]at hu
 by_cases hj:j<m
 ·rw[if_pos hj]at hu
  injection hu with hu
  subst hu
  have e:(⟨b,o,none⟩:Addr).add j=⟨b,o+j,none⟩:=by unfold Addr.add;split<;>simp_all
  rw[e];exact h j hj
 ·rw[if_neg hj]at hu;cases hu
theorem repeat_any(w:World)(b v c:Nat)(_hv:v<256)(hc1:1≤c)(hc:c≤1000)(hb:b<w.heap.size)(hx:w.cell? ⟨b,0,none⟩=some (.int .u8 (v:Int))):
  Calls Tryz.prog 150 #[.slice (some ⟨b,0,none⟩) 1 1,.int .i64 (c:Int)] w fun e w'=>e=.returned (.slice (some ⟨w.heap.size,0,none⟩) c c)∧w'.ownsRow w.heap.size 5 1 (.slice (some ⟨w.heap.size,0,none⟩) c c) c (bytesL c (fun _=>v))∧Below w.heap.size w w':=by
 have HM:=Lib.hid (mul_one w c (by omega))
 obtain⟨h,hh⟩:∃h,h=w.heap.size:=⟨_,rfl⟩
 obtain⟨W1,hW1⟩:∃W,W=w.alloc (.cells (madeCells #[.int .u8 0] c) 5):=⟨_,rfl⟩
 have hb1:Below h w W1:=by rw[hW1,hh];exact(Below.refl _ _).alloc (Nat.le_refl _) _
 have h1:W1.heap[h]?=some (.cells (bytesL c (repF v 0)).toArray 5 (0,0)):=by
  rw[hW1,hh,heap_alloc_new,rep_made c v]
 have hx1:W1.cell? ⟨b,0,none⟩=some (.int .u8 (v:Int)):=(hb1.cell (p:=⟨b,0,none⟩) (by rw[hh];exact hb)).trans hx
 have hc0:¬(c:Int)<0:=by omega
 have hmk:=make_lenU c (by omega)
 have HW1:=Lib.hid hW1;have HH:=Lib.hid hh;have HB1:=Lib.hid hb1;have H1:=Lib.hid h1;have HX1:=Lib.hid hx1
 clear hW1 hb1 h1 hx1 hx hh
 go_enter Tryz.func150,Tryz.ntmps150
 go_wp2_with fail
 refine HM.out.mono ?_
 rintro e w2 ⟨rfl,rfl⟩
 have hh2:=HH.out
 go_wp2_with (with_reducible refine wpList_copy_splice rfl (.tmp 31) (.tmp 32) 22 22 rfl 5 Tryz.underlying22 sz5 _ _ _ _ _ _ rfl rfl h 0 (bytesL c (repF v 0)) 5 ?c1 (bytesL 1 (fun _=>v)) ?c2 ?c3 ?c4 (bytesL_one 1 _) h W1 ?c5 (Nat.le_refl _) ?c6)
 case c1=>rw[←HW1.out];exact H1.out
 case c2=>simp only[bytesL,List.length_map,List.length_range];exact(Nat.min_eq_left hc1).symm
 case c3=>
  intro _
  refine⟨by rw[HH.out],_,rfl,rep_src fun j hj=>?_⟩
  obtain rfl:j=0:=by omega
  rw[←HW1.out];exact HX1.out
 case c4=>simp[bytesL];omega
 case c5=>rw[←HW1.out];exact Below.refl _ _
 case c6=>
  rw[←HH.out]
  intro w3 hg3 hb3
  have hs:=splice_rep c 0 1 v (by omega)
  rw[Nat.zero_add]at hs
  have HG3:Hid (w3.heap[h]?=some (.cells (bytesL c (repF v 1)).toArray 5 (0,0))):=Lib.hid (by rw[←hs];exact hg3.out)
  have HB3:=Lib.hid (HB1.out.trans hb3)
  have hl1:(((bytesL 1 fun _=>v).length:Nat):Int)=1:=by simp[bytesL]
  rw[hl1]
  clear hg3 hb3 hs hl1 hmk hh2 HW1 H1 HX1 HB1
  go_wp2
  go_loopw [8] (fun nv wr=>∃t:Nat,1≤t∧t≤c∧nv=.int .i64 (t:Int)∧Hid (wr.heap[h]?=some (.cells (bytesL c (repF v t)).toArray 5 (0,0)))∧Hid (Below h w wr)) (fun nv _=>c-(intOf nv).toNat)
  case atStart=>exact⟨1,Nat.le_refl _,hc1,rfl,HG3,HB3⟩
  case round=>
   obtain⟨t,ht1,htc,rfl,HG,HB⟩:=hrel
   by_cases hlt:t<c
   ·have hlti:(t:Int)<(c:Int):=by omega
    obtain⟨m,hm⟩:∃m,m=Nat.min t (c-t):=⟨_,rfl⟩
    have hm1:m≤t:=by rw[hm];exact Nat.min_le_left _ _
    have hm2:t+m≤c:=by have:m≤c-t:=(by rw[hm];exact Nat.min_le_right _ _);omega
    have hm3:0<m:=by rw[hm];exact Nat.lt_min.2 ⟨ht1,by omega⟩
    have HMM:=Lib.hid hm
    clear hm
    go_wp2
    have t0:¬(t:Int)<0:=by omega
    have t1:¬(c:Int)<(t:Int):=by omega
    have t2:(t:Int)≤(c:Int):=by omega
    refine wp_split_after1 6 wr.heap.size wr (Below.refl _ _) (by kernel_rfl) (by kernel_rfl) (.tmp 8) (.int .i64 (t:Int)) rfl (some 38) rfl rfl rfl rfl (by kernel_rfl) (fun _ _ _ h=>h) ?_
    simp only[List.take_succ_cons,List.take_zero,List.drop_succ_cons,List.drop_zero,Act.put,List.setIfInBounds_toArray,List.set_cons_zero,List.set_cons_succ]
    repeat go_big_quiet_step (fail)
    refine wpQuiet_nil ?_
    rintro V ⟨⟨V,hV⟩,rfl⟩
    have hgV:V.heap[h]?=some (.cells (bytesL c (repF v t)).toArray 5 (0,0)):=(hV.block h (Array.getElem?_eq_some_iff.1 HG.out).1).trans HG.out
    have HGV:=Lib.hid hgV;have HBV:=Lib.hid (HB.out.trans (hV.mono (by have:=HB.out.size;rw[HH.out];exact this)))
    go_wp2_with (with_reducible refine wpList_copy_splice rfl (.tmp 41) (.tmp 44) 22 22 rfl 5 Tryz.underlying22 sz5 _ _ _ _ _ _ rfl rfl h t (bytesL c (repF v t)) 5 HGV.out (bytesL m (fun _=>v)) ?c1 ?c2 ?c3 (bytesL_one m _) h w ?c4 (Nat.le_refl _) ?c5)
    case c1=>simp only[bytesL,List.length_map,List.length_range];exact HMM.out
    case c2=>
     intro _
     first
      |(refine⟨rfl,_,rfl,rep_src fun j hj=>?_⟩
        rw[cell_of_row V h (0+j) _ _ (0,0) HGV.out,List.getElem?_toArray,bytesL_get,if_pos (by omega)]
        unfold repF;rw[if_pos (by omega)])
      |(intro j u hu
        rw[bytesL_get]at hu
        by_cases hj:j<m
        ·rw[if_pos hj]at hu
         injection hu with hu
         rw[cell_of_row V h j _ _ (0,0) HGV.out,List.getElem?_toArray,bytesL_get,if_pos (by omega),←hu]
         unfold repF;rw[if_pos (by omega)]
        ·rw[if_neg hj]at hu;cases hu)
    case c3=>simp only[bytesL,List.length_map,List.length_range];omega
    case c4=>exact HBV.out
    case c5=>
     intro w5 hg5 hb5
     have hg5':=hg5.out
     rw[splice_rep c t m v hm2]at hg5'
     have HG5:=Lib.hid hg5';have HB5:=Lib.hid hb5
     have hl1:(bytesL m fun _=>v).length=m:=by simp[bytesL]
     rw[hl1]
     clear hg5 hg5' hb5 hl1
     go_wp2
     go_roundw
     case rel=>exact⟨t+m,by omega,hm2,by go_num,HG5,HB5⟩
     case measure=>simp[intOf];omega
   ·obtain rfl:t=c:=by omega
    have hlti:¬(t:Int)<(t:Int):=by omega
    go_wp2
    go_ret
    rw[←HH.out]
    refine⟨rfl,⟨by simp[bytesL],.inr ⟨h,t,_,rfl,Nat.le_refl _,HG.out,Nat.le_refl _,by unfold maxLen;omega,by simp[bytesL],?_⟩⟩,HB.out⟩
    rw[Nat.mul_one,List.take_of_length_le (by simp[bytesL])]
    exact bytesL_ext fun j hj=>by unfold repF;rw[if_pos hj]
theorem times_any(w:World)(v c:Nat)(hv:v<256)(hc1:1≤c)(hc:c≤1000):
  Calls Tryz.prog 138 #[.int .u8 (v:Int),.int .i64 (c:Int)] w fun e w'=>∃A' c',e=.returned (.slice A' c c')∧w'.ownsRow w.heap.size 5 1 (.slice A' c c') c (bytesL c (fun _=>v))∧Below w.heap.size w w':=by
 have hr:=repeat_any (w.alloc (.cells #[.int .u8 (v:Int)] 5)) w.heap.size v c hv hc1 hc (by simp) ((cell_of_row _ _ 0 _ _ (0,0) (heap_alloc_new w _)).trans rfl)
 have HB:=Lib.hid ((Below.refl w.heap.size w).alloc (Nat.le_refl _) (.cells #[.int .u8 (v:Int)] 5))
 have HR:=Lib.hid hr
 clear hr
 go_enter Tryz.func138,Tryz.ntmps138
 go_wp2_with fail
 refine HR.out.mono ?_
 rintro e w1 ⟨rfl,ho,hb⟩
 have HO:=Lib.hid (by simpa using ownsRow_base ho (show w.heap.size≤(w.alloc (.cells #[.int .u8 (v:Int)] 5)).heap.size by simp):w1.ownsRow w.heap.size 5 1 (.slice (some ⟨w.heap.size+1,0,none⟩) c c) c (bytesL c (fun _=>v)));have HB1:=Lib.hid (HB.out.trans (hb.mono (by simp)))
 clear ho hb
 go_wp2
 go_ret
 exact⟨_,_,rfl,HO.out,HB1.out⟩
def fixN:Nat→Nat
 |0=>144
 |1=>112
 |2=>24
 |_=>8
def fixV:Nat→Nat
 |0=>8
 |1=>9
 |2=>7
 |_=>8
theorem fix_sum:sumU fixN 4=288:=by rfl
theorem fix_cat(j:Nat)(hj:j<288):catU fixN (fun i _=>fixV i) 4 j=fixA j:=by
 have s1:sumU fixN 1=144:=rfl
 have s2:sumU fixN 2=256:=rfl
 have s3:sumU fixN 3=280:=rfl
 show cat (cat (cat (cat (fun _=>0) 0 (fun _=>8)) (sumU fixN 1) (fun _=>9)) (sumU fixN 2) (fun _=>7)) (sumU fixN 3) (fun _=>8) j=fixA j
 rw[s1,s2,s3]
 unfold cat fixA
 split
 ·split
  ·split
   ·rw[if_neg (by omega),if_neg (by omega),if_neg (by omega)]
   ·rw[if_neg (by omega),if_pos (by omega)]
  ·rw[if_pos (by omega)]
 ·rw[if_neg (by omega),if_neg (by omega)]
theorem fixed_con:FixedCon:=by
 intro w
 go_enter Tryz.func125,Tryz.ntmps125
 go_wp2_with fail
 refine(times_any w 8 144 (by omega) (by omega) (by omega)).mono ?_
 rintro e w1 ⟨A1,c1,rfl,o1,b1⟩
 have O1:=Lib.hid o1;have B1:=Lib.hid b1
 clear o1 b1
 go_wp2_with fail
 refine(times_any w1 9 112 (by omega) (by omega) (by omega)).mono ?_
 rintro e w2 ⟨A2,c2,rfl,o2,b2⟩
 have O12:=Lib.hid (own_keepG O1.out b2);have O2:=Lib.hid o2;have B2:=Lib.hid (B1.out.trans (b2.mono B1.out.size))
 clear o2 b2 O1
 go_wp2_with fail
 refine(times_any w2 7 24 (by omega) (by omega) (by omega)).mono ?_
 rintro e w3 ⟨A3,c3,rfl,o3,b3⟩
 have O13:=Lib.hid (own_keepG O12.out b3);have O23:=Lib.hid (own_keepG O2.out b3);have O3:=Lib.hid o3;have B3:=Lib.hid (B2.out.trans (b3.mono B2.out.size))
 clear o3 b3 O12 O2
 go_wp2_with fail
 refine(times_any w3 8 8 (by omega) (by omega) (by omega)).mono ?_
 rintro e w4 ⟨A4,c4,rfl,o4,b4⟩
 have O14:=Lib.hid (own_keepG O13.out b4);have O24:=Lib.hid (own_keepG O23.out b4);have O34:=Lib.hid (own_keepG O3.out b4);have O4:=Lib.hid o4;have B4:=Lib.hid (B3.out.trans (b4.mono B3.out.size))
 clear o4 b4 O13 O23 O3
 obtain⟨W5,hW5⟩:∃W,W=w4.alloc (.cells #[.slice A1 144 c1,.slice A2 112 c2,.slice A3 24 c3,.slice A4 8 c4] 22):=⟨_,rfl⟩
 have b5:Below w4.heap.size w4 W5:=by rw[hW5];exact(Below.refl _ _).alloc (Nat.le_refl _) _
 have hnew:W5.heap[w4.heap.size]?=some (.cells #[.slice A1 144 c1,.slice A2 112 c2,.slice A3 24 c3,.slice A4 8 c4] 22 (0,0)):=by rw[hW5];exact heap_alloc_new w4 _
 have hrd:∀{A:Option Addr} {c n v base:Nat},v<256→w4.ownsRow base 5 1 (.slice A n c) n (bytesL n (fun _=>v))→RdB W5 W5.heap.size A n (fun _=>v)∧(A=none→c=0):=fun hv ho=>by
  have:=ByR.of_own (own_keepG ho b5) (fun _=>hv)
  exact⟨this.1,this.2.1⟩
 have hrows:RowsB W5 W5.heap.size (some ⟨w4.heap.size,0,none⟩) 4 fixN (fun i _=>fixV i):=fun _=>by
  refine⟨w4.heap.size,0,rfl,(Array.getElem?_eq_some_iff.1 hnew).1,fun i hi=>?_⟩
  rcases i with _|_|_|_|i
  ·exact⟨A1,c1,(cell_of_row W5 _ 0 _ _ (0,0) hnew).trans rfl,(hrd (by omega) O14.out).1,(hrd (by omega) O14.out).2⟩
  ·exact⟨A2,c2,(cell_of_row W5 _ 1 _ _ (0,0) hnew).trans rfl,(hrd (by omega) O24.out).1,(hrd (by omega) O24.out).2⟩
  ·exact⟨A3,c3,(cell_of_row W5 _ 2 _ _ (0,0) hnew).trans rfl,(hrd (by omega) O34.out).1,(hrd (by omega) O34.out).2⟩
  ·exact⟨A4,c4,(cell_of_row W5 _ 3 _ _ (0,0) hnew).trans rfl,(hrd (by omega) O4.out).1,(hrd (by omega) O4.out).2⟩
  ·omega
 have hcon:=concatu_any W5 (some ⟨w4.heap.size,0,none⟩) 4 4 fixN (fun i _=>fixV i) (fun i _=>by unfold fixV;split<;>omega) hrows (by omega) (by rw[fix_sum];omega)
 rw[fix_sum,bytesL_ext fix_cat]at hcon
 have HCON:=Lib.hid hcon;have HW5:=Lib.hid hW5;have B5:=Lib.hid (B4.out.trans (b5.mono B4.out.size))
 clear hcon hW5 hrows hrd hnew b5 O14 O24 O34 O4 B1 B2 B3 B4
 go_wp2_with (first|rw[←HW5.out]|fail)
 refine HCON.out.mono ?_
 rintro e w6 ⟨Aa,ca,rfl,oa,b6⟩
 have OA:=Lib.hid (ownsRow_base oa B5.out.size);have B6:=Lib.hid (B5.out.trans (b6.mono B5.out.size))
 clear oa b6 HCON
 go_wp2_with fail
 refine(times_any w6 5 32 (by omega) (by omega) (by omega)).mono ?_
 rintro e w7 ⟨Ab,cb,rfl,ob,b7⟩
 have OA7:=Lib.hid (own_keepG OA.out b7);have OB:=Lib.hid ob;have B7:=Lib.hid (B6.out.trans (b7.mono B6.out.size))
 clear ob b7
 go_wp2
 go_ret2
 refine⟨Aa,ca,Ab,cb,rfl,OA7.out,ownsRow_base OB.out B6.out.size,fun g h1 h2=>?_,B7.out⟩
 have k1:=(own_blk_lt OA.out g h1).2
 have k2:=(own_blk_lt OB.out g h2).1
 omega
end Go.Proofs.YtcmpmighjglnpaaGreat
namespace Go.Proofs.YtcmpmighjglnpaaGreat
def sw(f:Nat→Nat)(i j t:Nat):Nat:=if t=j then f i else if t=i then f j else f t
section
variable {F f:Nat→Nat} {a s m e b N:Nat}
end
end Go.Proofs.YtcmpmighjglnpaaGreat
namespace Go.Proofs.YtcmpmighjglnpaaGreat
open Go.RowKit Go.ChangeShapes Go.WideShapes Go.ChangeAt Go.Joins
theorem infoShort:(Tryz.prog.info? 199).map (fun i=>(i.zero,i.size))=some (some (.agg (bytesL 19 (fun _=>0)).toArray),19):=by kernel_rfl
end Go.Proofs.YtcmpmighjglnpaaGreat
namespace Go.Proofs.YtcmpmighjglnpaaGreat
open Go.RowKit
theorem shG_lt(g:Nat→Nat)(L:Nat)(s:Rz):∀i j,shG g L s i j<256
 |0,_=>by unfold shG nof13;omega
 |i+1,j=>by
  unfold shG upd
  split
  ·have:=tkV_lt g L 3 (shS L s i);have e:(2:Nat)^3=8:=rfl;omega
  ·exact shG_lt g L s i j
theorem infoOrd13:(Tryz.prog.info? 160).map (fun i=>(i.zero,i.size))=some (some (.agg (tblA (fun _=>0) 19)),19):=by kernel_rfl
theorem szOrd13{Y:Array Value}(h:Y.size=19):(Tryz.prog.info? 160).map (·.size)=some Y.size:=by rw[h];exact(zero_of_info infoOrd13).2
def Two(a b:Nat):Nat→Prop:=fun k=>k=a∨k=b
theorem pshorts_any(w:World)(p:Nat)(A:Option Addr)(l c:Nat)(g:Nat→Nat)(s:Rz)(h:Rdr w p A l c s)(S:Nat→Prop)(hS:S p)(hSw:∀j,S j→j<w.heap.size)(hg:RdF S w A l g)(hl:l≤1000000)(hs:s.1≤8*l)(n:Nat)(hn:n≤19):
  Calls Tryz.prog 128 #[.pointer (some ⟨p,0,none⟩),.int .i64 (n:Int)] w fun e w'=>∃u,e=.returned (.agg (trA (grC (shG g l s n) 19 7) u))∧
   Rdr w' p A l c (wantS (gwS (shG g l s n) 19 7 (shS l s n)) (decide (2≤(((grS (shG g l s n) 19 7).length:Nat):Int))) 132)∧OwnS w' w.heap.size u (grS (shG g l s n) 19 7)∧Fr (At p) w w':=by
 have hp:=h.lt
 obtain⟨k,hk⟩:∃k,k=w.heap.size:=⟨_,rfl⟩
 obtain⟨Z,hZ⟩:∃Z,Z=trA (fun _=>0) (.slice none 0 0):=⟨_,rfl⟩
 obtain⟨Z2,hZ2⟩:∃Z,Z=(bytesL 19 (fun _=>0)).toArray:=⟨_,rfl⟩
 obtain⟨Z3,hZ3⟩:∃Z,Z=tblA (fun _=>0) 19:=⟨_,rfl⟩
 obtain⟨W1,hW1⟩:∃W1,W1=(w.alloc (.cells Z 26)).alloc (.cells Z2 199):=⟨_,rfl⟩
 have hb1:Below k w W1:=by rw[hW1,hk];exact((Below.refl _ _).alloc (Nat.le_refl _) _).alloc (by simp) _
 have hs1:W1.heap.size=k+2:=by rw[hW1,hk];simp
 have z1:BoxC W1 k Z 26:=by rw[hW1,hk];exact(BoxC.new w _ _).old _
 have y1:BoxC W1 (k+1) Z2 199:=by rw[hW1,hk];have:=BoxC.new (w.alloc (.cells Z 26)) Z2 199;rwa[World.size_alloc]at this
 have hr1:RowA W1 (k+1) 19 (shG g l s 0):=⟨Z2,199,y1,fun j hj=>by rw[hZ2,List.getElem?_toArray,bytesL_get,if_pos hj];rfl⟩
 have h1:Rdr W1 p A l c s:=BoxC.below h hb1 (by omega)
 have fW:∀T:Nat→Prop,Fr T w W1:=fun T=>Fr.of (hk▸hb1)
 have hzb:∀u:World,(zeroValue 26).run Tryz.prog u=.ok (.agg Z) u:=by rw[hZ];exact(zero_of_info infoTree13).1
 have hzc:∀u:World,(zeroValue 199).run Tryz.prog u=.ok (.agg Z2) u:=by rw[hZ2];exact(zero_of_info infoShort).1
 have hzd:∀u:World,(zeroValue 160).run Tryz.prog u=.ok (.agg Z3) u:=by rw[hZ3];exact(zero_of_info infoOrd13).1
 have HZS:Hid (Z.size=17):=Lib.hid (by rw[hZ,trA_size])
 have HZ3S:Hid (Z3.size=19):=Lib.hid (by rw[hZ3,tblA_size])
 obtain⟨T,hT⟩:∃T:Nat→Int,T=fun i=>(ordN i:Int):=⟨_,rfl⟩
 have hord:=order_con W1
 rw[←hT]at hord
 obtain⟨Y,hY⟩:∃Y,Y=tblA T 19:=⟨_,rfl⟩
 rw[←hY]at hord
 have HYS:Hid (Y.size=19):=Lib.hid (by rw[hY,tblA_size])
 have HYO:Hid (Y.all (·.oneCell')=true):=Lib.hid (by rw[hY];exact all_oneCell_toArray fun x hx=>by unfold tblL at hx;obtain⟨i,_,rfl⟩:=List.mem_map.1 hx;rfl)
 have HYG:Hid (∀i,i<19→Y[i]?=some (.int .i64 ((ordN i:Nat):Int))):=Lib.hid fun i hi=>by rw[hY,tblA_get T 19 i hi,hT]
 have HORD:=Lib.hid hord;have HW1:=Lib.hid hW1;have HK:=Lib.hid hk;have HS1:=Lib.hid hs1;have HZ1:=Lib.hid z1;have HR1:=Lib.hid hr1;have HD1:=Lib.hid h1;have HG0:=Lib.hid hg;have HF1:=Lib.hid (fW (At p))
 have HP:Hid (p<k):=Lib.hid (by omega)
 have HSP:Hid (S p∧∀j,S j→j<k):=Lib.hid ⟨hS,by rw[hk];exact hSw⟩
 clear h hg hZ hZ2 hZ3 hW1 hk hb1 hs1 z1 y1 hr1 h1 fW hT hord hY hp hS hSw
 go_enter Tryz.func128,Tryz.ntmps128
 go_wp2_with (first|(rw[←HW1.out,←HK.out])|fail)
 refine HORD.out.mono ?_
 rintro e w2 ⟨rfl,hb2⟩
 obtain⟨o,ho⟩:∃o,o=w2.heap.size:=⟨_,rfl⟩
 obtain⟨W3,hW3⟩:∃W,W=mkV w2 Z3 Y 160:=⟨_,rfl⟩
 have hb3:Below w2.heap.size w2 W3:=by rw[hW3];exact mkV_below _ _ _ _
 have y3:BoxC W3 o Y 160:=by rw[hW3,ho];exact mkV_row w2 Z3 Y _
 have hsz:k+2≤o:=by have:=hb2.size;rw[HS1.out]at this;rw[ho];exact this
 have hb13:Below W1.heap.size W1 W3:=hb2.trans (hb3.mono hb2.size)
 have HD3:=Lib.hid (BoxC.below HD1.out hb13 HD1.out.lt:Rdr W3 p A l c s)
 have HR3:=Lib.hid (HR1.out.below hb13 HR1.out.lt)
 have HZ3:=Lib.hid (HZ1.out.below hb13 HZ1.out.lt)
 have HF3:=Lib.hid (HF1.out.on hb13)
 have HS3:Hid (o<W3.heap.size):=Lib.hid y3.lt
 have HW3:=Lib.hid hW3;have HO:=Lib.hid ho;have HY3:=Lib.hid y3;have HOK:=Lib.hid hsz
 clear hb2 hW3 ho hb3 y3 hsz hb13 HD1 HR1 HZ1 HF1
 have hni:(n:Int)≤19:=by omega
 go_wp2_with (first
  |(refine wpList_store_rowTo rfl _ _ _ rfl rfl w2.heap.size Y rfl rfl 160 Z3 (heap_alloc_new w2 _) (szOrd13 HYS.out) (by rw[HZ3S.out,HYS.out]) HYO.out ?_;change wpList _ _ _ _ _ (mkV w2 Z3 Y 160);rw[←HW3.out,←HO.out])
  |fail)
 go_loopw [14] (fun iv wr=>∃i:Nat,i≤n∧iv=.int .i64 (i:Int)∧Hid (RowA wr (k+1) 19 (shG g l s i))∧Hid (Rdr wr p A l c (shS l s i))∧Hid (Fr (Two p (k+1)) W3 wr)) (fun iv _=>n-(intOf iv).toNat)
 case atStart=>exact⟨0,by omega,rfl,HR3,HD3,Lib.hid (Fr.refl _ _)⟩
 case round=>
  obtain⟨i,hi,rfl,HRW,HDW,HFW⟩:=hrel
  have HOW:=Lib.hid (HY3.out.fr HFW.out (by have:=HOK.out;have:=HP.out;show¬(o=p∨o=k+1);omega))
  by_cases hlt:i<n
  ·have hlti:(i:Int)<(n:Int):=by omega
   have k1:=HOW.out.cell (i:=i)
   rw[HYG.out i (by omega)]at k1
   have hol:=ord_lt i
   have hsi:shG g l s (i+1)=upd (shG g l s i) (ordN i) (tkV g l 3 (shS l s i)):=rfl
   have hss:shS l s (i+1)=tkS l 3 (shS l s i):=rfl
   obtain⟨q,hq⟩:∃q,q=ordN i:=⟨_,rfl⟩
   rw[←hq]at k1 hol hsi
   obtain⟨x,hx⟩:∃x,x=tkV g l 3 (shS l s i):=⟨_,rfl⟩
   rw[←hx]at hsi
   have hx8:x<8:=by rw[hx];exact tkV_lt _ _ _ _
   have hgw:=(HG0.out.fr ((HF3.out.mono fun j (e:j=p)=>e▸HSP.out.1).from HFW.out fun j e=>by rcases e with e|e;exact .inl (e▸HSP.out.1);exact .inr (by rw[←HK.out];omega))).1
   have HT:=Lib.hid (ptake_lit wr p A l c g _ HDW.out hgw hl (shS_in hs i) 3 3 rfl (by omega))
   rw[←hx,←hss]at HT
   have hql:(q:Int)<19:=by omega
   have HSI:=Lib.hid hsi
   clear hgw hx hq hss hsi
   go_wp2_with fail
   refine HT.out.mono ?_
   rintro e w5 ⟨rfl,r5,f5⟩
   have hkp:¬At p (k+1):=by have:=HP.out;show¬k+1=p;omega
   have hr5:RowA w5 (k+1) 19 (shG g l s i):=by obtain⟨cur,t,e,hc⟩:=HRW.out;exact⟨cur,t,(f5.block _ HRW.out.lt hkp).trans e,hc⟩
   have z1:=hr5.frozen q
   have c1:=hr5.cell hol
   have hs5:=hr5.set q x
   rw[←HSI.out]at hs5
   have HS5:=Lib.hid hs5
   have HD5:=Lib.hid r5
   have HF5:=Lib.hid (HFW.out.trans (f5.mono fun j e=>.inl e))
   clear hs5 r5 f5 hr5 hkp HT
   go_wp2
   go_roundw
   case rel=>exact⟨i+1,by omega,by go_num,HS5,Lib.hid (BoxC.other HD5.out (by have:=HP.out;show p≠k+1;omega) _),Lib.hid (HF5.out.trans ((Fr.cell _ _ _ _).mono fun j e=>.inr e))⟩
   case measure=>simp[intOf];omega
  ·obtain rfl:i=n:=by omega
   have hlti:¬(i:Int)<(i:Int):=by omega
   have hgr:=pgrow_any wr p A l c _ HDW.out (some ⟨k+1,0,none⟩) 19 19 (shG g l s i) (HRW.out.rd (shG_lt g l s i)) (by omega) 7
   obtain⟨F,hF⟩:∃F,F=shG g l s i:=⟨_,rfl⟩
   obtain⟨q,hq⟩:∃q,q=shS l s i:=⟨_,rfl⟩
   rw[←hF,←hq]at hgr
   have HGR:=Lib.hid hgr;have HFE:=Lib.hid hF;have HQ:=Lib.hid hq
   have HZW:=Lib.hid (HZ3.out.fr HFW.out (by have:=HP.out;show¬(k=p∨k=k+1);omega))
   have HFF:=Lib.hid (HF3.out.from HFW.out fun j e=>by rcases e with e|e;exact .inl e;exact .inr (by rw[←HK.out];omega):Fr (At p) w wr)
   have HKW:Hid (k+2≤wr.heap.size):=Lib.hid (by have:=HFW.out.size;have:=HOK.out;have:=HS3.out;omega)
   clear hgr hF hq HRW HDW HFW HOW
   go_wp2_with fail
   refine HGR.out.mono ?_
   rintro e w5 ⟨u,rfl,r5,o5,f5⟩
   obtain⟨X,hX⟩:∃X,X=trA (grC F 19 7) u:=⟨_,rfl⟩
   rw[←hX]
   have HXS:Hid (X.size=17):=Lib.hid (by rw[hX,trA_size])
   have HXO:Hid (X.all (·.oneCell')=true):=Lib.hid (by rw[hX];exact trA_one _ _ o5.one)
   obtain⟨A2,cap,hu,_,_,hmc,hcl⟩:=o5.rd
   obtain⟨m,hm⟩:∃m,m=(grS F 19 7).length:=⟨_,rfl⟩
   rw[←hm]at hu hmc
   have hX16:X[16]?=some (.slice A2 m cap):=by rw[hX,hu];rfl
   obtain⟨t,ht⟩:∃t,t=w5.heap.size:=⟨_,rfl⟩
   obtain⟨W6,hW6⟩:∃W,W=mkV w5 Z X 26:=⟨_,rfl⟩
   have hb6:Below w5.heap.size w5 W6:=by rw[hW6];exact mkV_below _ _ _ _
   have x6:BoxC W6 t X 26:=by rw[hW6,ht];exact mkV_row w5 Z X _
   have hcell:=x6.cell (i:=16)
   rw[hX16]at hcell
   have hkt:k+2≤t:=by have:=f5.size;have:=HKW.out;omega
   have HR6:=Lib.hid (BoxC.below r5 hb6 r5.lt:Rdr W6 p A l c (gwS F 19 7 q))
   have HO6:Hid (OwnS W6 wr.heap.size u (grS F 19 7)):=Lib.hid (own_keepG o5 hb6)
   have HZ6:=Lib.hid ((HZW.out.fr f5 (by have:=HP.out;show¬k=p;omega)).below hb6 (by omega))
   have HF6:=Lib.hid ((HFF.out.trans f5).on hb6)
   have HWA:=Lib.hid (pwant_any W6 p A l c _ HR6.out (decide (2≤(m:Int))) 132)
   have HW6:=Lib.hid hW6;have HT6:=Lib.hid ht;have HX6:=Lib.hid x6;have HXE:=Lib.hid hX;have HKT:=Lib.hid hkt;have HM:=Lib.hid hm
   clear r5 o5 f5 hX hu hX16 ht hW6 hb6 x6 hkt HGR HFF HKW hmc hcl hm
   go_wp2_with (first
    |(refine wpList_store_rowTo rfl _ _ _ rfl rfl w5.heap.size X rfl rfl 26 Z (heap_alloc_new w5 _) (szTree17 HXS.out) (by rw[HZS.out,HXS.out]) HXO.out ?_;change wpList _ _ _ _ _ (mkV w5 Z X 26);rw[←HW6.out,←HT6.out])
    |fail)
   refine HWA.out.mono ?_
   rintro e w7 ⟨rfl,r7,f7⟩
   have HX7:=Lib.hid (HX6.out.fr f7 (by have:=HP.out;have:=HKT.out;show¬t=p;omega))
   have HZ7:=Lib.hid (HZ6.out.fr f7 (by have:=HP.out;show¬k=p;omega))
   have hwk:k+1≤wr.heap.size:=by have:=HZW.out.lt;omega
   have HO7:=Lib.hid (HO6.out.fr f7 (fun j (e:j=p)=>by have:=HP.out;omega))
   have HR7:=Lib.hid r7;have HF7:=Lib.hid (HF6.out.trans f7)
   clear r7 f7 HWA HR6 HF6 HO6 HX6 HZ6 hwk
   go_wp2_with (first
    |(refine wpList_load_row rfl _ _ rfl t rfl _ X (0,0) _ HX7.out Tryz.underlying26 rfl (szTree17 HXS.out) ?_)
    |(refine wpList_store_rowTo rfl _ _ _ rfl rfl k X rfl rfl 26 Z HZ7.out (szTree17 HXS.out) (by rw[HZS.out,HXS.out]) HXO.out ?_)
    |fail)
   have hpk:p≠k:=by have:=HP.out;omega
   have hwk:k+1≤wr.heap.size:=by have:=HZW.out.lt;omega
   refine bodyPost_ret (v:=.agg X) (results_cell_row rfl _ _ k _ _ (0,0) _ rfl (setRow_heap _ _ _ _ _ _ HZ7.out) Tryz.underlying26 rfl (szTree17 HXS.out)) rfl ⟨u,by rw[HXE.out,HFE.out],?_,?_,?_⟩
   ·rw[←HFE.out,←HQ.out,←HM.out];exact BoxC.rowO HR7.out hpk _
   ·rw[←HK.out,←HFE.out];exact ownsRow_lower (own_blk HO7.out fun j hj=>setRow_other _ _ _ _ (by have:=(own_blk_lt HO7.out j hj).1;omega)) (by omega)
   ·exact HF7.out.from (Fr.row w7 k X) fun j hj=>.inr (by rw[←HK.out];exact Nat.le_of_eq hj.symm)
end Go.Proofs.YtcmpmighjglnpaaGreat
