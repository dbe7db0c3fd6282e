/-
  The law PlainNames: the numbers of limits and errors, and the chapter's examples. No condition.
-/
import Derived.Lib.SlBytesConst
import Derived.Test.Ytgokdgcmkcmjeaapaau
import Derived.Test.Ytgokdgcmkcmjeaapaaw
set_option maxRecDepth 100000
set_option maxHeartbeats 16000000
namespace Go.Proofs.Ytgokdgcmkcmjeaa
open Go.RowKit Go.ChangeShapes Go.WideShapes Go.ChangeAt Go.Joins
theorem wpList_buildOnT{P:Program}{ops:Array Oper}{rest:List Oper}{o:Oper}{a:Act}{w:World}{Q:Exit→Act→World→Prop}(hw:Region.wanted o (yielded ops a.tmps)=true)(t:TypeId)(parts:Array (Nat×Operand))(ho:o.op=.build t parts)
  (d:Option Tmp) (hd:o.dst=d) (cells:Array Value) (hf:P.built t (parts.map fun(i,x)=>(i,a.eval x)).toList=some cells) (h:wpList P ops Q rest (a.put d (.agg cells)) w):wpList P ops Q (o::rest) a w:=by
 subst hd
 exact wpList_build_on hw t parts ho (.agg cells) (run_build w t _ cells hf) h
theorem rd_litB{w:World}{b n:Nat}{cs:Array Value}{t:TypeId}{fr:Nat×Nat}{f:Nat→Nat}(hf:∀j,f j<256)(h:w.heap[b]?=some (.cells cs t fr))(hc:∀j,j<n→cs[j]?=some (.int .u8 (f j:Int)))(hb:b<w.heap.size):RdB w w.heap.size (some ⟨b,0,none⟩) n f:=
 ⟨hf,fun _=>⟨b,0,rfl,hb,fun j hj=>by rw[cell_of_row w b _ cs t fr h,Nat.zero_add];exact hc j hj⟩⟩
theorem lst_b{L:List Nat}(h:∀x∈L,x<256):∀j,lst L j<256:=lst_lt h
theorem nm_none(w:World):Calls Try.prog 7 #[.string ⟨#[3,0]⟩,.int .i64 0,.string ⟨#[]⟩,.int .i64 10] w fun e w'=>e=.returned (.bool true)∧Below w.heap.size w w':=by
 rw[strLd [3,0] #[3,0] rfl,strLd [] #[] rfl]
 exact tells13_yes w [3,0] [] 0 10 (by decide) (by decide) (by decide) valp_none
theorem nm_lim(w:World):Calls Try.prog 8 #[.string ⟨#[1,3,0,252,255,97,98,99]⟩,.int .i64 2,.int .i64 140] w fun e w'=>e=.returned (.bool true)∧Below w.heap.size w w':=by
 rw[strLd [1,3,0,252,255,97,98,99] #[1,3,0,252,255,97,98,99] rfl]
 exact fails13_yes w [1,3,0,252,255,97,98,99] 2 140 (by decide) (by decide) (by decide) val_lim
theorem nm_end(w:World):Calls Try.prog 8 #[.string ⟨#[75,4]⟩,.int .i64 9,.int .i64 10] w fun e w'=>e=.returned (.bool true)∧Below w.heap.size w w':=by
 rw[strLd [75,4] #[75,4] rfl]
 exact fails13_yes w [75,4] 9 10 (by decide) (by decide) (by decide) val_end
theorem nm_kind(w:World):Calls Try.prog 8 #[.string ⟨#[7]⟩,.int .i64 9,.int .i64 130] w fun e w'=>e=.returned (.bool true)∧Below w.heap.size w w':=by
 rw[strLd [7] #[7] rfl]
 exact fails13_yes w [7] 9 130 (by decide) (by decide) (by decide) val_kind
theorem nm_sto(w:World):Calls Try.prog 8 #[.string ⟨#[1,3,0,252,254]⟩,.int .i64 9,.int .i64 131] w fun e w'=>e=.returned (.bool true)∧Below w.heap.size w w':=by
 rw[strLd [1,3,0,252,254] #[1,3,0,252,254] rfl]
 exact fails13_yes w [1,3,0,252,254] 9 131 (by decide) (by decide) (by decide) val_sto
theorem nm_tab(w:World):Calls Try.prog 8 #[.string ⟨#[5,255,255]⟩,.int .i64 9,.int .i64 132] w fun e w'=>e=.returned (.bool true)∧Below w.heap.size w w':=by
 rw[strLd [5,255,255] #[5,255,255] rfl]
 exact fails13_yes w [5,255,255] 9 132 (by decide) (by decide) (by decide) val_tab
theorem nm_dist(w:World):Calls Try.prog 8 #[.string ⟨#[3,2,0]⟩,.int .i64 9,.int .i64 60] w fun e w'=>e=.returned (.bool true)∧Below w.heap.size w w':=by
 rw[strLd [3,2,0] #[3,2,0] rfl]
 exact fails13_yes w [3,2,0] 9 60 (by decide) (by decide) (by decide) val_dist
theorem rdS_nil(w:World)(B:Nat):RdS w B (.slice none 0 0) []:=⟨none,0,rfl,⟨rfl,fun h=>absurd h (by decide)⟩,fun _=>rfl,Nat.le_refl _,Nat.zero_le _⟩
def blkN(kd:Nat):Array Value:=blkI kd false 0 (fun _=>0) (fun _=>0) (.slice none 0 0) (.slice none 0 0)
theorem not3:¬MayI 3 0 (fun _=>0) [] (fun _=>0) []:=by
 rintro(⟨h,_⟩|⟨h,_⟩)
 ·cases h
 ·omega
theorem chk_3(w:World):Calls Try.prog 10 #[.agg (blkN 3)] w fun e w'=>e=.returned (.int .i64 8)∧Below w.heap.size w w':=
 pcheck13_any w 3 false 0 (fun _=>0) (fun _=>0) _ _ [] [] (rdS_nil ..) (rdS_nil ..) (by decide) (by decide) false ⟨fun h=>(by cases h),fun h=>absurd h not3⟩
theorem chk_0(w:World):Calls Try.prog 10 #[.agg (blkN 0)] w fun e w'=>e=.returned (.int .i64 0)∧Below w.heap.size w w':=
 pcheck13_any w 0 false 0 (fun _=>0) (fun _=>0) _ _ [] [] (rdS_nil ..) (rdS_nil ..) (by decide) (by decide) true ⟨fun _=>.inl ⟨rfl,by decide,by decide,by decide+kernel,by decide+kernel⟩,fun _=>rfl⟩
theorem built_N3:Try.prog.built 35 [(0,.int .u8 3)]=some (blkN 3):=by kernel_rfl
theorem built_N0:Try.prog.built 35 []=some (blkN 0):=by kernel_rfl
theorem names13_law(w:World):Calls Try.prog 3 #[] w fun e w'=>e=.returned (.bool true)∧Below w.heap.size w w':=by
 obtain⟨b,hb⟩:∃b,b=w.heap.size:=⟨_,rfl⟩
 obtain⟨W1,hW1⟩:∃W1,W1=w.alloc (.cells #[.int .u8 75,.int .u8 4] 5 (2,3)):=⟨_,rfl⟩
 have hb1:Below w.heap.size w W1:=by rw[hW1];exact(Below.refl _ _).alloc (Nat.le_refl _) _
 have hsz:b<W1.heap.size:=by rw[hW1,World.size_alloc,hb];omega
 have x1:W1.heap[b]?=some (.cells #[.int .u8 75,.int .u8 4] 5 (2,3)):=by rw[hW1,hb];exact heap_alloc_new w _
 have hrd:RdB W1 W1.heap.size (some ⟨b,0,none⟩) 2 (lst [75,4]):=rd_litB (lst_b (by decide)) x1 (fun j hj=>by
  rcases j with _|_|j
  ·rfl
  ·rfl
  ·omega) hsz
 have kc:(convert 22 22 (.slice (some ⟨w.heap.size,0,none⟩) 2 2)).run Try.prog (w.alloc (.cells #[.int .u8 75,.int .u8 4] 5))=.ok (.slice (some ⟨w.heap.size,0,none⟩) 2 2) (w.alloc (.cells #[.int .u8 75,.int .u8 4] 5 (2,3))):=Lib.run_convert_bytes_const w 22 5 #[.int .u8 75,.int .u8 4] 2 2 Try.underlying22 Try.underlying5
 have hP:=pref_as (c:=2) (lim:=9) (n:=1) hrd (by decide) (by decide) (by decide) val_pre rfl
 obtain⟨B0,hB0⟩:∃Z,Z=blkN 0:=⟨_,rfl⟩
 obtain⟨B3,hB3⟩:∃Z,Z=blkN 3:=⟨_,rfl⟩
 have HP:=Lib.hid hP;have HB1:=Lib.hid hb1;have HW1:=Lib.hid hW1;have HB:=Lib.hid hb
 have H1:=Lib.hid nm_none;have H2:=Lib.hid nm_lim;have H3:=Lib.hid nm_end;have H4:=Lib.hid nm_kind;have H5:=Lib.hid nm_sto;have H6:=Lib.hid nm_tab;have H7:=Lib.hid nm_dist;have H8:=Lib.hid alive13_any
 have HC3:Hid (∀w:World,Calls Try.prog 10 #[.agg B3] w fun e w'=>e=.returned (.int .i64 8)∧Below w.heap.size w w'):=Lib.hid (by rw[hB3];exact chk_3)
 have HC0:Hid (∀w:World,Calls Try.prog 10 #[.agg B0] w fun e w'=>e=.returned (.int .i64 0)∧Below w.heap.size w w'):=Lib.hid (by rw[hB0];exact chk_0)
 have HN3:Hid (Try.prog.built 35 [(0,.int .u8 3)]=some B3):=Lib.hid (by rw[hB3];exact built_N3)
 have HN0:Hid (Try.prog.built 35 []=some B0):=Lib.hid (by rw[hB0];exact built_N0)
 clear hP hb1 hW1 hb x1 hrd hsz hB0 hB3
 go_enter Try.func3,Try.ntmps3
 go_wp2_with (first|(rw[←HW1.out,←HB.out])|fail)
 refine HP.out.mono ?_
 clear kc
 rintro e w2 ⟨A1,c1,rfl,hy,hb2⟩
 have HY:=Lib.hid hy;have HB2:=Lib.hid (HB1.out.trans (hb2.mono HB1.out.size))
 clear hy hb2 HP HB1 HW1
 go_wp2_with fail
 refine(H1.out w2).mono ?_
 rintro e w3 ⟨rfl,hb⟩
 have HB3:=Lib.hid (HB2.out.trans (hb.mono HB2.out.size))
 have HY3:=Lib.hid ((HY.out.below hb (Nat.le_refl _)).more hb.size)
 clear hb H1
 go_wp2_with fail
 refine(H2.out w3).mono ?_
 rintro e w4 ⟨rfl,hb⟩
 have HB4:=Lib.hid (HB3.out.trans (hb.mono HB3.out.size))
 have HY4:=Lib.hid ((HY3.out.below hb (Nat.le_refl _)).more hb.size)
 clear hb H2
 go_wp2_with fail
 refine(H3.out w4).mono ?_
 rintro e w5 ⟨rfl,hb⟩
 have HB5:=Lib.hid (HB4.out.trans (hb.mono HB4.out.size))
 have HY5:=Lib.hid ((HY4.out.below hb (Nat.le_refl _)).more hb.size)
 clear hb H3
 go_wp2_with fail
 refine(H4.out w5).mono ?_
 rintro e w6 ⟨rfl,hb⟩
 have HB6:=Lib.hid (HB5.out.trans (hb.mono HB5.out.size))
 have HY6:=Lib.hid ((HY5.out.below hb (Nat.le_refl _)).more hb.size)
 clear hb H4
 go_wp2_with fail
 refine(H5.out w6).mono ?_
 rintro e w7 ⟨rfl,hb⟩
 have HB7:=Lib.hid (HB6.out.trans (hb.mono HB6.out.size))
 have HY7:=Lib.hid ((HY6.out.below hb (Nat.le_refl _)).more hb.size)
 clear hb H5
 go_wp2_with fail
 refine(H6.out w7).mono ?_
 rintro e w8 ⟨rfl,hb⟩
 have HB8:=Lib.hid (HB7.out.trans (hb.mono HB7.out.size))
 have HY8:=Lib.hid ((HY7.out.below hb (Nat.le_refl _)).more hb.size)
 clear hb H6
 go_wp2_with fail
 refine(H7.out w8).mono ?_
 rintro e w9 ⟨rfl,hb⟩
 have HB9:=Lib.hid (HB8.out.trans (hb.mono HB8.out.size))
 have HY9:=Lib.hid ((HY8.out.below hb (Nat.le_refl _)).more hb.size)
 clear hb H7
 go_wp2_with fail
 refine(H8.out w9).mono ?_
 rintro e w10 ⟨rfl,hb⟩
 have HB10:=Lib.hid (HB9.out.trans (hb.mono HB9.out.size))
 have HY10:=Lib.hid ((HY9.out.below hb (Nat.le_refl _)).more hb.size)
 clear hb H8
 have s1:=run_str HY10.out.1 c1
 rw[show strB 1 (lst [97])=(⟨#[97]⟩:ByteArray)from by kernel_rfl]at s1
 have e0:((0:Int)==0)=true:=rfl
 have e8:((8:Int)==8)=true:=rfl
 go_wp2_with (first
  |(refine wpList_buildOnT (by rfl) 35 #[(0,.const (.int .u8 3))] rfl (some 47) rfl B3 ?_ ?_;focus(simpa[Act.eval]using HN3.out))
  |fail)
 refine(HC3.out w10).mono ?_
 rintro e w11 ⟨rfl,hb⟩
 have HB11:=Lib.hid (HB10.out.trans (hb.mono HB10.out.size))
 clear hb HC3 s1
 go_wp2_with (first
  |(refine wpList_buildOnT (by rfl) 35 #[] rfl (some 52) rfl B0 ?_ ?_;focus(simpa[Act.eval]using HN0.out))
  |fail)
 refine(HC0.out w11).mono ?_
 rintro e w12 ⟨rfl,hb⟩
 have HB12:=Lib.hid (HB11.out.trans (hb.mono HB11.out.size))
 clear hb HC0
 go_wp2
 go_ret
 exact⟨rfl,HB12.out⟩
theorem names13_law_lifted(os:Os)(started:os.Started)(H:Type)(enc:TypeId×Value→H):
  ReturnsInHanded {} Try.checked os 3 .any (Rows.plainNamesSpec.pre6 enc Try.prog Try.f3 Rows.plainNamesRow.domain false) (Rows.plainNamesSpec.post enc Try.prog Try.f3 false true false false):=by
 refine returnsInHanded_of_change (C:=Try.checked) own started (by kernel_rfl) Try.func3
  (ChangeSpec.witness6 (enc:=enc) (C:=Try.checked) false ⟨#[],#[],[]⟩ 8 (by kernel_rfl) (by kernel_rfl) (by kernel_rfl) (by kernel_rfl)) ?_
 intro W base args ds gs before hval0 hW _ _
 have hval:∀(j:Nat) t v,Try.f3.params[j]?=some t→args[j]?=some v→Value.okWide Try.prog W .any base t v:=hval0
 have hW':=hW
 obtain⟨p,q,hA0,hV,rfl,_,_⟩:=hW
 have hA:DataW.TrodAll enc Try.prog W 0 (fun _=>true) true Try.f3.params.toList args.toList ds p:=hA0
 rw[Try.params3]at hA
 obtain⟨hargs,rfl,rfl⟩:=trodAll_nil hA
 obtain rfl:args=#[]:=by cases args;simp_all
 obtain⟨rfl,rfl⟩:=trodVars_none hV
 clear hA0 hval0
 refine(names13_law W).mono fun e W' ⟨he,bel⟩=>?_
 subst he
 exact⟨_,rfl,_,_,_,[],_,[],hW',trodAll_mk1 (shut_bool Try.underlying4 _),trodAll_mk0,rfl,bel.frame _,fun h=>by cases h⟩
theorem names13_law_holds:Rows.PlainNamesSaid:=
 OpenClaim.holds_of_wide 3 Try.f3 rfl rfl rfl rfl rfl rfl rfl ⟨rfl,rfl,rfl,rfl,rfl⟩ rfl rfl rfl rfl rfl (by kernel_rfl) Try.func3 (by kernel_rfl)
  (of_decide_eq_true (by kernel_rfl)) (by unfold Func.isWrapper;first|(rw[if_pos (by decide+kernel)];kernel_rfl)|(rw[if_neg (by decide+kernel)];exact⟨rfl,rfl⟩))
  (fun os started H enc _=>names13_law_lifted os started H enc)
#print axioms names13_law_holds
end Go.Proofs.Ytgokdgcmkcmjeaa
