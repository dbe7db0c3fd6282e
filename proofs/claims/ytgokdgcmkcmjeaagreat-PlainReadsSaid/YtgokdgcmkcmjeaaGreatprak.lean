/-
  Words and walks.
-/
import Derived.StillTailTactics
import Derived.Test.YtgokdgcmkcmjeaaGreatprai
import Derived.Test.YtgokdgcmkcmjeaaGreatpraj
set_option maxRecDepth 100000
set_option maxHeartbeats 16000000
namespace Go.Proofs.YtgokdgcmkcmjeaaGreat
open Go.RowKit
theorem infoArr:(Tryz.prog.info? 180).map (fun i=>(i.zero,i.size))=some (some (.agg (Array.replicate 320 (.int .u8 0))),320):=by kernel_rfl
theorem TreA.each{U:World}{g:Nat}{c:Nat→Int}{v:Value}(h:TreA U g c v):U.cell? ⟨g,0,none⟩=some (.int .i64 (c 0))∧U.cell? ⟨g,1,none⟩=some (.int .i64 (c 1))∧U.cell? ⟨g,2,none⟩=some (.int .i64 (c 2))∧U.cell? ⟨g,3,none⟩=some (.int .i64 (c 3))∧U.cell? ⟨g,4,none⟩=some (.int .i64 (c 4))∧U.cell? ⟨g,5,none⟩=some (.int .i64 (c 5))∧U.cell? ⟨g,6,none⟩=some (.int .i64 (c 6))∧U.cell? ⟨g,7,none⟩=some (.int .i64 (c 7))∧U.cell? ⟨g,8,none⟩=some (.int .i64 (c 8))∧U.cell? ⟨g,9,none⟩=some (.int .i64 (c 9))∧U.cell? ⟨g,10,none⟩=some (.int .i64 (c 10))∧U.cell? ⟨g,11,none⟩=some (.int .i64 (c 11))∧U.cell? ⟨g,12,none⟩=some (.int .i64 (c 12))∧U.cell? ⟨g,13,none⟩=some (.int .i64 (c 13))∧U.cell? ⟨g,14,none⟩=some (.int .i64 (c 14))∧U.cell? ⟨g,15,none⟩=some (.int .i64 (c 15))∧U.cell? ⟨g,16,none⟩=some v:=
 ⟨h.cnt (by omega),h.cnt (by omega),h.cnt (by omega),h.cnt (by omega),h.cnt (by omega),h.cnt (by omega),h.cnt (by omega),h.cnt (by omega),h.cnt (by omega),h.cnt (by omega),h.cnt (by omega),h.cnt (by omega),h.cnt (by omega),h.cnt (by omega),h.cnt (by omega),h.cnt (by omega),h.syms⟩
theorem chk_out{c:Nat→Int}{s:List Int}{o:Option (Nat→Nat)}(ho:o=layR c s):
  (∀G,o=some G→checkE G 320 15=0→ChkOut c s (.returned (.int .i64 0)))∧((∀G,o=some G→checkE G 320 15≠0)→ChkOut c s (.returned (.int .i64 8))):=by
 refine⟨fun G h hc=>.inl ⟨⟨_,layR_sound (ho.symm.trans h) hc⟩,rfl⟩,fun h=>.inr ⟨fun f hf=>?_,rfl⟩⟩
 exact h f (ho.trans (layR_tree hf)) hf.1
theorem tchk_any(w:World)(c:Nat→Int)(v:Value)(s:List Int)(hv:RdS w w.heap.size v s)(hs:s.length≤1000000):
  Calls Tryz.prog 74 #[.agg (trA c v)] w fun e w'=>ChkOut c s e∧Below w.heap.size w w':=by
 have hz:=(zero_of_info infoArr).1
 obtain⟨Z,hZ⟩:∃Z:Array Value,Z=Array.replicate 320 (.int .u8 0):=⟨_,rfl⟩
 rw[←hZ]at hz
 obtain⟨U,hU⟩:∃U,U=(w.alloc (.cells (trA c v) 26)).alloc (.cells Z 180):=⟨_,rfl⟩
 have ht:TreA U w.heap.size c v:=by rw[hU];exact heap_alloc2_old w _ _
 have hrow:RowA U (w.heap.size+1) 320 (fun _=>0):=by rw[hU,hZ];exact⟨_,_,heap_alloc2_new w _ _,fun j hj=>by simp[hj]⟩
 have hb:Below w.heap.size w U:=by rw[hU];exact((Below.refl w.heap.size w).alloc (Nat.le_refl _) _).alloc (by simp) _
 obtain⟨o,ho⟩:∃o,o=layR c s:=⟨_,rfl⟩
 have hlay:=lay_any U.drew (w.heap.size+1) c v s (((hv.below hb (Nat.le_refl _)).below (Below.refl _ _).drew (Nat.le_refl _)).more (by omega)) hs hrow
 rw[←ho]at hlay
 obtain⟨ho1,ho2⟩:=chk_out ho
 have hbd:Below w.heap.size w U.drew:=hb.trans (Below.refl _ _).drew
 have HT:=Lib.hid ht;have HB:=Lib.hid hbd;have HL:=Lib.hid hlay;have HO1:=Lib.hid ho1;have HO2:=Lib.hid ho2
 clear ht hrow hb hbd hlay ho1 ho2 ho hZ
 go_enter Tryz.func74,Tryz.ntmps74
 go_wp2_with fail
 rw[←hU]
 clear hU
 obtain⟨k0,k1,k2,k3,k4,k5,k6,k7,k8,k9,k10,k11,k12,k13,k14,k15,k16⟩:=HT.out.each
 refine wp_region_still_tail 2 (by kernel_rfl) (by kernel_rfl) ?_
 simp only[List.take_succ_cons,List.take_zero,List.drop_succ_cons,List.drop_zero]
 change wpStill _ _ (World.drew _) (fun a'=>wpList _ _ _ _ a' (World.drew _)) _ _
 repeat still_step
 refine wpStill_nil ?_
 clear k0 k1 k2 k3 k4 k5 k6 k7 k8 k9 k10 k11 k12 k13 k14 k15 k16 hz
 rcases o with _|G
 ·go_wp2_with (go_at_call 113;refine HL.out.mono ?_;rintro e w1 ⟨rfl,_,hb1⟩)
  go_ret
  exact⟨HO2.out (fun G h=>by cases h),HB.out.trans (hb1.mono (by omega))⟩
 ·obtain⟨E,hE⟩:∃E,E=checkE G 320 15:=⟨_,rfl⟩
  go_wp2_with fail
  refine HL.out.mono ?_
  rintro e w1 ⟨rfl,h1,hb1⟩
  obtain⟨hrow,hG⟩:=h1 G rfl
  have hck:=check_any w1 _ 320 320 G 15 (hrow.rd hG) (by omega)
  rw[←hE]at hck
  have HCK:=Lib.hid hck;have HB1:=Lib.hid (HB.out.trans (hb1.mono (by omega)))
  have HE:=Lib.hid hE
  clear h1 hb1 hrow hG hck hE
  by_cases h0:E=0
  ·subst h0
   go_wp2_with (go_at_call 114;refine HCK.out.mono ?_;rintro e w2 ⟨rfl,hb2⟩)
   go_ret
   exact⟨HO1.out G rfl HE.out.symm,HB1.out.trans (hb2.mono HB1.out.size)⟩
  ·have hne:(E !=0)=true:=by simpa using h0
   go_wp2_with (go_at_call 114;refine HCK.out.mono ?_;rintro e w2 ⟨rfl,hb2⟩)
   go_ret
   exact⟨HO2.out (fun G' h=>by cases h;rw[←HE.out];exact h0),HB1.out.trans (hb2.mono HB1.out.size)⟩
end Go.Proofs.YtgokdgcmkcmjeaaGreat
