/-
  Words and walks.
-/
import Derived.Lib.SmallJoins
import Derived.Test.YtgokdgcmkcmjeaaGreatpraf
import Derived.Test.YtgokdgcmkcmjeaaGreatprbd
set_option maxRecDepth 100000
set_option maxHeartbeats 16000000
namespace Go.Proofs.YtgokdgcmkcmjeaaGreat
open Go.RowKit Go.ChangeShapes Go.WideShapes Go.ChangeAt Go.Joins Go.ChangeMaps
theorem cellsTree:Tryz.prog.cellsOf 26=17:=by kernel_rfl
theorem cellsCnt:Tryz.prog.cellsOf 23=16:=by kernel_rfl
theorem cellsInt:Tryz.prog.cellsOf 3=1:=by kernel_rfl
theorem cellsInts:Tryz.prog.cellsOf 24=1:=by kernel_rfl
end Go.Proofs.YtgokdgcmkcmjeaaGreat
namespace Go.Proofs.YtgokdgcmkcmjeaaGreat
open Go.RowKit Go.ChangeShapes Go.WideShapes Go.ChangeAt Go.Joins Go.ChangeMaps
theorem cellsBlk:Tryz.prog.cellsOf 28=37:=by kernel_rfl
theorem cellsU8b:Tryz.prog.cellsOf 5=1:=by kernel_rfl
theorem cellsBolb:Tryz.prog.cellsOf 4=1:=by kernel_rfl
theorem open_treeL{H:Type}{enc:TypeId×Value→H}{W:World}{base:Nat}{sp:Nat→Bool}{hd:Bool}{l:List Value}{fuel:Nat}{y:DataW H×List MemPlace}(hsz:l.length=17)
  (hf:DataW.trod enc Tryz.prog W base sp hd fuel 26 l=some y):
  ∃(c:Nat→Int) (u:Value) (s:List Int),l=trL c u∧RdS W W.heap.size u s:=by
 obtain⟨cs,rfl⟩:∃cs:Array Value,l=cs.toList:=⟨l.toArray,by simp⟩
 replace hsz:cs.size=17:=by simpa using hsz
 obtain⟨y0,y1,n,_,_,h0,h1⟩:=trod_struct2 Tryz.underlying26 hf
 rw[show Tryz.prog.cellsOf _=16 from cellsCnt]at h0
 rw[show Tryz.prog.cellsOf _=1 from cellsInts]at h1
 obtain⟨ys,m,rfl,hx,hl,hyl,hget⟩:=DataW.trod_array Tryz.underlying23 h0
 have key:∀i,i<16→∃z:Int,cs[i]?=some (.int .i64 z):=by
  intro i hi
  have h3:=hget i hi
  rw[cellsInt,Nat.mul_one]at h3
  have h4:(((cs.toList.drop 0).take 16).drop i).take 1=[cs[i]'(by omega)]:=by
   rw[List.drop_zero,List.drop_take,List.take_take,show min 1 (16-i)=1 by omega,List.drop_eq_getElem_cons (by simpa using(by omega:i<cs.size))]
   simp
  obtain⟨y,hy⟩:∃y,ys[i]?=some y:=⟨ys[i]'(by omega),by simp[hyl,hi]⟩
  rw[hy]at h3
  have h5:DataW.trod enc Tryz.prog W base sp hd m 3 [cs[i]'(by omega)]=some y:=by rw[←h4];exact h3
  obtain⟨z,hz,_,_⟩:=DataW.trod_int Tryz.underlying3 h5
  refine⟨z,?_⟩
  have:cs[i]'(by omega)=.int .i64 z:=by simpa using hz
  rw[←this];simp
 have h16:(cs.toList.drop 16).take 1=[cs[16]'(by omega)]:=by
  rw[List.drop_eq_getElem_cons (by simpa using(by omega:16<cs.size))]
  simp
 have h1':DataW.trod enc Tryz.prog W base sp hd (m+1) 24 [cs[16]'(by omega)]=some y1:=by rw[←h16];exact h1
 obtain⟨A,ln,c,e0⟩:=slice_form Tryz.underlying24 h1'
 simp only[List.cons.injEq,and_true]at e0
 rw[e0]at h1'
 obtain⟨s,hlen,hrd,hn,hm,hb⟩:=open_intl (d:=y1.1) (p:=y1.2) ⟨m+1,by simpa[Value.cells]using h1'⟩
 refine⟨fun i=>if h:i<16 then(key i h).choose else 0,.slice A ln c,s,?_,⟨A,c,by rw[hlen],hrd,hn,hlen▸hm.1,hm.2⟩⟩
 have e:cs=trA (fun i=>if h:i<16 then(key i h).choose else 0) (.slice A ln c):=by
  apply Array.ext_getElem?
  intro i
  rw[trA_get]
  by_cases hi:i<16
  ·rw[if_pos hi];simp only[hi,dif_pos];exact(key i hi).choose_spec
  ·rw[if_neg hi]
   by_cases h2:i=16
   ·subst h2;rw[if_pos rfl,←e0];simp
   ·rw[if_neg h2];simp;omega
 exact congrArg Array.toList e
theorem open_blk{H:Type}{enc:TypeId×Value→H}{W:World}{r:Reach}{b0 base:Nat}{sp:Nat→Bool}{hd:Bool}{v:Value}{d:DataW H}{p:List MemPlace}
  (hv:Value.okWide Tryz.prog W r b0 28 v) (h:DataW.Trod enc Tryz.prog W base sp hd 28 v d p):
  ∃(kd:Nat) (last:Bool) (left:Int) (c1 c2:Nat→Int) (v1 v2:Value) (s1 s2:List Int),v=.agg (blkI kd last left c1 c2 v1 v2)∧kd<256∧RdS W W.heap.size v1 s1∧RdS W W.heap.size v2 s2:=by
 obtain⟨cs,rfl,hsz⟩:=okWide_struct Tryz.underlying28 hv
 rw[cellsBlk]at hsz
 obtain⟨l,rfl⟩:∃l:List Value,cs=l.toArray:=⟨cs.toList,by simp⟩
 have hll:l.length=37:=by simpa using hsz
 obtain⟨fuel,hf⟩:=h
 obtain⟨y0,y1,y2,y3,y4,n,_,_,h0,h1,h2,h3,h4⟩:=trod_struct5 Tryz.underlying28 hf
 simp only[Value.cells]at h0 h1 h2 h3 h4
 rw[show Tryz.prog.cellsOf _=1 from cellsU8b]at h0
 rw[show Tryz.prog.cellsOf _=1 from cellsBolb]at h1
 rw[show Tryz.prog.cellsOf _=1 from cellsInt]at h2
 rw[show Tryz.prog.cellsOf _=17 from cellsTree]at h3 h4
 match l,hll with
 |x0::x1::x2::r,hll=>
  have hrl:r.length=34:=by simpa using hll
  replace h0:DataW.trod enc Tryz.prog W base sp hd n 5 [x0]=some y0:=h0
  replace h1:DataW.trod enc Tryz.prog W base sp hd n 4 [x1]=some y1:=h1
  replace h2:DataW.trod enc Tryz.prog W base sp hd n 3 [x2]=some y2:=h2
  replace h3:DataW.trod enc Tryz.prog W base sp hd n 26 (r.take 17)=some y3:=h3
  replace h4:DataW.trod enc Tryz.prog W base sp hd n 26 ((r.drop 17).take 17)=some y4:=h4
  obtain⟨a,e0,_,hw⟩:=DataW.trod_int Tryz.underlying5 h0
  obtain⟨b,e1,_⟩:=DataW.trod_bool Tryz.underlying4 h1
  obtain⟨c,e2,_⟩:=DataW.trod_int Tryz.underlying3 h2
  simp only[List.cons.injEq,and_true]at e0 e1 e2
  subst e0;subst e1;subst e2
  obtain⟨c1,v1,s1,f1,r1⟩:=open_treeL (by simp;omega) h3
  obtain⟨c2,v2,s2,f2,r2⟩:=open_treeL (by simp;omega) h4
  have hr:=wf_u8_range hw
  obtain⟨kd,rfl⟩:=Int.eq_ofNat_of_zero_le hr.1
  refine⟨kd,b,c,c1,c2,v1,v2,s1,s2,?_,by omega,r1,r2⟩
  have hd2:(r.drop 17).take 17=r.drop 17:=List.take_of_length_le (by simp;omega)
  rw[hd2]at f2
  unfold blkI
  rw[←f1,←f2,List.take_append_drop]
end Go.Proofs.YtgokdgcmkcmjeaaGreat
