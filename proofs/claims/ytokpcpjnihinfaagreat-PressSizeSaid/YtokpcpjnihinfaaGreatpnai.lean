/-
  Words and walks.
-/
import Derived.Laws.StructEq
import Derived.Test.YtokpcpjnihinfaaGreatpnaa
import Derived.Test.YtokpcpjnihinfaaGreatpnab
import Derived.Test.YtokpcpjnihinfaaGreatpnah
set_option maxRecDepth 100000
set_option maxHeartbeats 16000000
namespace Go.Proofs.YtokpcpjnihinfaaGreat
open Go.RowKit Go.ChangeShapes Go.WideShapes Go.ChangeAt Go.Joins
theorem undSty12:Tryz.prog.underlying 27=some (.struct (Tryz.prog.fieldsOf 27)):=by kernel_rfl
theorem heldSty12:Tryz.prog.stoodInHeld 27=false:=by kernel_rfl
theorem fieldsSty12:(Tryz.prog.fieldsOf 27).toList.map (fun f=>(f.type,f.offset,f.name== "_"))=[(3,0,false),(3,1,false),(3,2,false),(4,3,false)]:=by kernel_rfl
def sameS(s h m:Int)(z:Bool)(s' h' m':Int)(z':Bool):Bool:=decide (s=s'∧h=h'∧m=m'∧z=z')
theorem run_eq_sty12(w:World)(s h m:Int)(z:Bool)(s' h' m':Int)(z':Bool):(Op.equalIn 10000 27 (.agg #[.int .i64 s,.int .i64 h,.int .i64 m,.bool z]) (.agg #[.int .i64 s',.int .i64 h',.int .i64 m',.bool z'])).run Tryz.prog w=.ok (sameS s h m z s' h' m' z') w:=by
 rw[run_equalIn_struct w 9999 _ _ _ undSty12 heldSty12]
 have hf:=fieldsSty12
 obtain⟨fs,hfs⟩:∃fs,fs=(Tryz.prog.fieldsOf 27).toList:=⟨_,rfl⟩
 rw[←hfs]at hf⊢
 clear hfs
 have hl:fs.length=4:=by have:=congrArg List.length hf;simpa using this
 match fs,hl,hf with
 |[f0,f1,f2,f3],_,hf=>
  simp at hf
  obtain⟨⟨a1,a2,a3⟩,⟨b1,b2,b3⟩,⟨c1,c2,c3⟩,⟨d1,d2,d3⟩⟩:=hf
  unfold sameS
  by_cases e1:s=s'<;>by_cases e2:h=h'<;>by_cases e3:m=m'<;>by_cases e4:z=z'<;>
   simp[Op.eqFields,a1,a2,a3,b1,b2,b3,c1,c2,c3,d1,d2,d3,go_sem,Tryz.underlying4,Tryz.underlying3,e1,e2,e3,e4]
theorem wpList_bin{P:Program}{w:World}{ops:Array Oper}{rest:List Oper}{o:Oper}{a:Act}{Q:Exit→Act→World→Prop}(hgd:o.guard=none)(b:BinOp)(t t':TypeId)(x y:Operand)(ho:o.op=.binOp b t x y t')(u z v:Value)(hx:a.eval x=u)(hy:a.eval y=z)(hg:(eqGuard b t x y u z).run P w=.ok () w)(hr:(binOp b t u z).run P w=.ok v w)(h:wpList P ops Q rest (a.put o.dst v) w):wpList P ops Q (o::rest) a w:=by
 refine wpList_plain hgd fun K hK=>?_
 unfold Oper.wp
 have:(execOp a.eval o).run P w=.ok (.value v) w:=by unfold execOp;simp only[ho,hx,hy,Sem.run_bind,hg,hr,Result.andThen_ok];rfl
 rw[this]
 exact hK _ _ h
theorem guard_sty12(w:World)(x y:Operand)(u v:Array Value):(eqGuard .eql 27 x y (.agg u) (.agg v)).run Tryz.prog w=.ok () w:=by
 unfold eqGuard
 simp[go_sem]
theorem eql_sty12(w:World)(s h m:Int)(z:Bool)(s' h' m':Int)(z':Bool)(b:Bool)(e:sameS s h m z s' h' m' z'=b):(binOp .eql 27 (.agg #[.int .i64 s,.int .i64 h,.int .i64 m,.bool z]) (.agg #[.int .i64 s',.int .i64 h',.int .i64 m',.bool z'])).run Tryz.prog w=.ok (.bool b) w:=by
 rw[run_eql_struct,run_eq_sty12,e];rfl
def sameP(a b:Prs):Bool:=sameS a.s a.h a.m a.z b.s b.h b.m b.z&&(a.over==b.over)&&samePen a.pen a.k b.pen b.k&&decide (a.hist=b.hist)&&decide (a.wait=b.wait)
end Go.Proofs.YtokpcpjnihinfaaGreat
