/-
  Words and walks.
-/
import Derived.BigQuiet
import Derived.IntWalk
import Derived.Deep.RegionHeld3
import Derived.Test.YtcmpmighjglnpaaGreattaaf
set_option maxRecDepth 100000
set_option maxHeartbeats 16000000
namespace Go.Proofs.YtcmpmighjglnpaaGreat
open Go.RowKit
theorem checkE_congr{f g:Nat→Nat}{n:Nat}(most:Int)(h:∀j,j<n→f j=g j):checkE f n most=checkE g n most:=by
 have hall:∀k,k≤n→allN f k=allN g k∧usedN f k=usedN g k:=by
  intro k
  induction k with
  |zero=>intro _;exact⟨rfl,rfl⟩
  |succ k ih=>
   intro hk
   have:=ih (by omega)
   simp only[allN,usedN,h k (by omega),this.1,this.2]
   exact⟨trivial,trivial⟩
 have hb:bigB f n most=bigB g n most:=by
  unfold bigB
  rw[decide_eq_decide]
  constructor
  ·rintro⟨j,hj,hl⟩;exact⟨j,hj,by rw[←h j hj];exact hl⟩
  ·rintro⟨j,hj,hl⟩;exact⟨j,hj,by rw[h j hj];exact hl⟩
 unfold checkE
 rw[hb,(hall n (Nat.le_refl _)).1,(hall n (Nat.le_refl _)).2]
theorem tcN_congr{f g:Nat→Nat}(m:Nat):∀n,(∀j,j<n→f j=g j)→tcN f m n=tcN g m n
 |0,_=>rfl
 |n+1,h=>by simp only[tcN];rw[tcN_congr m n (fun j hj=>h j (by omega)),h n (by omega)]
theorem rowM_congr{f g:Nat→Nat}(m:Nat):∀n,(∀j,j<n→f j=g j)→rowM f m n=rowM g m n
 |0,_=>rfl
 |n+1,h=>by simp only[rowM];rw[rowM_congr m n (fun j hj=>h j (by omega)),h n (by omega)]
theorem symL_congr{f g:Nat→Nat}(n:Nat)(h:∀j,j<n→f j=g j):∀M,symL f n M=symL g n M
 |0=>rfl
 |M+1=>by simp only[symL];rw[symL_congr n h M,rowM_congr (M+1) n h]
def cutFt(u:Nat→Nat)(j:Nat):Nat:=if j<320 then u j else 0
theorem cutF_in{u:Nat→Nat}{j:Nat}(h:j<320):cutFt u j=u j:=by unfold cutFt;rw[if_pos h]
theorem tests_tree{c:Nat→Int}{s:List Int}{u:Nat→Nat}(h1:checkE u 320 15=0)(h2:sameT (fun m=>(tcN u m 320:Int)) c (natsI (symL u 320 15)) s=true):IsTree c s (cutFt u):=by
 have he:∀j,j<320→u j=cutFt u j:=fun j hj=>(cutF_in hj).symm
 unfold sameT at h2
 rw[Bool.and_eq_true,sameC_iff]at h2
 refine⟨by rw[←checkE_congr 15 he];exact h1,fun j hj=>by unfold cutFt;rw[if_neg (by omega)],fun m hm=>?_,?_⟩
 ·rw[←h2.1 m hm,tcN_congr m 320 he]
 ·rw[←symL_congr 320 he];exact(of_decide_eq_true h2.2).symm
end Go.Proofs.YtcmpmighjglnpaaGreat
