/-
  Words and walks.
-/
import Derived.Test.YtcmpmighjglnpaaGreattaax
set_option maxRecDepth 100000
set_option maxHeartbeats 16000000
namespace Go.Proofs.YtcmpmighjglnpaaGreat
theorem al_e1:(feedM (begM 9) [75,4]).err=0:=by kernel_rfl
theorem al_o1:(feedM (begM 9) [75,4]).out=[97]:=by kernel_rfl
theorem al_v1:(feedM (begM 9) [75,4]).over=false:=by kernel_rfl
theorem al_e2:(feedM (begM 9) ([75,4]++[0,255])).err=0:=by kernel_rfl
theorem al_o2:(feedM (begM 9) ([75,4]++[0,255])).out=[97]:=by kernel_rfl
theorem al_v2:(feedM (begM 9) ([75,4]++[0,255])).over=true:=by kernel_rfl
theorem al_a2:((feedM (begM 9) ([75,4]++[0,255])).at_+7)/8=3:=by kernel_rfl
theorem al_two:let y:=nextM (begM 9) [75,4] (feedM (begM 9) [75,4]);let r:=feedM y [0,255];r.err=0∧r.out=[]∧r.over=true∧usedM y [0,255] r=1:=by
 have h:=(feed_two (begM_good (by decide:(9:Nat)≤131072)) [75,4] [0,255]).2.2 al_e1 al_v1
 dsimp only at h⊢
 obtain⟨h1,h2⟩:=h
 rw[al_e2]at h1
 obtain⟨_,h4,_,_,h7,_,h9⟩:=h2 h1.symm
 rw[al_o2,al_o1]at h7
 rw[al_v2]at h4
 refine⟨h1.symm,?_,h4.symm,?_⟩
 ·have:=congrArg List.length h7
  simp at this
  exact this
 ·unfold usedM at h9
  rw[al_v2,if_pos rfl,al_a2]at h9
  unfold usedM
  have e:(begM 9).inn.length=0:=rfl
  rw[e]at h9
  have e2:([75,4]:List Nat).length=2:=rfl
  rw[e2]at h9
  omega
end Go.Proofs.YtcmpmighjglnpaaGreat
