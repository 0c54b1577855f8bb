import Derived.Test.YtcclgodahlinbaaGreatDoorA14
namespace Go.Proofs.YtcclgodahlinbaaGreatDoor
set_option maxHeartbeats 16000000
open Tryz Go.RowKit Go
set_option maxRecDepth 100000
theorem jb (f c:Int) (w:World):Calls prog 105 #[.int .i64 f,.int .i64 c] w fun e w'=>e= .returned (.bool (numOk f c))/\w=w':=by
 by_cases t1:c<0
 ·rw [show numOk f c=false by rw [Bool.eq_false_iff];intro h;rw [zH] at h;omega]
  go_enter func105,ntmps105
  go_wp2
  go_ret
  exact ⟨rfl,rfl⟩
 ·by_cases t2:100000<c
  ·rw [show numOk f c=false by rw [Bool.eq_false_iff];intro h;rw [zH] at h;omega]
   go_enter func105,ntmps105
   go_wp2
   go_ret
   exact ⟨rfl,rfl⟩
  ·by_cases t3:100000<f
   ·rw [show numOk f c=false by rw [Bool.eq_false_iff];intro h;rw [zH] at h;omega]
    go_enter func105,ntmps105
    go_wp2
    go_ret
    exact ⟨rfl,rfl⟩
   ·by_cases t4:min c 1<=f
    ·rw [show numOk f c=true by rw [zH];omega]
     go_enter func105,ntmps105
     go_wp2
     go_ret
     exact ⟨rfl,rfl⟩
    ·rw [show numOk f c=false by rw [Bool.eq_false_iff];intro h;rw [zH] at h;omega]
     go_enter func105,ntmps105
     go_wp2
     go_ret
     exact ⟨rfl,rfl⟩
theorem jr (f c:Int) (w:World) (h:numOk f c=true):Calls prog 59 #[.int .i64 f,.int .i64 c] w fun e w'=>e= .returned (.int .i64 (placeI f c))/\w=w':=by
 rw [zH] at h
 unfold placeI
 by_cases hc:c=0
 ·subst hc
  rw [if_neg (by omega)]
  go_enter func59,ntmps59
  go_wp2
  go_ret
  exact ⟨rfl,rfl⟩
 ·rw [if_pos (by omega)]
  have t1:(c==0)=false:=by rw [beq_eq_false_iff_ne];exact hc
  go_enter func59,ntmps59
  go_wp2
  go_ret
  exact ⟨rfl,rfl⟩
theorem WZ {h:HI} {en gr:Int} (n:numOk h.fr h.fc=false):fitsI h en gr=false:=by unfold fitsI;rw [n];rfl
theorem VB {h:HI} {en gr:Int} (n:numOk h.tr h.tc=false):fitsI h en gr=false:=by unfold fitsI;rw [n];simp
theorem Ub {h:HI} {en gr:Int} (n:placeI h.fr h.fc<en):fitsI h en gr=false:=by unfold fitsI;rw [show decide (en<=placeI h.fr h.fc)=false from decide_eq_false (by omega)];simp
theorem Ue {h:HI} {en gr:Int} (n:placeI h.tr h.tc≠placeI h.fr h.fc+gr):fitsI h en gr=false:=by unfold fitsI;rw [show decide (placeI h.tr h.tc=placeI h.fr h.fc+gr)=false from decide_eq_false n];simp
theorem Ec {S:Nat} {en gr:Int} (h:HI) (a:Option Addr) (n cap:Nat) (w:World) (hS:w.heap[S]? =some (.cells #[.int .i64 en,.int .i64 gr] 84 (0,0))) (hg1: -1000000000000<=gr) (hg2:gr<=1000000000000):
 Calls prog 68 #[.pointer (some ⟨S,0,none⟩),qn h (.slice a n cap)] w fun e w'=>
  e= .returned (.bool (fitsI h en gr))/\(fitsI h en gr=true->w'.heap[S]? =some (.cells #[.int .i64 (placeI h.fr h.fc+h.fc),.int .i64 (gr+h.tc-h.fc)] 84 (0,0)))/\w.grownBy w' (some S):=by
 have c0:w.cell? ⟨S,0,none⟩=some (.int .i64 en):=za (k:=0) hS rfl
 have c1:w.cell? ⟨S,1,none⟩=some (.int .i64 gr):=za (k:=1) hS rfl
 have z: ∀k,w.frozen? ⟨S,k,none⟩=false:=fun k=>zi (k:=k) hS
 have hSw:S<w.heap.size:=(Array.getElem?_eq_some_iff.1 hS).1
 have m1:=fun w=>jb h.fr h.fc w
 have m2:=fun w=>jb h.tr h.tc w
 cases n1:numOk h.fr h.fc with
 | false=>
   rw [WZ n1]
   rw [n1] at m1
   clear n1 m2
   go_enter func68,ntmps68
   go_wp2_with (go_at_call 105;refine (m1 _).mono ?_;rintro e w' ⟨rfl,rfl⟩)
   go_ret
   exact ⟨rfl,fun h=>(by cases h),World.grownBy_alloc w _ (some S)⟩
 | true=>
   cases n2:numOk h.tr h.tc with
   | false=>
     rw [VB n2]
     rw [n1] at m1
     rw [n2] at m2
     clear n1 n2
     go_enter func68,ntmps68
     go_wp2_with (first | (go_at_call 105;refine (m1 _).mono ?_;clear m1;rintro e w' ⟨rfl,rfl⟩) | (go_at_call 105;refine (m2 _).mono ?_;rintro e w' ⟨rfl,rfl⟩))
     go_ret
     exact ⟨rfl,fun h=>(by cases h),World.grownBy_alloc w _ (some S)⟩
   | true=>
     have p1:=fun w=>jr h.fr h.fc w n1
     have p2:Hid (∀ob n,Calls prog 59 #[.int .i64 h.tr,.int .i64 h.tc] ((w.alloc ob).drewN n) fun e w''=>e= .returned (.int .i64 (placeI h.tr h.tc))/\ ∃k,w''=(w.alloc ob).drewN k):=
      fun ob n=>(jr h.tr h.tc _ n2).mono fun _ _ ⟨he,hm⟩=>⟨he,n,hm.symm⟩
     obtain ⟨r1,r2⟩:=xE n1
     have hN1:=zH.1 n1
     have hN2:=zH.1 n2
     have b1:0<=h.fc/\h.fc<=100000:=⟨hN1.2.2.1,hN1.2.2.2.1⟩
     have b2:0<=h.tc/\h.tc<=100000:=⟨hN2.2.2.1,hN2.2.2.2.1⟩
     clear hN1 hN2
     have q3:=fun n=>Ub (h:=h) (en:=en) (gr:=gr) n
     have q4:=fun n=>Ue (h:=h) (en:=en) (gr:=gr) n
     have q5:en<=placeI h.fr h.fc->placeI h.tr h.tc=placeI h.fr h.fc+gr->fitsI h en gr=true:=fun x y=>qj.2 ⟨n1,n2,x,y⟩
     rw [n1] at m1
     rw [n2] at m2
     generalize placeI h.fr h.fc=PL at *
     generalize placeI h.tr h.tc=PT at *
     clear n1 n2
     by_cases hc:PL<en
     ·have f7'':decide (PL<en)=true:=decide_eq_true hc
      rw [q3 hc]
      clear q3 q4 q5
      go_enter func68,ntmps68
      go_wp2_with (first | (go_at_call 105;refine (m1 _).mono ?_;clear m1;rintro e w' ⟨rfl,rfl⟩) | (go_at_call 105;refine (m2 _).mono ?_;rintro e w' ⟨rfl,rfl⟩) | (go_at_call 59;refine (p1 _).mono ?_;rintro e w' ⟨rfl,rfl⟩))
      have w1:IntKind.i64.wrap (PL+gr)=PL+gr:=by rw [IntKind.wrap_i64];omega
      go_quiet ((go_at_call 59;exact p2.out _ _))
      go_wp2_with fail
      go_ret
      exact ⟨rfl,fun h=>(by cases h),yT (World.grownBy_alloc w _ (some S))⟩
     ·have f7'':decide (PL<en)=false:=decide_eq_false hc
      by_cases f8:PT=PL+gr
      ·have f8':(PT==PL+gr)=true:=by simp [f8]
       have f8'':(PT !=PL+gr)=false:=by simp [f8]
       rw [q5 (by omega) f8]
       clear f8 q3 q4 q5
       go_enter func68,ntmps68
       go_wp2_with (first | (go_at_call 105;refine (m1 _).mono ?_;clear m1;rintro e w' ⟨rfl,rfl⟩) | (go_at_call 105;refine (m2 _).mono ?_;rintro e w' ⟨rfl,rfl⟩) | (go_at_call 59;refine (p1 _).mono ?_;rintro e w' ⟨rfl,rfl⟩))
       have w1:IntKind.i64.wrap (PL+gr)=PL+gr:=by rw [IntKind.wrap_i64];omega
       have w2:IntKind.i64.wrap (h.tc-h.fc)=h.tc-h.fc:=by rw [IntKind.wrap_i64];omega
       have w3:IntKind.i64.wrap (gr+(h.tc-h.fc))=gr+(h.tc-h.fc):=by rw [IntKind.wrap_i64];omega
       go_quiet ((go_at_call 59;exact p2.out _ _))
       go_wp2_with fail
       refine zK 12 yg (by kernel_rfl) ?_
       simp only [List.take_succ_cons,List.take_zero,List.drop_succ_cons,List.drop_zero]
       repeat still_step
       refine wpStill_nil ?_
       go_wp2_with fail
       go_ret
       refine ⟨rfl,fun _=> ?_,?_⟩
       ·have e2:gr+h.tc-h.fc=gr+(h.tc-h.fc):=by omega
        rw [e2]
        exact zb _ _ _ _ _ _ _ (zb _ _ _ _ _ _ _ ((Below.heap_alloc w _ S hSw).trans hS))
       ·exact YJ (zh (zh (yT (World.grownBy_alloc w _ (some S))) (zc _ _ _ _)) (zc _ _ _ _))
      ·have f8':(PT==PL+gr)=false:=by simpa using f8
       have f8'':(PT !=PL+gr)=true:=by simpa using f8
       rw [q4 f8]
       clear f8 q3 q4 q5
       go_enter func68,ntmps68
       go_wp2_with (first | (go_at_call 105;refine (m1 _).mono ?_;clear m1;rintro e w' ⟨rfl,rfl⟩) | (go_at_call 105;refine (m2 _).mono ?_;rintro e w' ⟨rfl,rfl⟩) | (go_at_call 59;refine (p1 _).mono ?_;rintro e w' ⟨rfl,rfl⟩))
       have w1:IntKind.i64.wrap (PL+gr)=PL+gr:=by rw [IntKind.wrap_i64];omega
       go_quiet ((go_at_call 59;exact p2.out _ _))
       go_wp2_with fail
       go_ret
       exact ⟨rfl,fun h=>(by cases h),yT (World.grownBy_alloc w _ (some S))⟩
theorem JP {S:Nat} {en gr:Int} {vh vf vt vb:Value} (h:HI) (a:Option Addr) (n cap:Nat) (w:World) (hS:w.heap[S]? =some (.cells #[vh,.int .i64 en,.int .i64 gr,vf,vt,vb] 88 (0,0))) (hg1: -1000000000000<=gr) (hg2:gr<=1000000000000):
 Calls prog 68 #[.pointer (some ⟨S,1,none⟩),qn h (.slice a n cap)] w fun e w'=>
  e= .returned (.bool (fitsI h en gr))/\(fitsI h en gr=true->w'.heap[S]? =some (.cells #[vh,.int .i64 (placeI h.fr h.fc+h.fc),.int .i64 (gr+h.tc-h.fc),vf,vt,vb] 88 (0,0)))/\w.grownBy w' (some S):=by
 have c0:w.cell? ⟨S,1,none⟩=some (.int .i64 en):=za (k:=1) hS rfl
 have c1:w.cell? ⟨S,2,none⟩=some (.int .i64 gr):=za (k:=2) hS rfl
 have z: ∀k,w.frozen? ⟨S,k,none⟩=false:=fun k=>zi (k:=k) hS
 have hSw:S<w.heap.size:=(Array.getElem?_eq_some_iff.1 hS).1
 have m1:=fun w=>jb h.fr h.fc w
 have m2:=fun w=>jb h.tr h.tc w
 cases n1:numOk h.fr h.fc with
 | false=>
   rw [WZ n1]
   rw [n1] at m1
   clear n1 m2
   go_enter func68,ntmps68
   go_wp2_with (go_at_call 105;refine (m1 _).mono ?_;rintro e w' ⟨rfl,rfl⟩)
   go_ret
   exact ⟨rfl,fun h=>(by cases h),World.grownBy_alloc w _ (some S)⟩
 | true=>
   cases n2:numOk h.tr h.tc with
   | false=>
     rw [VB n2]
     rw [n1] at m1
     rw [n2] at m2
     clear n1 n2
     go_enter func68,ntmps68
     go_wp2_with (first | (go_at_call 105;refine (m1 _).mono ?_;clear m1;rintro e w' ⟨rfl,rfl⟩) | (go_at_call 105;refine (m2 _).mono ?_;rintro e w' ⟨rfl,rfl⟩))
     go_ret
     exact ⟨rfl,fun h=>(by cases h),World.grownBy_alloc w _ (some S)⟩
   | true=>
     have p1:=fun w=>jr h.fr h.fc w n1
     have p2:Hid (∀ob n,Calls prog 59 #[.int .i64 h.tr,.int .i64 h.tc] ((w.alloc ob).drewN n) fun e w''=>e= .returned (.int .i64 (placeI h.tr h.tc))/\ ∃k,w''=(w.alloc ob).drewN k):=
      fun ob n=>(jr h.tr h.tc _ n2).mono fun _ _ ⟨he,hm⟩=>⟨he,n,hm.symm⟩
     obtain ⟨r1,r2⟩:=xE n1
     have hN1:=zH.1 n1
     have hN2:=zH.1 n2
     have b1:0<=h.fc/\h.fc<=100000:=⟨hN1.2.2.1,hN1.2.2.2.1⟩
     have b2:0<=h.tc/\h.tc<=100000:=⟨hN2.2.2.1,hN2.2.2.2.1⟩
     clear hN1 hN2
     have q3:=fun n=>Ub (h:=h) (en:=en) (gr:=gr) n
     have q4:=fun n=>Ue (h:=h) (en:=en) (gr:=gr) n
     have q5:en<=placeI h.fr h.fc->placeI h.tr h.tc=placeI h.fr h.fc+gr->fitsI h en gr=true:=fun x y=>qj.2 ⟨n1,n2,x,y⟩
     rw [n1] at m1
     rw [n2] at m2
     generalize placeI h.fr h.fc=PL at *
     generalize placeI h.tr h.tc=PT at *
     clear n1 n2
     by_cases hc:PL<en
     ·have f7'':decide (PL<en)=true:=decide_eq_true hc
      rw [q3 hc]
      clear q3 q4 q5
      go_enter func68,ntmps68
      go_wp2_with (first | (go_at_call 105;refine (m1 _).mono ?_;clear m1;rintro e w' ⟨rfl,rfl⟩) | (go_at_call 105;refine (m2 _).mono ?_;rintro e w' ⟨rfl,rfl⟩) | (go_at_call 59;refine (p1 _).mono ?_;rintro e w' ⟨rfl,rfl⟩))
      have w1:IntKind.i64.wrap (PL+gr)=PL+gr:=by rw [IntKind.wrap_i64];omega
      go_quiet ((go_at_call 59;exact p2.out _ _))
      go_wp2_with fail
      go_ret
      exact ⟨rfl,fun h=>(by cases h),yT (World.grownBy_alloc w _ (some S))⟩
     ·have f7'':decide (PL<en)=false:=decide_eq_false hc
      by_cases f8:PT=PL+gr
      ·have f8':(PT==PL+gr)=true:=by simp [f8]
       have f8'':(PT !=PL+gr)=false:=by simp [f8]
       rw [q5 (by omega) f8]
       clear f8 q3 q4 q5
       go_enter func68,ntmps68
       go_wp2_with (first | (go_at_call 105;refine (m1 _).mono ?_;clear m1;rintro e w' ⟨rfl,rfl⟩) | (go_at_call 105;refine (m2 _).mono ?_;rintro e w' ⟨rfl,rfl⟩) | (go_at_call 59;refine (p1 _).mono ?_;rintro e w' ⟨rfl,rfl⟩))
       have w1:IntKind.i64.wrap (PL+gr)=PL+gr:=by rw [IntKind.wrap_i64];omega
       have w2:IntKind.i64.wrap (h.tc-h.fc)=h.tc-h.fc:=by rw [IntKind.wrap_i64];omega
       have w3:IntKind.i64.wrap (gr+(h.tc-h.fc))=gr+(h.tc-h.fc):=by rw [IntKind.wrap_i64];omega
       go_quiet ((go_at_call 59;exact p2.out _ _))
       go_wp2_with fail
       refine zK 12 yg (by kernel_rfl) ?_
       simp only [List.take_succ_cons,List.take_zero,List.drop_succ_cons,List.drop_zero]
       repeat still_step
       refine wpStill_nil ?_
       go_wp2_with fail
       go_ret
       refine ⟨rfl,fun _=> ?_,?_⟩
       ·have e2:gr+h.tc-h.fc=gr+(h.tc-h.fc):=by omega
        rw [e2]
        exact zb _ _ _ _ _ _ _ (zb _ _ _ _ _ _ _ ((Below.heap_alloc w _ S hSw).trans hS))
       ·exact YJ (zh (zh (yT (World.grownBy_alloc w _ (some S))) (zc _ _ _ _)) (zc _ _ _ _))
      ·have f8':(PT==PL+gr)=false:=by simpa using f8
       have f8'':(PT !=PL+gr)=true:=by simpa using f8
       rw [q4 f8]
       clear f8 q3 q4 q5
       go_enter func68,ntmps68
       go_wp2_with (first | (go_at_call 105;refine (m1 _).mono ?_;clear m1;rintro e w' ⟨rfl,rfl⟩) | (go_at_call 105;refine (m2 _).mono ?_;rintro e w' ⟨rfl,rfl⟩) | (go_at_call 59;refine (p1 _).mono ?_;rintro e w' ⟨rfl,rfl⟩))
       have w1:IntKind.i64.wrap (PL+gr)=PL+gr:=by rw [IntKind.wrap_i64];omega
       go_quiet ((go_at_call 59;exact p2.out _ _))
       go_wp2_with fail
       go_ret
       exact ⟨rfl,fun h=>(by cases h),yT (World.grownBy_alloc w _ (some S))⟩
theorem Gd (h:HI) (a:Option Addr) (n cap:Nat) (w:World):Calls prog 106 #[qn h (.slice a n cap)] w fun e w'=>
 e= .returned (.agg #[.int .i64 h.fc,.int .i64 h.tc,.bool false])/\Below w.heap.size w w':=by
 go_enter func106,ntmps106
 go_wp2
 refine bodyPost_ret (v:= .agg #[.int .i64 h.fc,.int .i64 h.tc,.bool false]) (by simp [results,results106,go_sem]) rfl ⟨rfl,?_⟩
 exact ((Below.refl _ _).alloc (Nat.le_refl _) _).alloc (by simp) _
def kF (k:Nat):Int:=if k=43 then 0 else 1
def kT (k:Nat):Int:=if k=45 then 0 else 1
def zF (k:Nat) (f t:Int):Bool:=yn k && decide (0<=f-kF k) && decide (0<=t-kT k)
theorem Jz {R k:Nat} {f t:Int} {b:Bool} (w:World) (hR:w.heap[R]? =some (.cells #[.int .i64 f,.int .i64 t,.bool b] 86 (0,0))) (hk:k<256) (hf0:0<=f) (ht0:0<=t) (hf2:f<=1000000) (ht2:t<=1000000):
 Calls prog 78 #[.pointer (some ⟨R,0,none⟩),.int .u8 (k:Nat)] w fun e w'=>
  e= .returned (.bool (zF k f t))/\(zF k f t=true->w'.heap[R]? =some (.cells #[.int .i64 (f-kF k),.int .i64 (t-kT k),.bool (b || k !=32)] 86 (0,0)))/\w.grownBy w' (some R):=by
 have c0:w.cell? ⟨R,0,none⟩=some (.int .i64 f):=za (k:=0) hR rfl
 have c1:w.cell? ⟨R,1,none⟩=some (.int .i64 t):=za (k:=1) hR rfl
 have c2:w.cell? ⟨R,2,none⟩=some (.bool b):=za (k:=2) hR rfl
 have z: ∀k,w.frozen? ⟨R,k,none⟩=false:=fun k=>zi (k:=k) hR
 by_cases k1:k=32
 ·subst k1
  have e1:f-kF 32=f-1:=rfl
  have e2:t-kT 32=t-1:=rfl
  rw [e1,e2]
  by_cases g1:1<=f
  ·by_cases g2:1<=t
   ·rw [show zF 32 f t=true by simp [zF,yn,kF,kT];omega]
    have g3:0<=f-1:=by omega
    have g4:0<=t-1:=by omega
    cases b
    ·go_enter func78,ntmps78
     go_wp2
     go_ret
     exact ⟨rfl,fun _=>(zb _ _ _ _ _ _ _ (zb _ _ _ _ _ _ _ (zb _ _ _ _ _ _ _ hR))),(zh (zh (zc _ _ _ _) (zc _ _ _ _)) (zc _ _ _ _))⟩
    ·go_enter func78,ntmps78
     go_wp2
     go_ret
     exact ⟨rfl,fun _=>(zb _ _ _ _ _ _ _ (zb _ _ _ _ _ _ _ (zb _ _ _ _ _ _ _ hR))),(zh (zh (zc _ _ _ _) (zc _ _ _ _)) (zc _ _ _ _))⟩
   ·rw [show zF 32 f t=false by simp [zF,yn,kF,kT];omega]
    have g3:0<=f-1:=by omega
    have g4: ¬0<=t-1:=by omega
    cases b
    ·go_enter func78,ntmps78
     go_wp2
     go_ret
     exact ⟨rfl,(zh (zh (zc _ _ _ _) (zc _ _ _ _)) (zc _ _ _ _))⟩
    ·go_enter func78,ntmps78
     go_wp2
     go_ret
     exact ⟨rfl,(zh (zh (zc _ _ _ _) (zc _ _ _ _)) (zc _ _ _ _))⟩
  ·rw [show zF 32 f t=false by simp [zF,yn,kF,kT];omega]
   have g3: ¬0<=f-1:=by omega
   cases b
   ·go_enter func78,ntmps78
    go_wp2
    go_ret
    exact ⟨rfl,(zh (zh (zc _ _ _ _) (zc _ _ _ _)) (zc _ _ _ _))⟩
   ·go_enter func78,ntmps78
    go_wp2
    go_ret
    exact ⟨rfl,(zh (zh (zc _ _ _ _) (zc _ _ _ _)) (zc _ _ _ _))⟩
 ·by_cases k2:k=45
  ·subst k2
   have e1:f-kF 45=f-1:=rfl
   have e2:t-kT 45=t:=by simp [kT]
   rw [e1,e2]
   by_cases g1:1<=f
   ·rw [show zF 45 f t=true by simp [zF,yn,kF,kT];omega]
    have g3:0<=f-1:=by omega
    cases b
    ·go_enter func78,ntmps78
     go_wp2
     go_ret
     exact ⟨rfl,fun _=>(zb _ _ _ _ _ _ _ (zb _ _ _ _ _ _ _ hR)),(zh (zc _ _ _ _) (zc _ _ _ _))⟩
    ·go_enter func78,ntmps78
     go_wp2
     go_ret
     exact ⟨rfl,fun _=>(zb _ _ _ _ _ _ _ (zb _ _ _ _ _ _ _ hR)),(zh (zc _ _ _ _) (zc _ _ _ _))⟩
   ·rw [show zF 45 f t=false by simp [zF,yn,kF,kT];omega]
    have g3: ¬0<=f-1:=by omega
    cases b
    ·go_enter func78,ntmps78
     go_wp2
     go_ret
     exact ⟨rfl,(zh (zc _ _ _ _) (zc _ _ _ _))⟩
    ·go_enter func78,ntmps78
     go_wp2
     go_ret
     exact ⟨rfl,(zh (zc _ _ _ _) (zc _ _ _ _))⟩
  ·by_cases k3:k=43
   ·subst k3
    have e1:f-kF 43=f:=by simp [kF]
    have e2:t-kT 43=t-1:=rfl
    rw [e1,e2]
    by_cases g1:1<=t
    ·rw [show zF 43 f t=true by simp [zF,yn,kF,kT];omega]
     have g3:0<=t-1:=by omega
     cases b
     ·go_enter func78,ntmps78
      go_wp2
      go_ret
      exact ⟨rfl,fun _=>(zb _ _ _ _ _ _ _ (zb _ _ _ _ _ _ _ hR)),(zh (zc _ _ _ _) (zc _ _ _ _))⟩
     ·go_enter func78,ntmps78
      go_wp2
      go_ret
      exact ⟨rfl,fun _=>(zb _ _ _ _ _ _ _ (zb _ _ _ _ _ _ _ hR)),(zh (zc _ _ _ _) (zc _ _ _ _))⟩
    ·rw [show zF 43 f t=false by simp [zF,yn,kF,kT];omega]
     have g3: ¬0<=t-1:=by omega
     cases b
     ·go_enter func78,ntmps78
      go_wp2
      go_ret
      exact ⟨rfl,(zh (zc _ _ _ _) (zc _ _ _ _))⟩
     ·go_enter func78,ntmps78
      go_wp2
      go_ret
      exact ⟨rfl,(zh (zc _ _ _ _) (zc _ _ _ _))⟩
   ·rw [show zF k f t=false by simp [zF,yn,k1,k2,k3]]
    have x1:((k:Int)==32)=false:=by rw [beq_eq_false_iff_ne];omega
    have x2:((k:Int)==45)=false:=by rw [beq_eq_false_iff_ne];omega
    have x3:((k:Int)==43)=false:=by rw [beq_eq_false_iff_ne];omega
    go_enter func78,ntmps78
    go_wp2
    go_ret
    first | exact ⟨rfl,World.grownBy.refl w _⟩ | exact ⟨rfl,fun h=>(by cases h),World.grownBy.refl w _⟩
theorem JD {R k:Nat} {f t:Int} {b:Bool} {v0 v1 v2:Value} (w:World) (hR:w.heap[R]? =some (.cells #[v0,v1,v2,.int .i64 f,.int .i64 t,.bool b] 88 (0,0))) (hk:k<256) (hf0:0<=f) (ht0:0<=t) (hf2:f<=1000000) (ht2:t<=1000000):
 Calls prog 78 #[.pointer (some ⟨R,3,none⟩),.int .u8 (k:Nat)] w fun e w'=>
  e= .returned (.bool (zF k f t))/\(zF k f t=true->w'.heap[R]? =some (.cells #[v0,v1,v2,.int .i64 (f-kF k),.int .i64 (t-kT k),.bool (b || k !=32)] 88 (0,0)))/\w.grownBy w' (some R):=by
 have c0:w.cell? ⟨R,3,none⟩=some (.int .i64 f):=za (k:=3) hR rfl
 have c1:w.cell? ⟨R,4,none⟩=some (.int .i64 t):=za (k:=4) hR rfl
 have c2:w.cell? ⟨R,5,none⟩=some (.bool b):=za (k:=5) hR rfl
 have z: ∀k,w.frozen? ⟨R,k,none⟩=false:=fun k=>zi (k:=k) hR
 by_cases k1:k=32
 ·subst k1
  have e1:f-kF 32=f-1:=rfl
  have e2:t-kT 32=t-1:=rfl
  rw [e1,e2]
  by_cases g1:1<=f
  ·by_cases g2:1<=t
   ·rw [show zF 32 f t=true by simp [zF,yn,kF,kT];omega]
    have g3:0<=f-1:=by omega
    have g4:0<=t-1:=by omega
    cases b
    ·go_enter func78,ntmps78
     go_wp2
     go_ret
     exact ⟨rfl,fun _=>(zb _ _ _ _ _ _ _ (zb _ _ _ _ _ _ _ (zb _ _ _ _ _ _ _ hR))),(zh (zh (zc _ _ _ _) (zc _ _ _ _)) (zc _ _ _ _))⟩
    ·go_enter func78,ntmps78
     go_wp2
     go_ret
     exact ⟨rfl,fun _=>(zb _ _ _ _ _ _ _ (zb _ _ _ _ _ _ _ (zb _ _ _ _ _ _ _ hR))),(zh (zh (zc _ _ _ _) (zc _ _ _ _)) (zc _ _ _ _))⟩
   ·rw [show zF 32 f t=false by simp [zF,yn,kF,kT];omega]
    have g3:0<=f-1:=by omega
    have g4: ¬0<=t-1:=by omega
    cases b
    ·go_enter func78,ntmps78
     go_wp2
     go_ret
     exact ⟨rfl,(zh (zh (zc _ _ _ _) (zc _ _ _ _)) (zc _ _ _ _))⟩
    ·go_enter func78,ntmps78
     go_wp2
     go_ret
     exact ⟨rfl,(zh (zh (zc _ _ _ _) (zc _ _ _ _)) (zc _ _ _ _))⟩
  ·rw [show zF 32 f t=false by simp [zF,yn,kF,kT];omega]
   have g3: ¬0<=f-1:=by omega
   cases b
   ·go_enter func78,ntmps78
    go_wp2
    go_ret
    exact ⟨rfl,(zh (zh (zc _ _ _ _) (zc _ _ _ _)) (zc _ _ _ _))⟩
   ·go_enter func78,ntmps78
    go_wp2
    go_ret
    exact ⟨rfl,(zh (zh (zc _ _ _ _) (zc _ _ _ _)) (zc _ _ _ _))⟩
 ·by_cases k2:k=45
  ·subst k2
   have e1:f-kF 45=f-1:=rfl
   have e2:t-kT 45=t:=by simp [kT]
   rw [e1,e2]
   by_cases g1:1<=f
   ·rw [show zF 45 f t=true by simp [zF,yn,kF,kT];omega]
    have g3:0<=f-1:=by omega
    cases b
    ·go_enter func78,ntmps78
     go_wp2
     go_ret
     exact ⟨rfl,fun _=>(zb _ _ _ _ _ _ _ (zb _ _ _ _ _ _ _ hR)),(zh (zc _ _ _ _) (zc _ _ _ _))⟩
    ·go_enter func78,ntmps78
     go_wp2
     go_ret
     exact ⟨rfl,fun _=>(zb _ _ _ _ _ _ _ (zb _ _ _ _ _ _ _ hR)),(zh (zc _ _ _ _) (zc _ _ _ _))⟩
   ·rw [show zF 45 f t=false by simp [zF,yn,kF,kT];omega]
    have g3: ¬0<=f-1:=by omega
    cases b
    ·go_enter func78,ntmps78
     go_wp2
     go_ret
     exact ⟨rfl,(zh (zc _ _ _ _) (zc _ _ _ _))⟩
    ·go_enter func78,ntmps78
     go_wp2
     go_ret
     exact ⟨rfl,(zh (zc _ _ _ _) (zc _ _ _ _))⟩
  ·by_cases k3:k=43
   ·subst k3
    have e1:f-kF 43=f:=by simp [kF]
    have e2:t-kT 43=t-1:=rfl
    rw [e1,e2]
    by_cases g1:1<=t
    ·rw [show zF 43 f t=true by simp [zF,yn,kF,kT];omega]
     have g3:0<=t-1:=by omega
     cases b
     ·go_enter func78,ntmps78
      go_wp2
      go_ret
      exact ⟨rfl,fun _=>(zb _ _ _ _ _ _ _ (zb _ _ _ _ _ _ _ hR)),(zh (zc _ _ _ _) (zc _ _ _ _))⟩
     ·go_enter func78,ntmps78
      go_wp2
      go_ret
      exact ⟨rfl,fun _=>(zb _ _ _ _ _ _ _ (zb _ _ _ _ _ _ _ hR)),(zh (zc _ _ _ _) (zc _ _ _ _))⟩
    ·rw [show zF 43 f t=false by simp [zF,yn,kF,kT];omega]
     have g3: ¬0<=t-1:=by omega
     cases b
     ·go_enter func78,ntmps78
      go_wp2
      go_ret
      exact ⟨rfl,(zh (zc _ _ _ _) (zc _ _ _ _))⟩
     ·go_enter func78,ntmps78
      go_wp2
      go_ret
      exact ⟨rfl,(zh (zc _ _ _ _) (zc _ _ _ _))⟩
   ·rw [show zF k f t=false by simp [zF,yn,k1,k2,k3]]
    have x1:((k:Int)==32)=false:=by rw [beq_eq_false_iff_ne];omega
    have x2:((k:Int)==45)=false:=by rw [beq_eq_false_iff_ne];omega
    have x3:((k:Int)==43)=false:=by rw [beq_eq_false_iff_ne];omega
    go_enter func78,ntmps78
    go_wp2
    go_ret
    first | exact ⟨rfl,World.grownBy.refl w _⟩ | exact ⟨rfl,fun h=>(by cases h),World.grownBy.refl w _⟩
theorem Wv (f t:Int) (b:Bool) (w:World):Calls prog 76 #[.agg #[.int .i64 f,.int .i64 t,.bool b]] w fun e w'=>e= .returned (.bool (decide (f=0) && decide (t=0)))/\Below w.heap.size w w':=by
 by_cases hf:f=0
 ·by_cases ht:t=0
  ·subst hf
   subst ht
   go_enter func76,ntmps76
   go_wp2
   go_ret
   exact ⟨rfl,(Below.refl _ _).alloc (Nat.le_refl _) _⟩
  ·rw [show (decide (f=0) && decide (t=0))=false by simp [ht]]
   have h1:(t==0)=false:=by rw [beq_eq_false_iff_ne];exact ht
   subst hf
   go_enter func76,ntmps76
   go_wp2
   go_ret
   exact ⟨rfl,(Below.refl _ _).alloc (Nat.le_refl _) _⟩
 ·rw [show (decide (f=0) && decide (t=0))=false by simp [hf]]
  have h1:(f==0)=false:=by rw [beq_eq_false_iff_ne];exact hf
  go_enter func76,ntmps76
  go_wp2
  go_ret
  exact ⟨rfl,(Below.refl _ _).alloc (Nat.le_refl _) _⟩
theorem Dr (f t:Int) (b:Bool) (w:World):Calls prog 80 #[.agg #[.int .i64 f,.int .i64 t,.bool b]] w fun e w'=>e= .returned (.bool (decide (f=0) && decide (t=0) && b))/\Below w.heap.size w w':=by
 have hf:=Wv f t b (w.alloc (.cells #[.int .i64 f,.int .i64 t,.bool b] 86))
 generalize (decide (f=0) && decide (t=0))=q at *
 cases q
 ·go_enter func80,ntmps80
  go_wp2_with (go_at_call 76;refine hf.mono ?_;rintro e w' ⟨rfl,hb⟩)
  go_ret
  exact ⟨rfl,((Below.refl _ _).alloc (Nat.le_refl _) _).trans (hb.mono (by simp))⟩
 ·go_enter func80,ntmps80
  go_wp2_with (go_at_call 76;refine hf.mono ?_;rintro e w' ⟨rfl,hb⟩;have c2:w'.cell? ⟨w.heap.size,2,none⟩=some (.bool b):=(hb.cell (p:=⟨w.heap.size,2,none⟩) (by simp)).trans (za (heap_alloc_new w _) rfl))
  go_ret
  exact ⟨by cases b<;>rfl,((Below.refl _ _).alloc (Nat.le_refl _) _).trans (hb.mono (by simp))⟩
end Go.Proofs.YtcclgodahlinbaaGreatDoor
