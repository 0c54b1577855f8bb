import Derived.Test.YtcclgodahlinbaaGreatDoorA02
import Derived.StillTailTactics
namespace Go.Proofs.YtcclgodahlinbaaGreatDoor
set_option maxHeartbeats 16000000
open Tryz Go.RowKit Go
set_option maxRecDepth 100000
theorem Jl (n:Nat): ∀(k k':Nat) (l:List Dn.Spot) (i:Nat),n<=k+i->n<=k'+i->Dn.YN k l i n=Dn.YN k' l i n:=by
 intro k
 induction k with
 | zero=>
   intro k' l i h h'
   cases k' with
   | zero=>rfl
   | succ k'=>unfold Dn.YN;rw [if_pos (by omega)]
 | succ k ih=>
   intro k' l i h h'
   cases k' with
   | zero=>unfold Dn.YN;rw [if_pos (by omega)]
   | succ k'=>
     unfold Dn.YN
     split
     ·rfl
     ·split
      ·rfl
      ·have:=Dn.QP l i n
       exact ih k' _ _ (by omega) (by omega)
theorem Xn {n:Nat} {l:List Dn.Spot} {i c:Nat} (h:2*i+1<n) (hc:Dn.downJ l i n=c) (hl:Dn.Spot.less (Dn.gt l c) (Dn.gt l i)=false):Dn.YN n l i n=l:=by
 obtain ⟨k,rfl⟩: ∃k,n=k+1:=⟨n-1,by omega⟩
 rw [Dn.YN,if_neg (by omega),hc,if_pos hl]
theorem KR {n:Nat} {l:List Dn.Spot} {i c:Nat} (h:2*i+1<n) (hc:Dn.downJ l i n=c) (hl:Dn.Spot.less (Dn.gt l c) (Dn.gt l i)=true):Dn.YN n l i n=Dn.YN n (Dn.XK l i c) c n:=by
 have hgt:=Dn.QP l i n
 obtain ⟨k,rfl⟩: ∃k,n=k+1:=⟨n-1,by omega⟩
 rw [Dn.YN,if_neg (by omega),hc,if_neg (by rw [hl];simp)]
 exact Jl _ _ _ _ _ (by omega) (by omega)
theorem Dh {n:Nat} {l:List Dn.Spot} {i:Nat} (h:n<=2*i+1):Dn.YN n l i n=l:=by
 cases n with
 | zero=>rfl
 | succ n=>rw [Dn.YN,if_pos h]
theorem Fs {n:Nat} {l:List Dn.Spot} {i:Nat} (h:2*i+2<n) (hl:Dn.Spot.less (Dn.gt l (2*i+2)) (Dn.gt l (2*i+1))=true):Dn.downJ l i n=2*i+2:=by
 unfold Dn.downJ;rw [if_pos ⟨h,hl⟩]
theorem FQ {n:Nat} {l:List Dn.Spot} {i:Nat} (hl:Dn.Spot.less (Dn.gt l (2*i+2)) (Dn.gt l (2*i+1))=false):Dn.downJ l i n=2*i+1:=by
 unfold Dn.downJ;rw [if_neg (fun h=>by have:=h.2;simp only [Dn.gt] at hl;rw [hl] at this;cases this)]
theorem UG {n:Nat} {l:List Dn.Spot} {i:Nat} (h: ¬2*i+2<n):Dn.downJ l i n=2*i+1:=by
 unfold Dn.downJ;rw [if_neg (fun h'=>h h'.1)]
theorem Ta {X:List (Nat×Obj)} {base S:Nat} {vo vf:Value} {st:Dn.yl} {w:World} (n:Nat) (h:SM X base S vo vf st w) (hn:n<=st.op.length) (hb:st.op.length<=1000000):
 Calls prog 98 #[.iface 110 (.pointer (some ⟨S,2,none⟩)),.int .i64 0,.int .i64 n] w fun e w'=>
  (∃b:Bool,e= .returned (.bool b))/\SM X base S vo vf { st with op:=Dn.YN n st.op 0 n } w'/\Below base w w':=by
 go_enter func98,ntmps98
 go_wp2
 go_loopw [7] (fun t wr=> ∃(i:Nat) (l:List Dn.Spot),t= .int .i64 i/\SM X base S vo vf { st with op:=l } wr/\Below base w wr/\i<=1000000/\Hid (l.length=st.op.length)/\Hid (Dn.YN n l i n=Dn.YN n st.op 0 n)) (fun t _=>n-(intOf t).toNat)
 case atStart=>exact ⟨0,st.op,rfl,h,Below.refl _ _,by omega,rfl,rfl⟩
 case round=>
  obtain ⟨i,l,rfl,⟨vop,vled,hsm⟩,hbel,hil,hll,hup⟩:=hrel
  have hlb:l.length<=1000000:=by have:=hll.out;omega
  have hnl:n<=l.length:=by have:=hll.out;omega
  by_cases hend:n<=2*i+1
  ·have hfin:Hid (l=Dn.YN n st.op 0 n):=by unfold Hid;rw [<-hup.out,Dh hend]
   have hend':(n:Int)<=2*(i:Int)+1:=by omega
   clear hup hend
   go_wp2
   go_ret
   exact ⟨⟨_,rfl⟩,hfin.out ▸ ⟨_,_,hsm⟩,hbel⟩
  ·obtain ⟨g,cap,rfl,_,_,_⟩:=zv hsm.op (show 0<l.length by omega)
   have hc:=za (k:=2) (v:= .slice (some ⟨g,0,none⟩) l.length cap) hsm.blk rfl
   have hml:=fun k=>UJ ⟨S,2,none⟩ (wr.drewN k) _ hc
   have hml0:=UJ ⟨S,2,none⟩ wr _ hc
   have hms:=fun k=>Gf ⟨S,2,none⟩ (wr.drewN k) _ hc
   have hlt1:2*(i:Int)+1<n:=by omega
   have hlt:2*i+1<n:=by omega
   have hge: ¬(2*(i:Int)+1<0):=by omega
   clear hend
   by_cases h2:2*i+2<n
   ·have hlt2:2*(i:Int)+1+1<n:=by omega
    by_cases hl1:Dn.Spot.less (Dn.gt l (2*i+2)) (Dn.gt l (2*i+1))=false
    ·have hJ:Dn.downJ l i n=2*i+1:=FQ hl1
     by_cases hl2:Dn.Spot.less (Dn.gt l (2*i+1)) (Dn.gt l i)=false
     ·have hfin:Hid (l=Dn.YN n st.op 0 n):=by unfold Hid;rw [<-hup.out,Xn hlt hJ hl2]
      have hL2:=fun k=>xJ (hsm.drewN (k:=k)) (i:=2*i+1) (j:=i) (by show _<l.length;omega) (by show _<l.length;omega) hlb
      have hL1:=xJ hsm (i:=2*i+2) (j:=2*i+1) (by show _<l.length;omega) (by show _<l.length;omega) hlb
      simp only [hl1] at hL1
      have e2:((2*i+2:Nat):Int)=2*(i:Int)+1+1:=by omega
      have e1:((2*i+1:Nat):Int)=2*(i:Int)+1:=by omega
      rw [e1,e2] at hL1
      simp only [e1] at hL2
      simp only [hl2] at hL2
      clear hup hJ e1
      clear e2
      go_wp2_with (first | (go_at_call 195;refine hL1.mono ?_;clear hL1;rintro e w' ⟨rfl,k,rfl⟩) | (go_at_call 195;refine (hL2 _).mono ?_;rintro e w' ⟨rfl,k2,rfl⟩))
      go_ret
      exact ⟨⟨_,rfl⟩,hfin.out ▸ ⟨_,_,hsm.drewN⟩,Below.drewN' hbel⟩
     ·replace hl2:Dn.Spot.less (Dn.gt l (2*i+1)) (Dn.gt l i)=true:=by simpa using hl2
      have hgo:Hid (Dn.YN n (Dn.XK l i (2*i+1)) (2*i+1) n=Dn.YN n st.op 0 n):=by unfold Hid;rw [<-hup.out,KR hlt hJ hl2]
      have hL2:=fun k=>xJ (hsm.drewN (k:=k)) (i:=2*i+1) (j:=i) (by show _<l.length;omega) (by show _<l.length;omega) hlb
      have hL1:=xJ hsm (i:=2*i+2) (j:=2*i+1) (by show _<l.length;omega) (by show _<l.length;omega) hlb
      simp only [hl1] at hL1
      have e2:((2*i+2:Nat):Int)=2*(i:Int)+1+1:=by omega
      have e1:((2*i+1:Nat):Int)=2*(i:Int)+1:=by omega
      rw [e1,e2] at hL1
      simp only [e1] at hL2
      simp only [hl2] at hL2
      have hW:=fun k=>YR (hsm.drewN (k:=k)) (i:=i) (j:=2*i+1) (by show _<l.length;omega) (by show _<l.length;omega) hlb
      simp only [e1] at hW
      clear hup hJ
      go_wp2_with (first | (go_at_call 195;refine hL1.mono ?_;clear hL1;rintro e w' ⟨rfl,k,rfl⟩) | (go_at_call 195;refine (hL2 _).mono ?_;rintro e w' ⟨rfl,k2,rfl⟩) | (go_at_call 196;refine (hW _).mono ?_;rintro e w' ⟨rfl,hsm',hbel'⟩))
      go_roundw
      case rel=>exact ⟨2*i+1,Dn.XK l i (2*i+1),by rw [e1],⟨_,_,hsm'⟩,hbel.trans (Below.of_drewN hbel'),by omega,by unfold Hid;rw [Dn.yM];exact hll.out,hgo⟩
      case measure=>simp [intOf];omega
    ·replace hl1:Dn.Spot.less (Dn.gt l (2*i+2)) (Dn.gt l (2*i+1))=true:=by simpa using hl1
     have hJ:Dn.downJ l i n=2*i+2:=Fs h2 hl1
     by_cases hl2:Dn.Spot.less (Dn.gt l (2*i+2)) (Dn.gt l i)=false
     ·have hfin:Hid (l=Dn.YN n st.op 0 n):=by unfold Hid;rw [<-hup.out,Xn hlt hJ hl2]
      have hL2:=fun k=>xJ (hsm.drewN (k:=k)) (i:=2*i+2) (j:=i) (by show _<l.length;omega) (by show _<l.length;omega) hlb
      have hL1:=xJ hsm (i:=2*i+2) (j:=2*i+1) (by show _<l.length;omega) (by show _<l.length;omega) hlb
      simp only [hl1] at hL1
      have e2:((2*i+2:Nat):Int)=2*(i:Int)+1+1:=by omega
      have e1:((2*i+1:Nat):Int)=2*(i:Int)+1:=by omega
      rw [e1,e2] at hL1
      simp only [e2] at hL2
      simp only [hl2] at hL2
      clear hup hJ e1
      clear e2
      go_wp2_with (first | (go_at_call 195;refine hL1.mono ?_;clear hL1;rintro e w' ⟨rfl,k,rfl⟩) | (go_at_call 195;refine (hL2 _).mono ?_;rintro e w' ⟨rfl,k2,rfl⟩))
      go_ret
      exact ⟨⟨_,rfl⟩,hfin.out ▸ ⟨_,_,hsm.drewN⟩,Below.drewN' hbel⟩
     ·replace hl2:Dn.Spot.less (Dn.gt l (2*i+2)) (Dn.gt l i)=true:=by simpa using hl2
      have hgo:Hid (Dn.YN n (Dn.XK l i (2*i+2)) (2*i+2) n=Dn.YN n st.op 0 n):=by unfold Hid;rw [<-hup.out,KR hlt hJ hl2]
      have hL2:=fun k=>xJ (hsm.drewN (k:=k)) (i:=2*i+2) (j:=i) (by show _<l.length;omega) (by show _<l.length;omega) hlb
      have hL1:=xJ hsm (i:=2*i+2) (j:=2*i+1) (by show _<l.length;omega) (by show _<l.length;omega) hlb
      simp only [hl1] at hL1
      have e2:((2*i+2:Nat):Int)=2*(i:Int)+1+1:=by omega
      have e1:((2*i+1:Nat):Int)=2*(i:Int)+1:=by omega
      rw [e1,e2] at hL1
      simp only [e2] at hL2
      simp only [hl2] at hL2
      have hW:=fun k=>YR (hsm.drewN (k:=k)) (i:=i) (j:=2*i+2) (by show _<l.length;omega) (by show _<l.length;omega) hlb
      simp only [e2] at hW
      clear hup hJ
      go_wp2_with (first | (go_at_call 195;refine hL1.mono ?_;clear hL1;rintro e w' ⟨rfl,k,rfl⟩) | (go_at_call 195;refine (hL2 _).mono ?_;rintro e w' ⟨rfl,k2,rfl⟩) | (go_at_call 196;refine (hW _).mono ?_;rintro e w' ⟨rfl,hsm',hbel'⟩))
      go_roundw
      case rel=>exact ⟨2*i+2,Dn.XK l i (2*i+2),by rw [e2],⟨_,_,hsm'⟩,hbel.trans (Below.of_drewN hbel'),by omega,by unfold Hid;rw [Dn.yM];exact hll.out,hgo⟩
      case measure=>simp [intOf];omega
   ·have hJ:Dn.downJ l i n=2*i+1:=UG h2
    have hlt2: ¬(2*(i:Int)+1+1<n):=by omega
    clear h2
    by_cases hl2:Dn.Spot.less (Dn.gt l (2*i+1)) (Dn.gt l i)=false
    ·have hfin:Hid (l=Dn.YN n st.op 0 n):=by unfold Hid;rw [<-hup.out,Xn hlt hJ hl2]
     have hL2:=fun k=>xJ (hsm.drewN (k:=k)) (i:=2*i+1) (j:=i) (by show _<l.length;omega) (by show _<l.length;omega) hlb
     have hL0:=xJ hsm (i:=2*i+1) (j:=i) (by show _<l.length;omega) (by show _<l.length;omega) hlb
     have e1:((2*i+1:Nat):Int)=2*(i:Int)+1:=by omega
     simp only [hl2] at hL0
     rw [e1] at hL0
     simp only [e1] at hL2
     simp only [hl2] at hL2
     clear hup hJ e1
     go_wp2_with (first | (go_at_call 195;refine hL0.mono ?_;rintro e w' ⟨rfl,k,rfl⟩))
     go_ret
     exact ⟨⟨_,rfl⟩,hfin.out ▸ ⟨_,_,hsm.drewN⟩,Below.drewN' hbel⟩
    ·replace hl2:Dn.Spot.less (Dn.gt l (2*i+1)) (Dn.gt l i)=true:=by simpa using hl2
     have hgo:Hid (Dn.YN n (Dn.XK l i (2*i+1)) (2*i+1) n=Dn.YN n st.op 0 n):=by unfold Hid;rw [<-hup.out,KR hlt hJ hl2]
     have hL2:=fun k=>xJ (hsm.drewN (k:=k)) (i:=2*i+1) (j:=i) (by show _<l.length;omega) (by show _<l.length;omega) hlb
     have hL0:=xJ hsm (i:=2*i+1) (j:=i) (by show _<l.length;omega) (by show _<l.length;omega) hlb
     have e1:((2*i+1:Nat):Int)=2*(i:Int)+1:=by omega
     simp only [hl2] at hL0
     rw [e1] at hL0
     simp only [e1] at hL2
     simp only [hl2] at hL2
     have hW:=fun k=>YR (hsm.drewN (k:=k)) (i:=i) (j:=2*i+1) (by show _<l.length;omega) (by show _<l.length;omega) hlb
     simp only [e1] at hW
     clear hup hJ
     go_wp2_with (first | (go_at_call 195;refine hL0.mono ?_;rintro e w' ⟨rfl,k,rfl⟩) | (go_at_call 196;refine (hW _).mono ?_;rintro e w' ⟨rfl,hsm',hbel'⟩))
     go_roundw
     case rel=>exact ⟨2*i+1,Dn.XK l i (2*i+1),by rw [e1],⟨_,_,hsm'⟩,hbel.trans (Below.of_drewN hbel'),by omega,by unfold Hid;rw [Dn.yM];exact hll.out,hgo⟩
     case measure=>simp [intOf];omega
theorem Jk {X:List (Nat×Obj)} {base S:Nat} {vo vf:Value} {st:Dn.yl} {w:World} (s:Dn.Spot) (h:SM X base S vo vf st w) (hb:st.op.length<1000000):
 Calls prog 49 #[.iface 110 (.pointer (some ⟨S,2,none⟩)),.iface 112 (.agg #[.complex .f64 (fl s.x) (fl s.y),.int .i64 s.far,.int .i64 s.turn,.int .u8 s.kind])] w fun e w'=>
  e= .returned (.tuple #[])/\SM X base S vo vf { st with op:=Dn.jN st.op s } w'/\Below base w w':=by
 obtain ⟨vop,vled,hsm⟩:=h
 have hp:=PV s hsm (by omega)
 have hmp:=TG ⟨S,2,none⟩ w
 go_enter func49,ntmps49
 go_wp2_with (go_at_call 198;refine hp.mono ?_;rintro e w1 ⟨rfl,⟨vop1,vled1,hsm1⟩,hb1⟩)
 obtain ⟨g,cap,rfl,_,_,_⟩:=zv hsm1.op (show 0<(st.op++ [s]).length by simp)
 have hc:=za (k:=2) (v:= .slice (some ⟨g,0,none⟩) (st.op++ [s]).length cap) hsm1.blk rfl
 have hml:=Tz ⟨S,2,none⟩ w1 _ hc
 have hl1:(st.op++ [s]).length=st.op.length+1:=by simp
 have hu:=Sa (st:= { st with op:=st.op++ [s] }) (w:=w1) st.op.length ⟨_,_,hsm1⟩ (by show _<(st.op++ [s]).length;simp) (by show (st.op++ [s]).length<=_;simp;omega)
 have hln:=Pg (some ⟨g,0,none⟩) (st.op++ [s]).length cap w1
 rw [hl1] at hml hln
 clear hp hmp
 go_wp2_with (first | (go_at_call 194;refine hln.mono ?_;rintro e w' ⟨rfl,rfl⟩) | (go_at_call 96;refine hu.mono ?_;rintro e w' ⟨rfl,hsm2,hb2⟩))
 go_end0
 exact ⟨rfl,hsm2,hb1.trans hb2⟩
theorem Er (l:List Dn.Spot):Dn.YN (l.length-1) (Dn.XK l 0 (l.length-1)) 0 (l.length-1)=Dn.Xp l:=Jl _ _ _ _ _ (by omega) (by omega)
def GG (s:Dn.Spot):Value:= .iface 112 (.agg #[.complex .f64 (fl s.x) (fl s.y),.int .i64 s.far,.int .i64 s.turn,.int .u8 s.kind])
theorem Te {X:List (Nat×Obj)} {base S:Nat} {vo vf:Value} {st:Dn.yl} {w:World} (h:SM X base S vo vf st w) (hne:st.op≠ []) (hb:st.op.length<1000000):
 Calls prog 52 #[.iface 110 (.pointer (some ⟨S,2,none⟩))] w fun e w'=>
  e= .returned (GG (Dn.xV st.op))/\SM X base S vo vf { st with op:=Dn.xz st.op } w'/\Below base w w':=by
 obtain ⟨vop,vled,hsm⟩:=h
 have hpos:=List.length_pos_iff.2 hne
 obtain ⟨g,cap,rfl,_,_,_⟩:=zv hsm.op hpos
 have hc:=za (k:=2) (v:= .slice (some ⟨g,0,none⟩) st.op.length cap) hsm.blk rfl
 have hml:=Tz ⟨S,2,none⟩ w _ hc
 have hms:=Gf ⟨S,2,none⟩ w _ hc
 have hln:=Pg (some ⟨g,0,none⟩) st.op.length cap w
 obtain ⟨k,hk⟩: ∃k,st.op.length=k+1:=⟨st.op.length-1,by omega⟩
 have hk1:st.op.length-1=k:=by omega
 have hsw:=YR hsm (i:=0) (j:=k) hpos (by omega) (by omega)
 have hP:Hid (Dn.YN k (Dn.XK st.op 0 k) 0 k=Dn.Xp st.op):=by have:=Er st.op;rw [hk1] at this;exact this
 have hS:Hid (Dn.xV st.op=Dn.gt (Dn.Xp st.op) k):=by unfold Hid Dn.xV;rw [hk1]
 have hR:Hid (Dn.xz st.op=(Dn.Xp st.op).take k):=by unfold Hid Dn.xz;rw [hk1]
 have hkl:Hid (st.op.length=k+1):=hk
 rw [hk] at hml hms hln hsw
 have hkb:k<1000000:=by omega
 clear hk hk1
 go_enter func52,ntmps52
 go_wp2_with (first | (go_at_call 194;refine hln.mono ?_;rintro e w' ⟨rfl,rfl⟩) | (go_at_call 196;refine hsw.mono ?_;rintro e w1 ⟨rfl,hsm1,hb1⟩) | (go_at_call 98;fail))
 have hl1:(Dn.XK st.op 0 k).length=k+1:=by rw [Dn.yM];exact hkl.out
 have hd:=Ta (st:= { st with op:=Dn.XK st.op 0 k }) (w:=w1) k ⟨_,_,hsm1⟩ (by show k<=(Dn.XK st.op 0 k).length;omega) (by show (Dn.XK st.op 0 k).length<=_;omega)
 simp only [hP.out] at hd
 clear hl1 hsw hms hln hml
 go_wp2_with (go_at_call 98;refine hd.mono ?_;rintro e w2 ⟨⟨bb,rfl⟩,⟨vop2,vled2,hsm2⟩,hb2⟩)
 have hl2:(Dn.Xp st.op).length=k+1:=by rw [Dn.XO _ hne];exact hkl.out
 obtain ⟨g2,cap2,rfl,_,_,_⟩:=zv hsm2.op (show 0<(Dn.Xp st.op).length by omega)
 have hmp:=Sh ⟨S,2,none⟩ w2
 have hpp:=Tp hsm2 (show 0<(Dn.Xp st.op).length by omega) (show (Dn.Xp st.op).length<=1000000 by omega)
 have hl3:(Dn.Xp st.op).length-1=k:=by omega
 simp only [hl3,<-hS.out,<-hR.out] at hpp
 clear hl2 hl3 hd
 go_wp2_with (go_at_call 197;refine hpp.mono ?_;rintro e w3 ⟨rfl,hsm3,hb3⟩)
 go_ret
 exact ⟨rfl,hsm3,(hb1.trans hb2).trans hb3⟩
theorem yg:prog.follows .mixedOrders=true:=by kernel_rfl
theorem zK {P:Program} {id:Nat} {Q:Exit->Act->World->Prop} {a:Act} {w:World} {l:List Oper} (n:Nat) (hm:P.follows .mixedOrders=true) (hB:Region.lexTailB .any l.toArray n=true)
 (h:wpStill P l.toArray w.drew (fun a'=>wpList P l.toArray Q (l.drop n) a' w.drew) (l.take n) a):(Code.region id l.toArray true).wp P Q a w:=
 wp_region_still_tail n hm hB h
theorem Pe (m x y:Nat):((Dn.idx m x y:Nat):Int)=(x:Int)*((m:Int)+1)+y:=by
 unfold Dn.idx;push_cast;rfl
theorem Eb {m x:Nat} (hx:x<210) (hm:m<210):0<=(x:Int)*((m:Int)+1)/\(x:Int)*((m:Int)+1)<=100000:=by
 have h1:x*(m+1)<=209*210:=Nat.mul_le_mul (by omega) (by omega)
 have h2:((x*(m+1):Nat):Int)=(x:Int)*((m:Int)+1):=by push_cast;rfl
 omega
theorem GK {k:IntKind} {a b:Int} (h:a=b):Ending.returned (.int k a)= .returned (.int k b):=by rw [h]
theorem Ua (S m capf x y:Nat) (af:Option Addr) (w:World) (hc:w.cell? ⟨S,1,none⟩=some (.slice af m capf)) (hm:m<210) (hx:x<210) (hy:y<210):
 Calls prog 50 #[.pointer (some ⟨S,0,none⟩),.complex .f64 (fl x) (fl y)] w fun e w'=>e= .returned (.int .i64 (Dn.idx m x y:Nat))/\w=w':=by
 have h1:=fun w=>Zj hx w
 have h2:=fun w=>Zj hy w
 obtain ⟨hb1,hb2⟩:=Eb (x:=x) (m:=m) hx hm
 go_enter func50,ntmps50
 go_wp2
 go_ret
 exact ⟨GK (Pe m x y).symm,rfl⟩
theorem SMv.alloc {X:List (Nat×Obj)} {base S:Nat} {vo vf:Value} {st:Dn.yl} {vop vled:Value} {w:World} (h:SMv X base S vo vf st vop vled w) (o:Obj):SMv X base S vo vf st vop vled (w.alloc o):=
 ⟨h.le,(Below.heap_alloc w o S h.size.2).trans h.blk,h.op.alloc o,h.led.alloc o,h.ne1,h.ne2,h.ne3,fun x hx=>let ⟨a,b⟩:=h.fr x hx;⟨(Below.heap_alloc w o x.1 (Array.getElem?_eq_some_iff.1 a).1).trans a,b⟩⟩
theorem SMv.setTurn {X:List (Nat×Obj)} {base S:Nat} {vo vf:Value} {st:Dn.yl} {vop vled:Value} {w:World} (h:SMv X base S vo vf st vop vled w) (t:Nat):
 SMv X base S vo vf { st with turns:=t } vop vled (w.setCell ⟨S,3,none⟩ (.int .i64 t)):=by
 have hg:=zc w S 3 (.int .i64 (t:Int))
 exact ⟨h.le,zb w S 3 _ _ _ _ h.blk,h.op.kept hg (.inr h.ne1),h.led.kept hg (.inr h.ne2),h.ne1,h.ne2,h.ne3,fun x hx=>let ⟨a,b,c⟩:=h.fr x hx;⟨(zd w S x.1 3 _ b).trans a,b,c⟩⟩
theorem YU {w:World} {base n cap g:Nat} {l:List Nat} (h:w.ownsRow base 5 1 (.slice (some ⟨g,0,none⟩) n cap) n (yF l)) {i:Nat} (hi:i<l.length):
 w.cell? ⟨g,i,none⟩=some (.int .u8 ((l.getD i 0:Nat):Int)):=by
 obtain ⟨hl,hr⟩:=h
 rcases hr with ⟨e,_⟩ | ⟨g',cap',cur,e,hb,hg,h1,h2,h3,h4⟩
 ·cases e
 ·cases e
  have a:(yF l)[i]? =some (.int .u8 ((l.getD i 0:Nat):Int)):=by simp [yF,List.getD,hi]
  rw [<-h4,List.getElem?_take] at a
  split at a
  ·exact za hg (by simpa using a)
  ·cases a
theorem VL {w:World} {base n cap g:Nat} {l:List Nat} (h:w.ownsRow base 5 1 (.slice (some ⟨g,0,none⟩) n cap) n (yF l)) (i k:Nat):
 (w.setCell ⟨g,i,none⟩ (.int .u8 (k:Int))).ownsRow base 5 1 (.slice (some ⟨g,0,none⟩) n cap) n (yF (l.set i k)):=by
 obtain ⟨hl,hr⟩:=h
 rcases hr with ⟨e,_⟩ | ⟨g',cap',cur,e,hb,hg,h1,h2,h3,h4⟩
 ·cases e
 ·cases e
  refine ⟨by simpa [yF] using hl,.inr ⟨g,cap,_,rfl,hb,zb _ _ _ _ _ _ _ hg,h1,h2,by simpa using h3,?_⟩⟩
  have:yF (l.set i k)=(yF l).set i (.int .u8 (k:Int)):=by simp [yF,List.map_set]
  rw [this,<-h4]
  simp [List.take_set]
theorem SMv.setLed {X:List (Nat×Obj)} {base S g n cap:Nat} {vo vf:Value} {st:Dn.yl} {vop:Value} {w:World} (h:SMv X base S vo vf st vop (.slice (some ⟨g,0,none⟩) n cap) w) (hn:n=st.led.length) (i k:Nat):
 SMv X base S vo vf { st with led:=st.led.set i k } vop (.slice (some ⟨g,0,none⟩) n cap) (w.setCell ⟨g,i,none⟩ (.int .u8 (k:Int))):=by
 subst hn
 have hg:=zc w g i (.int .u8 (k:Int))
 have hSg:S≠g:=fun e=>h.ne2 (by rw [e];rfl)
 refine ⟨h.le,(zd w g S i _ hSg).trans h.blk,h.op.kept hg ?_,?_,h.ne1,h.ne2,h.ne3,fun x hx=>let ⟨a,b,c,d⟩:=h.fr x hx;⟨(zd w g x.1 i _ (fun e=>d (by rw [e];rfl))).trans a,b,c,d⟩⟩
 ·rcases h.ne3 with e | e
  ·exact .inl e
  ·exact .inr e
 ·have:=VL h.led i k
  show World.ownsRow _ _ _ _ _ (st.led.set i k).length _
  rw [List.length_set];exact this
attribute [local go_sem] xC
theorem SMv.drew {X:List (Nat×Obj)} {base S:Nat} {vo vf vop vled:Value} {st:Dn.yl} {w:World} (h:SMv X base S vo vf st vop vled w):SMv X base S vo vf st vop vled w.drew:=
 ⟨h.le,h.blk,h.op,h.led,h.ne1,h.ne2,h.ne3,h.fr⟩
theorem Zs {S m capf x y n:Nat} {af:Option Addr} {w:World} (hc:w.cell? ⟨S,1,none⟩=some (.slice af m capf)) (hm:m<210) (hx:x<210) (hy:y<210):
 Calls prog 50 #[.pointer (some ⟨S,0,none⟩),.complex .f64 (fl x) (fl y)] (w.drewN n) fun e w''=>e= .returned (.int .i64 (Dn.idx m x y:Nat))/\ ∃k,w''=w.drewN k:=
 (Ua S m capf x y af (w.drewN n) hc hm hx hy).mono fun _ _ ⟨he,hm⟩=>⟨he,n,hm.symm⟩
theorem Zl {X:List (Nat×Obj)} {base S m capf:Nat} {af:Option Addr} {vo:Value} {st:Dn.yl} {w:World} (p:Dn.Spot) (dx dy kind sr si:Nat) (h:SM X base S vo (.slice af m capf) st w)
 (hadd: ∀w,(binOp .add 107 (.complex .f64 (fl p.x) (fl p.y)) (.complex .f64 sr si)).run prog w= .ok (.complex .f64 (fl (p.x+dx)) (fl (p.y+dy))) w)
 (hm:m<210) (hx:p.x+dx<210) (hy:p.y+dy<210) (hl:Dn.idx m (p.x+dx) (p.y+dy)<st.led.length) (hll:st.led.length<=100000) (hf:p.far<1000000) (ht:st.turns<1000000) (hb:st.op.length<1000000):
 Calls prog 97 #[.pointer (some ⟨S,0,none⟩),.agg #[.complex .f64 (fl p.x) (fl p.y),.int .i64 p.far,.int .i64 p.turn,.int .u8 p.kind],.complex .f64 sr si,.int .u8 kind] w fun e w'=>
  e= .returned (.tuple #[])/\SM X base S vo (.slice af m capf) (Dn.yG m st p dx dy kind) w'/\Below base w w':=by
 obtain ⟨vop,vled,hsm⟩:=h
 obtain ⟨g,cap,rfl,hbg,hgw,_⟩:=zv hsm.led (show 0<st.led.length by omega)
 have hS:=hsm.size
 have c1:=za (k:=1) (v:= .slice af m capf) hsm.blk rfl
 have c3:=za (k:=3) (v:= .int .i64 (st.turns:Int)) hsm.blk rfl
 have c4:=za (k:=4) (v:= .slice (some ⟨g,0,none⟩) st.led.length cap) hsm.blk rfl
 have hSw:S<w.heap.size:=hS.2
 have cl:=YU hsm.led hl
 have hf3:w.frozen? ⟨S,3,none⟩=false:=zi hsm.blk
 have hlI:((Dn.idx m (p.x+dx) (p.y+dy):Nat):Int)<st.led.length:=by omega
 have hq:Hid (∀o n,Calls prog 50 #[.pointer (some ⟨S,0,none⟩),.complex .f64 (fl (p.x+dx)) (fl (p.y+dy))] ((w.alloc o).drewN n) fun e w''=>e= .returned (.int .i64 (Dn.idx m (p.x+dx) (p.y+dy):Nat))/\ ∃k,w''=(w.alloc o).drewN k):=
  fun o n=>Zs (w:=w.alloc o) (za (k:=1) (v:= .slice af m capf) (hsm.alloc o).blk rfl) hm hx hy
 generalize hI:Dn.idx m (p.x+dx) (p.y+dy)=I at *
 have hat:st.at m (p.x+dx) (p.y+dy)=st.led.getD I 0:=by unfold Dn.yl.at;rw [hI]
 by_cases h0:st.led.getD I 0=0
 ·have hch:Dn.yG m st p dx dy kind= { op:=Dn.jN st.op ⟨p.x+dx,p.y+dy,p.far+1,st.turns+1,kind⟩,turns:=st.turns+1,led:=st.led } :=by unfold Dn.yG;rw [if_pos (by rw [hat];exact h0)]
  rw [hch]
  clear hch hat hI
  rw [h0] at cl
  clear h0
  have cl':w.cell? ⟨g,I,none⟩=some (.int .u8 0):=cl
  clear cl
  go_enter func97,ntmps97
  go_wp2_with fail
  go_quiet ((go_at_call 50;exact hq.out _ _))
  go_wp2_with fail
  have h1:=(((hsm.alloc (.cells #[.complex .f64 (fl p.x) (fl p.y),.int .i64 p.far,.int .i64 p.turn,.int .u8 p.kind] 112)).drewN (k:=nq)).setTurn (st.turns+1)).drew
  have e:((st.turns+1:Nat):Int)=(st.turns:Int)+1:=by omega
  have e2:((p.far+1:Nat):Int)=(p.far:Int)+1:=by omega
  rw [e] at h1
  have hP:=Jk (st:= { st with turns:=st.turns+1 }) ⟨p.x+dx,p.y+dy,p.far+1,st.turns+1,kind⟩ ⟨_,_,h1⟩ hb
  simp only [e,e2] at hP
  clear h1 hq
  have hbel:Below base w (((w.alloc (.cells #[.complex .f64 (fl p.x) (fl p.y),.int .i64 p.far,.int .i64 p.turn,.int .u8 p.kind] 112)).drewN nq).setCell ⟨S,3,none⟩ (.int .i64 ((st.turns:Int)+1))).drew:=
   ((Below.drewN' ((Below.refl base w).alloc (by omega) _)).setCell (p:=⟨S,3,none⟩) hsm.le _).drew
  have hwr:IntKind.i64.wrap ((p.far:Int)+1)=(p.far:Int)+1:=by rw [IntKind.wrap_i64];omega
  refine zK 18 yg (by kernel_rfl) ?_
  simp only [List.take_succ_cons,List.take_zero,List.drop_succ_cons,List.drop_zero]
  repeat still_step
  refine wpStill_nil ?_
  go_wp2_with (go_at_call 49;refine hP.mono ?_;rintro e w' ⟨rfl,hs2,hb2⟩)
  go_end0
  exact ⟨rfl,hs2,hbel.trans hb2⟩
 ·have hch:Dn.yG m st p dx dy kind=st:=by unfold Dn.yG;rw [if_neg (by rw [hat];exact h0)]
  rw [hch]
  clear hch hat hI
  generalize st.led.getD I 0=K at *
  have hb1:(((K:Nat):Int)==0)=false:=by simpa using h0
  have hb2:(((K:Nat):Int) !=0)=true:=by simpa using h0
  clear h0
  go_enter func97,ntmps97
  go_wp2_with fail
  go_quiet ((go_at_call 50;exact hq.out _ _))
  go_wp2_with fail
  exact bodyPost_ret (results_none rfl _ _ _) rfl ⟨rfl,⟨_,_,(hsm.alloc _).drewN⟩,Below.drewN' ((Below.refl _ _).alloc (by omega) _)⟩
end Go.Proofs.YtcclgodahlinbaaGreatDoor
