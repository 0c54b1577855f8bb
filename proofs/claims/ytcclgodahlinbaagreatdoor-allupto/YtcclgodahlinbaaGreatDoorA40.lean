import Derived.Test.YtcclgodahlinbaaGreatDoorA39
import Derived.Test.YtcclgodahlinbaaGreatDoorA22
import Derived.Test.YtcclgodahlinbaaGreatDoorA35
import Derived.Test.YtcclgodahlinbaaGreatDoorA28
import Derived.Test.YtcclgodahlinbaaGreatDoorA17
import Derived.Test.YtcclgodahlinbaaGreatDoorA37
import Derived.Test.YtcclgodahlinbaaGreatDoorA21
namespace Go.Proofs.YtcclgodahlinbaaGreatDoor
set_option maxHeartbeats 16000000
open Tryz Go.RowKit Go
set_option maxRecDepth 100000
theorem WE (t:List UInt8):(yI t).1.length+(yI t).2.length<=t.length/\ ∀l∈(yI t).1,l.length<=t.length:=by
 refine GV (p:=fun t=>(yI t).1.length+(yI t).2.length<=t.length/\ ∀l∈(yI t).1,l.length<=t.length) (by simp [yI]) (fun l c ih=> ?_) t
 rw [Zr]
 unfold xi
 obtain ⟨h1,h2⟩:=ih
 by_cases hc:c=10
 ·rw [if_pos hc]
  refine ⟨by simp;omega,fun x hx=> ?_⟩
  rw [List.length_append]
  rcases List.mem_append.1 hx with hx | hx
  ·have:=h2 x hx;omega
  ·rw [List.mem_singleton] at hx
   subst hx
   omega
 ·rw [if_neg hc]
  refine ⟨by simp;omega,fun x hx=> ?_⟩
  rw [List.length_append]
  have:=h2 x hx;omega
theorem VQ: ∀(L:List (List UInt8)) (st:Rd) (n i m:Nat) (st':Rd),Bi n st->(∀l∈L,l.length<=20000)->xS st L i=(m,some st')->Bi (n+L.length) st'
 | [],st,n,i,m,st',hB,_,h=>by
   simp only [xS,Prod.mk.injEq,Option.some.injEq] at h
   rw [<-h.2]
   exact hB
 | l::L,st,n,i,m,st',hB,hl,h=>by
   rw [xS] at h
   cases hq:rdStep st l with
   | none=>rw [hq] at h;simp at h
   | some st1=>
     rw [hq] at h
     have h1:=VQ L st1 (n+1) (i+1) m st' (hB.step (hl l List.mem_cons_self) hq) (fun x hx=>hl x (List.mem_cons_of_mem _ hx)) h
     rw [List.length_cons]
     rw [show n+(L.length+1)=n+1+L.length by omega]
     exact h1
theorem WC (s:ByteArray):(readA s).1.length<=20000/\ ∀h∈(readA s).1,h.lines.length<=20000:=by
 unfold readA
 by_cases hb:20000<s.size
 ·rw [if_pos hb];exact ⟨by simp,by simp⟩
 ·rw [if_neg hb]
  unfold xP
  have hz:s.data.toList.length<=20000:=by
   have:s.data.toList.length=s.size:=rfl
   omega
  obtain ⟨c1,c2⟩:=WE s.data.toList
  generalize hq:xS Rd.start (yI s.data.toList).1 0=r
  obtain ⟨m,o⟩:=r
  cases o with
  | none=>unfold JX;exact ⟨by simp,by simp⟩
  | some st=>
    have hB:=VQ _ _ _ _ _ _ Bi.start (fun l hl=>Nat.le_trans (c2 l hl) hz) hq
    rw [Nat.zero_add] at hB
    unfold JX
    simp only
    split
    ·refine ⟨by have:=hB.hn;simp only;omega,fun h hh=> ?_⟩
     have:=(hB.ln h hh).1
     omega
    ·exact ⟨by simp,by simp⟩
theorem JZ (L:List zk) (nb:List Bool): ∀k,∀h∈(foldH L nb k).hs,∀s∈h.lines,s∈L:=by
 intro k
 induction k with
 | zero=>simp [foldH]
 | succ k ih=>
   by_cases hk:k<L.length
   ·rw [kw hk]
    simp only
    have key: ∀l:List zx,(∀h∈l,∀s∈h.lines,s∈L)-> ∀h∈qp l L[k],∀s∈h.lines,s∈L:=by
     intro l hl h hh s hs
     by_cases h0:l= []
     ·subst h0;simp [qp] at hh
     ·obtain ⟨i,x,e1,e2⟩:=Qo (s:=L[k]) h0
      rw [e2] at hh
      rcases List.mem_append.1 hh with hh | hh
      ·exact hl h (by rw [e1];simp [hh]) s hs
      ·rw [List.mem_singleton] at hh
       subst hh
       rcases List.mem_append.1 (show s∈x.lines++ [L[k]] from hs) with hs | hs
       ·exact hl x (by rw [e1];simp) s hs
       ·rw [List.mem_singleton] at hs
        subst hs
        exact List.getElem_mem hk
    unfold xQ
    split
    ·refine key _ ?_
     split
     ·exact ih
     ·intro h hh s hs
      rcases List.mem_append.1 hh with hh | hh
      ·exact ih h hh s hs
      ·rw [List.mem_singleton] at hh
       subst hh
       simp [yp] at hs
    ·exact ih
   ·have e:foldH L nb (k+1)=foldH L nb k:=by rw [foldH,List.getElem?_eq_none (by omega)]
    rw [e]
    exact ih
theorem Zx {s x:ByteArray} (ht:yd s=true) (hx:x∈linesB s):x.size<=s.size:=by
 rw [<-jM] at ht
 rw [<-jl ht] at hx
 unfold qy at hx
 obtain ⟨l,hl,rfl⟩:=List.mem_map.1 hx
 have:=(WE s.data.toList).2 l hl
 exact this
theorem JH (A B:List ByteArray) (N:Nat) (hA: ∀x∈A,x.size<=N) (hB: ∀x∈B,x.size<=N): ∀s∈Dn.WT A B,s.kind<256/\s.text.size<=N:=by
 intro s hs
 obtain ⟨h1,h2,h3⟩:=Dn.Sb A B
 have hk:=h3 s hs
 refine ⟨by omega,?_⟩
 by_cases hp:s.kind=43
 ·refine hB _ ?_
  rw [<-h2]
  unfold Dn.Yx
  refine List.mem_map.2 ⟨s,List.mem_filter.2 ⟨hs,by simp [hp]⟩,rfl⟩
 ·refine hA _ ?_
  rw [<-h1]
  unfold Dn.YK
  refine List.mem_map.2 ⟨s,List.mem_filter.2 ⟨hs,by simp [hp]⟩,rfl⟩
theorem Fr (a b:ByteArray) (c:Int):Lim ((yu a b c).map HI.ofM):=by
 have hsm:=jw a b c
 refine ⟨by rw [List.length_map];have:=hsm.1;omega,fun h hh=> ?_⟩
 obtain ⟨m,hm,rfl⟩:=List.mem_map.1 hh
 have hl:=hsm.2 m hm
 unfold yu at hm
 by_cases hk:checkB a b c=0
 ·rw [if_pos hk] at hm
  have hl2:(yd a=true/\yd b=true)/\yb a=false/\yb b=false:=by
   unfold checkB at hk
   split at hk
   ·simp at hk
   ·rename_i d0
    split at hk
    ·simp at hk
    ·rename_i d
     simp at d d0
     exact ⟨d0,d⟩
  have hza: ∀s:ByteArray,yb s=false->s.size<=8000:=fun s h=>by
   unfold yb at h
   simp at h
   exact h.1
  have n1:=yz hl2.2.1
  have n2:=yz hl2.2.2
  have hw:=kq (linesB a) (linesB b)
  have ht:=JH (linesB a) (linesB b) 8000 (fun x hx=>Nat.le_trans (Zx hl2.1.1 hx) (hza a hl2.2.1)) (fun x hx=>Nat.le_trans (Zx hl2.1.2 hx) (hza b hl2.2.2))
  unfold diffM at hm
  generalize Dn.WT (linesB a) (linesB b)=L at *
  have hb:=qY L (kU L c.toNat) L.length
  unfold jj at hm
  obtain ⟨y,hy,rfl⟩:=List.mem_map.1 hm
  obtain ⟨b1,b2,b3,b4,b5⟩:=hb.2.2.2.1 y hy
  have f1:(zV y).fr<=L.length+1:=by unfold zV;simp only;split<;>omega
  have f2:(zV y).tr<=L.length+1:=by unfold zV;simp only;split<;>omega
  have f3:(zV y).fc=y.fc:=rfl
  have f4:(zV y).tc=y.tc:=rfl
  refine ⟨?_,?_,?_,?_,?_,fun s hs=> ?_⟩
  ·show (zV y).lines.length<=_;omega
  ·show _<=((zV y).fr:Int)/\((zV y).fr:Int)<=_;omega
  ·show _<=((zV y).fc:Int)/\((zV y).fc:Int)<=_;omega
  ·show _<=((zV y).tr:Int)/\((zV y).tr:Int)<=_;omega
  ·show _<=((zV y).tc:Int)/\((zV y).tc:Int)<=_;omega
  ·have:=ht s (JZ L _ _ y hy s hs)
   omega
 ·rw [if_neg hk] at hm
  simp at hm
theorem UP {hs:List HI} (hL:Lim hs):(revA hs).1.length<=300000/\ ∀h∈(revA hs).1,h.lines.length<=1048576:=by
 unfold revA
 split
 ·refine ⟨by simp only [List.length_map];exact hL.1,fun h hh=> ?_⟩
  obtain ⟨x,hx,rfl⟩:=List.mem_map.1 hh
  have e:(qE x.toM).lines.length=x.lines.length:=by
   show (yX x.toM.lines).length=_
   unfold yX
   rw [List.length_append]
   exact Qh x.lines
  rw [e]
  exact (hL.2 x hx).1
 ·exact ⟨by simp,by simp⟩
theorem EM (hs:List HI):(revA hs).1.length<=hs.length:=by
 unfold revA
 split
 ·simp
 ·simp
theorem Vc (hs:List HI):(writeA hs).1.size<=20000:=by
 unfold writeA
 split
 ·split
  ·rename_i h
   simpa [ByteArray.size] using h
  ·simp [ByteArray.size]
 ·simp [ByteArray.size]
def Xf (hs:List HI):Prop:= ∀h∈hs,(zy (Dn.Yx h.lines)).length<=4000000
def chkA (s:ByteArray) (hs:List HI) (fz:Int):Int:=if yd s=false then 2 else if yb s=true then 1 else if zQ 0 0 hs=false then 4 else if fz<0\/10<fz then 3 else 0
def applyA (s:ByteArray) (hs:List HI) (fz:Int):ByteArray×List jS×Int:=
 if chkA s hs fz=0 then (applyT (linesB s) fz.toNat (hs.map HI.toM),applyS (linesB s) fz.toNat (hs.map HI.toM),0) else (⟨#[]⟩,[],chkA s hs fz)
theorem Xe {s:ByteArray} {hs:List HI} {fz:Int} (h:chkA s hs fz=0):yd s=true/\yb s=false/\zQ 0 0 hs=true/\0<=fz/\fz<=10:=by
 unfold chkA at h
 split at h
 ·simp at h
 ·split at h
  ·simp at h
  ·split at h
   ·simp at h
   ·split at h
    ·simp at h
    ·rename_i h1 h2 h3 h4
     exact ⟨by simpa using h1,by simpa using h2,by simpa using h3,by omega,by omega⟩
theorem Jn {hs:List HI} (hr:zQ 0 0 hs=true) (hL:Lim hs) (hT:Xf hs): ∀h∈hs.map HI.toM,GO h:=by
 intro h hh
 obtain ⟨x,hx,rfl⟩:=List.mem_map.1 hh
 obtain ⟨n1,n2,hb⟩:=xL hr x hx
 have m1:=zH.1 n1
 unfold yw at hb
 simp only [Bool.and_eq_true] at hb
 obtain ⟨⟨⟨b1,b2⟩,_⟩,_⟩:=hb
 refine ⟨⟨fun s hs'=> ?_,(hL.2 x hx).1,?_,?_,hT x hx⟩,b2⟩
 ·have:=List.all_eq_true.1 b1 s hs'
  unfold qQ yn at this
  simp only [Bool.and_eq_true,Bool.or_eq_true,beq_iff_eq] at this
  omega
 ·show x.fr.toNat<=100000
  omega
 ·show min x.fc.toNat 1<=x.fr.toNat
  omega
theorem kj {s:ByteArray} (ht:yd s=true) (hl:yb s=false):(zy (linesB s)).length<=10000:=by
 rw [<-jM] at ht
 rw [<-jl ht]
 have hz:s.size<=8000:=by
  unfold yb at hl
  simp at hl
  exact hl.1
 have h1:=(Zo s.data.toList).1
 have h2:=congrArg List.length h1
 have e:(zy (qy s)).length=((yI s.data.toList).1.flatMap fun l=>l++ [10]).length:=by
  unfold zy qy
  rw [List.flatMap_map]
  rfl
 have h3:s.data.toList.length=s.size:=rfl
 rw [e]
 rw [List.length_append] at h2
 omega
theorem Zb {s:ByteArray} {hs:List HI} {fz:Int} {a:Option Addr} {cap:Nat} {w:World} (hH:yH w.heap.size w (.slice a hs.length cap) hs) (hL:Lim hs) (hsz:s.size<4294967281):
 Calls prog 28 #[.string s,.agg #[.slice a hs.length cap],.int .i64 fz] w fun e w'=>e= .returned (.int .i64 (chkA s hs fz))/\Below w.heap.size w w':=by
 have i1:=fun w=>Yk s w hsz
 have i2:=fun w=>kx s w hsz
 have hw0:Below w.heap.size w (w.alloc (.cells #[.slice a hs.length cap] 32)):=(Below.refl _ _).alloc (Nat.le_refl _) _
 have hr:=js ((hH.below hw0).mono (by simp:w.heap.size<=(w.alloc (.cells #[.slice a hs.length cap] 32)).heap.size)) hL
 unfold chkA
 cases g1:yd s with
 | false=>
   rw [g1] at i1
   simp only [if_true]
   clear g1
   go_enter func28,ntmps28
   go_wp2_with (first | (go_at_call 47;refine (i1 _).mono ?_;rintro e w' ⟨rfl,rfl⟩))
   go_ret
   exact ⟨rfl,hw0⟩
 | true=>
 rw [g1] at i1
 cases g2:yb s with
 | true=>
   rw [g2] at i2
   simp only [Bool.true_eq_false,if_false,if_true]
   clear g1 g2
   go_enter func28,ntmps28
   go_wp2_with (first | (go_at_call 47;refine (i1 _).mono ?_;rintro e w' ⟨rfl,rfl⟩) | (go_at_call 48;refine (i2 _).mono ?_;rintro e w' ⟨rfl,rfl⟩))
   go_ret
   exact ⟨rfl,hw0⟩
 | false=>
 rw [g2] at i2
 cases g3:zQ 0 0 hs with
 | false=>
   rw [g3] at hr
   simp only [Bool.true_eq_false,Bool.false_eq_true,if_false,if_true]
   clear g1 g2 g3
   go_enter func28,ntmps28
   go_wp2_with (first | (go_at_call 47;refine (i1 _).mono ?_;rintro e w' ⟨rfl,rfl⟩) | (go_at_call 48;refine (i2 _).mono ?_;rintro e w' ⟨rfl,rfl⟩) | (go_at_call 31;refine hr.mono ?_;rintro e w' ⟨rfl,hb⟩))
   go_ret
   exact ⟨rfl,hw0.trans (hb.mono (by simp))⟩
 | true=>
   rw [g3] at hr
   simp only [Bool.true_eq_false,Bool.false_eq_true,if_false]
   clear g1 g2 g3
   by_cases t1:fz<0
   case' pos=>rw [if_pos (.inl t1)]
   case' neg=>
    by_cases t2:10<fz
    case' pos=>rw [if_pos (.inr t2)]
    case' neg=>rw [if_neg (by omega)]
   all_goals
    go_enter func28,ntmps28
    go_wp2_with (first | (go_at_call 47;refine (i1 _).mono ?_;rintro e w' ⟨rfl,rfl⟩) | (go_at_call 48;refine (i2 _).mono ?_;rintro e w' ⟨rfl,rfl⟩) | (go_at_call 31;refine hr.mono ?_;rintro e w' ⟨rfl,hb⟩))
    go_ret
    exact ⟨rfl,hw0.trans (hb.mono (by simp))⟩
theorem Yn {T:List ByteArray} {fz:Nat} {ms:List zx} (hh: ∀h∈ms,GO h) (hT:T.length<=40000) (hx:(zy T).length<=10000):(applyS T fz ms).length=ms.length:=
 (V.Fm (fz:=fz) (fun h hm=>(hh h hm).ok) hT hx ms.length (Nat.le_refl _)).2
theorem Fg {s:ByteArray} {hs:List HI} {fz m:Int} {a:Option Addr} {cap:Nat} {w:World} (hH:KC w.heap.size w (.slice a hs.length cap) hs) (hL:Lim hs) (hT:Xf hs) (hsz:s.size<=4000000000) (hm:w.cell? ⟨0,0,none⟩=some (.int .i64 m)):
 Calls prog 14 #[.string s,.agg #[.slice a hs.length cap],.int .i64 fz] w fun e w'=> ∃v,e= .returned (.tuple #[.string (applyA s hs fz).1,v,.int .i64 (applyA s hs fz).2.2])/\w'.ownsRow w.heap.size 63 3 v (applyA s hs fz).2.1.length (zL (applyA s hs fz).2.1)/\Below w.heap.size w w':=by
 by_cases hk:chkA s hs fz=0
 ·have hA:applyA s hs fz=(applyT (linesB s) fz.toNat (hs.map HI.toM),applyS (linesB s) fz.toNat (hs.map HI.toM),0):=by unfold applyA;rw [if_pos hk]
  rw [hA]
  obtain ⟨k1,k2,k3,k4,k5⟩:=Xe hk
  have hof:=Xv k3
  have hlen:(hs.map HI.toM).length=hs.length:=List.length_map ..
  have hR:=Jn k3 hL hT
  have hx:=kj k1 k2
  have hTl:=yz k2
  obtain ⟨N,rfl⟩: ∃N:Nat,fz=(N:Int):=⟨fz.toNat,by omega⟩
  have hm0:=World.block_lt_of_cell? _ _ hm
  have h1:=hH.2 (hs.map HI.toM) hof
  rw [<-hlen] at h1 ⊢
  have h2:=V.TT (s:=s) (hs:=hs.map HI.toM) (fz:=N) (a:=a) (cap:=cap) (m:=m) (w:=w) (fun W hW=>by
   have h3:=yH.of_hunks hW
   rw [hof,hlen] at h3
   have h4:=Zb (s:=s) (fz:=(N:Int)) h3 hL (by omega)
   rw [hk] at h4
   rw [hlen]
   exact h4) (by omega) h1 (by rw [hlen];exact hL.1) (by omega) hm (by show 0<w.heap.size;have:(0:Nat)<w.heap.size:=hm0;exact this) (fun h hh=>(hR h hh).ok) (by omega) hx
  refine h2.mono ?_
  rintro e w' ⟨v,he,ho,hb⟩
  refine ⟨v,he,?_,hb⟩
  simp only [Int.toNat_natCast]
  rw [Yn hR (by omega) hx]
  exact ho
 ·have hA:applyA s hs fz=(⟨#[]⟩,[],chkA s hs fz):=by unfold applyA;rw [if_neg hk]
  rw [hA]
  have hb0:=(Below.refl w.heap.size w).alloc (Nat.le_refl _) (.cells #[.slice a hs.length cap] 32)
  have hP0:=heap_alloc_new w (.cells #[.slice a hs.length cap] 32)
  have p0:(w.alloc (.cells #[.slice a hs.length cap] 32)).cell? ⟨w.heap.size,0,none⟩=some (.slice a hs.length cap):=za hP0 rfl
  have hc:=Zb (s:=s) (fz:=fz) ((hH.1.below hb0).mono hb0.size) hL (by omega)
  have hkB:(chkA s hs fz==0)=false:=by rw [beq_eq_false_iff_ne];exact hk
  have hz:w.heap.size<=(w.alloc (.cells #[.slice a hs.length cap] 32)).heap.size:=by simp
  generalize chkA s hs fz=ck at *
  clear hA hk hH hL hT
  go_enter func14,ntmps14
  go_wp2_with fail
  generalize w.alloc (.cells #[.slice a hs.length cap] 32)=W0 at *
  refine hc.mono ?_
  rintro e w1 ⟨rfl,b1⟩
  go_wp2_with fail
  refine bodyPost_ret (v:= .tuple #[.string ⟨#[]⟩,.slice none 0 0,.int .i64 ck]) ?_ rfl ⟨.slice none 0 0,rfl,World.ownsRow_nil _ _ _ _,hb0.trans (b1.mono hz)⟩
  simp [results,results14,go_sem]
theorem KS {s:ByteArray} {hs:List HI} {fz:Int} {a:Option Addr} {cap:Nat} {w:World} (hH:yH w.heap.size w (.slice a hs.length cap) hs) (hcp:ZT w (.slice a hs.length cap) hs.length) (hL:Lim hs) (hT:Xf hs) (hsz:s.size<=4000000000):
 Calls prog 92 #[.string s,.agg #[.slice a hs.length cap],.int .i64 fz] w fun e w'=> ∃v,e= .returned (.tuple #[.string (applyA s hs fz).1,v,.int .i64 (applyA s hs fz).2.2])/\w'.ownsRow w.heap.size 63 3 v (applyA s hs fz).2.1.length (zL (applyA s hs fz).2.1)/\Below w.heap.size w w':=by
 by_cases hk:chkA s hs fz=0
 ·have hA:applyA s hs fz=(applyT (linesB s) fz.toNat (hs.map HI.toM),applyS (linesB s) fz.toNat (hs.map HI.toM),0):=by unfold applyA;rw [if_pos hk]
  rw [hA]
  obtain ⟨k1,k2,k3,k4,k5⟩:=Xe hk
  have hof:=Xv k3
  have hlen:(hs.map HI.toM).length=hs.length:=List.length_map ..
  have hR:=Jn k3 hL hT
  have hx:=kj k1 k2
  have hTl:=yz k2
  obtain ⟨N,rfl⟩: ∃N:Nat,fz=(N:Int):=⟨fz.toNat,by omega⟩
  rw [<-hlen] at hcp ⊢
  have h2:=Vo (s:=s) (ms:=hs.map HI.toM) (fz:=N) (a:=a) (cap:=cap) (w:=w) hsz (by rw [jM];exact k1) k2 (by omega) (by rw [hof,hlen];exact hH) hcp (by rw [hof];exact k3) (by rw [hof];exact hL) hR hx
  refine h2.mono ?_
  rintro e w' ⟨v,he,ho,hb⟩
  refine ⟨v,he,?_,hb⟩
  simp only [Int.toNat_natCast]
  rw [Yn hR (by omega) hx]
  exact ho
 ·have hA:applyA s hs fz=(⟨#[]⟩,[],chkA s hs fz):=by unfold applyA;rw [if_neg hk]
  rw [hA]
  obtain ⟨W0,hW0⟩: ∃W0,w.alloc (.cells #[.slice a hs.length cap] 32)=W0:=⟨_,rfl⟩
  have b0:Below w.heap.size w W0:=by rw [<-hW0];exact (Below.refl _ _).alloc (Nat.le_refl _) _
  have z0:W0.heap.size=w.heap.size+1:=by rw [<-hW0];simp
  have hP0:W0.heap[w.heap.size]? =some (.cells #[.slice a hs.length cap] 32 (0,0)):=by rw [<-hW0];exact heap_alloc_new w _
  have hl1:=xM s W0 hsz
  have hlg:=fun W:World=>Zn s W hsz
  have hRt:=fun (W:World) (h:yH W.heap.size W (.slice a hs.length cap) hs)=>ja (w:=W) h hL
  have hcv:Hid (chkA s hs fz=chkA s hs fz):=rfl
  rw [jM] at hl1
  unfold chkA at hk ⊢
  clear hcv hA hcp hT
  cases g1:yd s with
  | false=>
    rw [g1] at hl1
    simp only [if_true]
    clear hk hlg hRt hL hH g1
    go_enter func92,ntmps92
    go_wp2_with fail
    clear hW0
    refine hl1.mono ?_
    rintro e W1 ⟨aT,cT,rfl,_,b1⟩
    go_wp2_with fail
    refine bodyPost_ret (v:= .tuple #[.string ⟨#[]⟩,.slice none 0 0,.int .i64 2]) ?_ rfl ⟨.slice none 0 0,rfl,World.ownsRow_nil _ _ _ _,b0.trans (b1.mono (by omega))⟩
    simp [results,results92,go_sem]
  | true=>
  rw [g1] at hl1 hk
  simp only [Bool.true_eq_false,if_false] at hk ⊢
  cases g2:yb s with
  | true=>
    rw [g2] at hlg
    simp only [if_true]
    clear hk hRt hL hH g1 g2
    go_enter func92,ntmps92
    go_wp2_with fail
    clear hW0
    refine hl1.mono ?_
    rintro e W1 ⟨aT,cT,rfl,_,b1⟩
    have z1:=b1.size
    go_wp2_with fail
    refine (hlg W1).mono ?_
    rintro e W2 ⟨rfl,b2⟩
    go_wp2_with fail
    refine bodyPost_ret (v:= .tuple #[.string ⟨#[]⟩,.slice none 0 0,.int .i64 1]) ?_ rfl ⟨.slice none 0 0,rfl,World.ownsRow_nil _ _ _ _,(b0.trans (b1.mono (by omega))).trans (b2.mono (by omega))⟩
    simp [results,results92,go_sem]
  | false=>
  rw [g2] at hlg hk
  simp only [Bool.false_eq_true,if_false] at hk ⊢
  cases g3:zQ 0 0 hs with
  | false=>
    rw [g3] at hRt
    simp only [if_true]
    clear hk g1 g2 g3
    have hRtH:Hid _:=hRt
    clear hRt
    go_enter func92,ntmps92
    go_wp2_with fail
    clear hW0
    refine hl1.mono ?_
    rintro e W1 ⟨aT,cT,rfl,_,b1⟩
    have z1:=b1.size
    go_wp2_with fail
    refine (hlg W1).mono ?_
    rintro e W2 ⟨rfl,b2⟩
    have z2:=b2.size
    have b02:=b1.trans (b2.mono (by omega))
    have bw2:=b0.trans (b02.mono (by omega))
    have c2:W2.cell? ⟨w.heap.size,0,none⟩=some (.slice a hs.length cap):=za ((b02.block w.heap.size (by omega)).trans hP0) rfl
    have hr2:=hRtH.out W2 ((hH.below bw2).mono bw2.size)
    clear hRtH
    go_wp2_with fail
    refine hr2.mono ?_
    rintro e W3 ⟨rfl,b3⟩
    go_wp2_with fail
    refine bodyPost_ret (v:= .tuple #[.string ⟨#[]⟩,.slice none 0 0,.int .i64 4]) ?_ rfl ⟨.slice none 0 0,rfl,World.ownsRow_nil _ _ _ _,bw2.trans (b3.mono (by omega))⟩
    simp [results,results92,go_sem]
  | true=>
    rw [g3] at hRt hk
    simp only [Bool.true_eq_false,if_false] at hk ⊢
    have hfz:fz<0\/10<fz:=by
     by_cases h:fz<0\/10<fz
     ·exact h
     ·rw [if_neg h] at hk;exact absurd rfl hk
    rw [if_pos hfz]
    clear hk g1 g2 g3
    have hRtH:Hid _:=hRt
    clear hRt
    have hfH:Hid (fz<0\/10<fz):=hfz
    clear hfz
    go_enter func92,ntmps92
    go_wp2_with fail
    clear hW0
    refine hl1.mono ?_
    rintro e W1 ⟨aT,cT,rfl,_,b1⟩
    have z1:=b1.size
    go_wp2_with fail
    refine (hlg W1).mono ?_
    rintro e W2 ⟨rfl,b2⟩
    have z2:=b2.size
    have b02:=b1.trans (b2.mono (by omega))
    have bw2:=b0.trans (b02.mono (by omega))
    have c2:W2.cell? ⟨w.heap.size,0,none⟩=some (.slice a hs.length cap):=za ((b02.block w.heap.size (by omega)).trans hP0) rfl
    have hr2:=hRtH.out W2 ((hH.below bw2).mono bw2.size)
    clear hRtH
    go_wp2_with fail
    refine hr2.mono ?_
    rintro e W3 ⟨rfl,b3⟩
    by_cases t1:fz<0
    ·go_wp2_with fail
     refine bodyPost_ret (v:= .tuple #[.string ⟨#[]⟩,.slice none 0 0,.int .i64 3]) ?_ rfl ⟨.slice none 0 0,rfl,World.ownsRow_nil _ _ _ _,bw2.trans (b3.mono (by omega))⟩
     simp [results,results92,go_sem]
    ·have t2:10<fz:=by have:=hfH.out;omega
     go_wp2_with fail
     refine bodyPost_ret (v:= .tuple #[.string ⟨#[]⟩,.slice none 0 0,.int .i64 3]) ?_ rfl ⟨.slice none 0 0,rfl,World.ownsRow_nil _ _ _ _,bw2.trans (b3.mono (by omega))⟩
     simp [results,results92,go_sem]
theorem VM {n:Nat} {s:List UInt8} (h:1<=n):(if n=0 then [] else Lib.decDigits n)++s=(if n / 10=0 then [] else Lib.decDigits (n / 10))++(UInt8.ofNat (48+n % 10)::s):=by
 rw [if_neg (by omega)]
 by_cases h10:n<10
 ·rw [Lib.decDigits,dif_pos h10,if_pos (by omega),show n % 10=n by omega]
  rfl
 ·rw [Lib.decDigits,dif_neg h10,if_neg (by omega)]
  simp
theorem jY (N:Nat) (hN:N<=100000) (w:World):Calls prog 122 #[.int .i64 (N:Int)] w fun e w'=>e= .returned (.string (dcB N))/\Below w.heap.size w w':=by
 go_enter func122,ntmps122
 go_wp2_with fail
 go_loopg [0,3] (N+1) (fun g t0 t3 wr=> ∃(n:Nat) (l:List UInt8),t0= .int .i64 n/\n<=N/\t3= .string ⟨l.toArray⟩/\l.length<=6/\g=(if l= [] then n+1 else n)/\Hid ((l= []/\n=N)\/(l≠ []/\Lib.decDigits N=(if n=0 then [] else Lib.decDigits n)++l))/\Below w.heap.size w wr)
 case atStart=>exact ⟨N,[],rfl,Nat.le_refl _,rfl,by simp,by simp,.inl ⟨rfl,rfl⟩,Below.refl _ _⟩
 case round=>
  obtain ⟨n,l,rfl,hnN,rfl,hl6,hgk,hI,hb⟩:=hrel
  have hG:Hid (gk=(if l= [] then n+1 else n)):=hgk
  clear hgk
  have hz:=hb.size
  have hgo:Hid (n=0->l= []->N=0):=by
   intro h1 h2
   rcases hI.out with ⟨_,e⟩ | ⟨e,_⟩
   ·omega
   ·exact absurd h2 e
  have hcv:=YM (48+n % 10) (by omega) wr
  push_cast at hcv
  have x1:IntKind.i64.wrap (48+(n:Int) % 10)=48+(n:Int) % 10:=by rw [IntKind.wrap_i64];omega
  have x2:IntKind.u8.wrap (48+(n:Int) % 10)=48+(n:Int) % 10:=by rw [IntKind.wrap_u8];omega
  have hba:=hb.alloc hz (.cells #[.int .u8 (48+(n:Int) % 10)] 5)
  have hcat:Hid ((⟨#[48+UInt8.ofNat (n % 10)]⟩:ByteArray)++⟨l.toArray⟩=⟨(UInt8.ofNat (48+n % 10)::l).toArray⟩):=by
   show _=_
   apply ByteArray.ext
   have:UInt8.ofNat (48+n % 10)=48+UInt8.ofNat (n % 10):=by simp
   rw [this]
   simp [ByteArray.data_append]
  have hnew:Hid ((l= []\/1<=n)->Lib.decDigits N=(if n / 10=0 then [] else Lib.decDigits (n / 10))++(UInt8.ofNat (48+n % 10)::l)):=by
   intro hc
   rcases hI.out with ⟨e1,e2⟩ | ⟨e1,e2⟩
   ·subst e1
    rw [<-e2]
    by_cases h0:n=0
    ·subst h0;rw [Lib.decDigits,dif_pos (by omega)];rfl
    ·have:=VM (n:=n) (s:= []) (by omega)
     rw [if_neg h0] at this
     simpa using this
   ·rw [e2]
    exact VM (by rcases hc with h | h;exact absurd h e1;exact h)
  have hlen:Hid ((l= []\/1<=n)->(UInt8.ofNat (48+n % 10)::l).length<=6):=by
   intro hc
   have h1:=congrArg List.length (hnew.out hc)
   rw [List.length_append] at h1
   have:=km hN
   omega
  have hsz:(⟨l.toArray⟩:ByteArray).size<=6:=by rw [xq];exact hl6
  have hie:((⟨l.toArray⟩:ByteArray).toList==(⟨#[]⟩:ByteArray).toList)=decide (l= []):=by
   rw [Lib.toList_data,Lib.toList_data]
   cases l with
   | nil=>rfl
   | cons a l=>simp
  by_cases hn:0<n
  ·have hnI:(0:Int)<n:=by omega
   have hnx:Hid _:=hnew.out (.inr hn)
   have hlx:=hlen.out (.inr hn)
   have hmes:Hid (n / 10<gk):=by show _<_;rw [hG.out];split<;>omega
   clear hI hgo hnew hlen hG hie
   generalize hsl:(⟨l.toArray⟩:ByteArray)=sl at *
   go_wp2_with fail
   go_roundg (n / 10)
   ·exact ⟨n / 10,_,by push_cast;rfl,by omega,by rw [<-hcat.out];try rfl,hlx,by simp,.inr ⟨by simp,hnx.out⟩,hba⟩
   ·exact hmes.out
  ·have hn0:n=0:=by omega
   subst hn0
   have hnI: ¬(0:Int)<((0:Nat):Int):=by omega
   by_cases he:l= []
   ·have hd:decide (l= [])=true:=decide_eq_true he
    rw [hd] at hie
    have hnx:Hid _:=hnew.out (.inl he)
    have hlx:=hlen.out (.inl he)
    have hmes:Hid (0<gk):=by show _<_;rw [hG.out,if_pos he];omega
    clear hI hgo hnew hlen hG hd he
    generalize hsl:(⟨l.toArray⟩:ByteArray)=sl at *
    have hie2:(sl.toList== [])=true:=by rw [<-hie];rw [show (⟨#[]⟩:ByteArray).toList= [] by rw [Lib.toList_data]]
    have hcv0:(convert 72 9 (.slice (some ⟨wr.heap.size,0,none⟩) 1 1)).run prog (wr.alloc (.cells #[.int .u8 48] 5))= .ok (.string ⟨#[48]⟩) (wr.alloc (.cells #[.int .u8 48] 5)):=YM 48 (by decide) wr
    go_wp2_with fail
    go_roundg 0
    ·exact ⟨0,_,by push_cast;rfl,by omega,by rw [<-hcat.out]<;>rfl,hlx,by simp,.inr ⟨by simp,hnx.out⟩,hba⟩
    ·exact hmes.out
   ·have hd:decide (l= [])=false:=decide_eq_false he
    rw [hd] at hie
    have hF:Hid (dcB N=⟨l.toArray⟩):=by
     show _=_
     rcases hI.out with ⟨e1,_⟩ | ⟨_,e2⟩
     ·exact absurd e1 he
     ·unfold dcB;rw [e2];rfl
    clear hI hgo hnew hlen hG hd he
    generalize hsl:(⟨l.toArray⟩:ByteArray)=sl at *
    have hie2:(sl.toList== [])=false:=by rw [<-hie];rw [show (⟨#[]⟩:ByteArray).toList= [] by rw [Lib.toList_data]]
    go_wp2_with fail
    go_ret
    exact ⟨by rw [hF.out];try rfl,hb⟩
theorem ZM {a b c d:Nat} (l1:a<=100000) (l2:b<=100000) (l3:c<=100000) (l4:d<=100000) (v:Value) (w:World):
 Calls prog 89 #[.agg #[.int .i64 (a:Int),.int .i64 (b:Int),.int .i64 (c:Int),.int .i64 (d:Int),v]] w fun e w'=>e= .returned (.string (headB a b c d))/\Below w.heap.size w w':=by
 have hB:=heap_alloc_new w (.cells #[.int .i64 (a:Int),.int .i64 (b:Int),.int .i64 (c:Int),.int .i64 (d:Int),v] 61)
 have b0:=(Below.refl w.heap.size w).alloc (Nat.le_refl _) (.cells #[.int .i64 (a:Int),.int .i64 (b:Int),.int .i64 (c:Int),.int .i64 (d:Int),v] 61)
 have hz:(w.alloc (.cells #[.int .i64 (a:Int),.int .i64 (b:Int),.int .i64 (c:Int),.int .i64 (d:Int),v] 61)).heap.size=w.heap.size+1:=by simp
 have z1:=jO l1
 have z2:=jO l2
 have z3:=jO l3
 have z4:=jO l4
 rw [EL]
 have s1:Hid (∀w1,Calls prog 122 #[.int .i64 (a:Int)] w1 fun e w'=> ∃v,e= .returned v/\(v= .string (dcB a)/\Below w1.heap.size w1 w')):=fun w1=>(jY a l1 w1).mono fun e w' h=>⟨_,h.1,rfl,h.2⟩
 have s2:Hid (∀w1,Calls prog 122 #[.int .i64 (b:Int)] w1 fun e w'=> ∃v,e= .returned v/\(v= .string (dcB b)/\Below w1.heap.size w1 w')):=fun w1=>(jY b l2 w1).mono fun e w' h=>⟨_,h.1,rfl,h.2⟩
 have s3:Hid (∀w1,Calls prog 122 #[.int .i64 (c:Int)] w1 fun e w'=> ∃v,e= .returned v/\(v= .string (dcB c)/\Below w1.heap.size w1 w')):=fun w1=>(jY c l3 w1).mono fun e w' h=>⟨_,h.1,rfl,h.2⟩
 have s4:Hid (∀w1,Calls prog 122 #[.int .i64 (d:Int)] w1 fun e w'=> ∃v,e= .returned v/\(v= .string (dcB d)/\Below w1.heap.size w1 w')):=fun w1=>(jY d l4 w1).mono fun e w' h=>⟨_,h.1,rfl,h.2⟩
 generalize dcB a=p1 at *
 generalize dcB b=p2 at *
 generalize dcB c=p3 at *
 generalize dcB d=p4 at *
 obtain ⟨S,hS⟩: ∃S:ByteArray,⟨#[64,64,32,45]⟩++p1++⟨#[44]⟩++p2++⟨#[32,43]⟩++p3++⟨#[44]⟩++p4++⟨#[32,64,64]⟩=S:=⟨_,rfl⟩
 rw [hS]
 have hSH:Hid (⟨#[64,64,32,45]⟩++p1++⟨#[44]⟩++p2++⟨#[32,43]⟩++p3++⟨#[44]⟩++p4++⟨#[32,64,64]⟩=S):=hS
 clear hS
 go_enter func89,ntmps89
 go_wp2_with fail
 generalize w.alloc (.cells #[.int .i64 (a:Int),.int .i64 (b:Int),.int .i64 (c:Int),.int .i64 (d:Int),v] 61)=W at *
 have hW:Below w.heap.size w W.drew:=b0.drew
 have hlt:w.heap.size<W.drew.heap.size:=by show w.heap.size<W.heap.size;omega
 have hI0:W.drew.heap[w.heap.size]? =some (.cells #[.int .i64 (a:Int),.int .i64 (b:Int),.int .i64 (c:Int),.int .i64 (d:Int),v] 61 (0,0)):=hB
 clear hB b0 hz
 refine wp_region_any yg (yS.any (I:=fun w'=>w'.heap[w.heap.size]? =some (.cells #[.int .i64 (a:Int),.int .i64 (b:Int),.int .i64 (c:Int),.int .i64 (d:Int),v] 61 (0,0))) ?_)
 refine zp (i:=0) (n:=20) (v:= .pointer (some ⟨w.heap.size,0,none⟩)) rfl (by kernel_rfl) (fun c a w h=>h) ⟨by simp [Region.wanted],fun w' hw=> ?_⟩ ?_
 ·simp [execOp,go_sem,Act.eval]
 refine zp (i:=1) (n:=19) (v:= .int .i64 (a:Int)) rfl (by kernel_rfl) (fun c a w h=>h) ⟨by simp [Region.wanted],fun w' hw=> ?_⟩ ?_
 ·have hc:w'.cell? ⟨w.heap.size,0,none⟩=some (.int .i64 (a:Int)):=za (k:=0) hw rfl;simp [execOp,go_sem,Act.eval,Act.put,hc]
 refine zp (i:=5) (n:=18) (v:= .pointer (some ⟨w.heap.size,1,none⟩)) rfl (by kernel_rfl) (fun c a w h=>h) ⟨by simp [Region.wanted],fun w' hw=> ?_⟩ ?_
 ·simp [execOp,go_sem,Act.eval,Act.put]
 refine zp (i:=6) (n:=17) (v:= .int .i64 (b:Int)) rfl (by kernel_rfl) (fun c a w h=>h) ⟨by simp [Region.wanted],fun w' hw=> ?_⟩ ?_
 ·have hc:w'.cell? ⟨w.heap.size,1,none⟩=some (.int .i64 (b:Int)):=za (k:=1) hw rfl;simp [execOp,go_sem,Act.eval,Act.put,hc]
 refine zp (i:=10) (n:=16) (v:= .pointer (some ⟨w.heap.size,2,none⟩)) rfl (by kernel_rfl) (fun c a w h=>h) ⟨by simp [Region.wanted],fun w' hw=> ?_⟩ ?_
 ·simp [execOp,go_sem,Act.eval,Act.put]
 refine zp (i:=11) (n:=15) (v:= .int .i64 (c:Int)) rfl (by kernel_rfl) (fun c a w h=>h) ⟨by simp [Region.wanted],fun w' hw=> ?_⟩ ?_
 ·have hc:w'.cell? ⟨w.heap.size,2,none⟩=some (.int .i64 (c:Int)):=za (k:=2) hw rfl;simp [execOp,go_sem,Act.eval,Act.put,hc]
 refine zp (i:=15) (n:=14) (v:= .pointer (some ⟨w.heap.size,3,none⟩)) rfl (by kernel_rfl) (fun c a w h=>h) ⟨by simp [Region.wanted],fun w' hw=> ?_⟩ ?_
 ·simp [execOp,go_sem,Act.eval,Act.put]
 refine zp (i:=16) (n:=13) (v:= .int .i64 (d:Int)) rfl (by kernel_rfl) (fun c a w h=>h) ⟨by simp [Region.wanted],fun w' hw=> ?_⟩ ?_
 ·have hc:w'.cell? ⟨w.heap.size,3,none⟩=some (.int .i64 (d:Int)):=za (k:=3) hw rfl;simp [execOp,go_sem,Act.eval,Act.put,hc]
 refine yy (i:=2) (n:=12) hI0 (by kernel_rfl) ?_
 refine xK rfl rfl 122 _ _ rfl #[.int .i64 (a:Int)] (by simp [Act.eval,Act.put]) (kc _ _) (fun v w'=>v= .string p1/\Below W.drew.heap.size W.drew w') (s1.out _) ?_
 rintro v1 W1 ⟨rfl,hb1⟩
 have hI1:=(hb1.block w.heap.size hlt).trans hI0
 have hW1:=hW.trans (hb1.mono hW.size)
 replace hlt:w.heap.size<W1.heap.size:=by have:=hb1.size;omega
 refine zp (i:=3) (n:=11) (v:= .string (⟨#[64,64,32,45]⟩++p1)) rfl (by kernel_rfl) (fun c a w h=>h) ⟨by simp [Region.wanted],fun w' hw=> ?_⟩ ?_
 ·have k1: ¬9223372036854775807<4+p1.size:=(by omega);simp [execOp,go_sem,Act.eval,Act.put,k1]
 refine zp (i:=4) (n:=10) (v:= .string (⟨#[64,64,32,45]⟩++p1++⟨#[44]⟩)) rfl (by kernel_rfl) (fun c a w h=>h) ⟨by simp [Region.wanted],fun w' hw=> ?_⟩ ?_
 ·have k1: ¬9223372036854775807<4+p1.size+1:=(by omega);simp [execOp,go_sem,Act.eval,Act.put,k1]
 refine yy (i:=7) (n:=9) hI1 (by kernel_rfl) ?_
 refine xK rfl rfl 122 _ _ rfl #[.int .i64 (b:Int)] (by simp [Act.eval,Act.put]) (kc _ _) (fun v w'=>v= .string p2/\Below W1.heap.size W1 w') (s2.out _) ?_
 rintro v2 W2 ⟨rfl,hb2⟩
 have hI2:=(hb2.block w.heap.size hlt).trans hI1
 have hW2:=hW1.trans (hb2.mono hW1.size)
 replace hlt:w.heap.size<W2.heap.size:=by have:=hb2.size;omega
 refine zp (i:=8) (n:=8) (v:= .string (⟨#[64,64,32,45]⟩++p1++⟨#[44]⟩++p2)) rfl (by kernel_rfl) (fun c a w h=>h) ⟨by simp [Region.wanted],fun w' hw=> ?_⟩ ?_
 ·have k1: ¬9223372036854775807<4+p1.size+1+p2.size:=(by omega);simp [execOp,go_sem,Act.eval,Act.put,k1]
 refine zp (i:=9) (n:=7) (v:= .string (⟨#[64,64,32,45]⟩++p1++⟨#[44]⟩++p2++⟨#[32,43]⟩)) rfl (by kernel_rfl) (fun c a w h=>h) ⟨by simp [Region.wanted],fun w' hw=> ?_⟩ ?_
 ·have k1: ¬9223372036854775807<4+p1.size+1+p2.size+2:=(by omega);simp [execOp,go_sem,Act.eval,Act.put,k1]
 refine yy (i:=12) (n:=6) hI2 (by kernel_rfl) ?_
 refine xK rfl rfl 122 _ _ rfl #[.int .i64 (c:Int)] (by simp [Act.eval,Act.put]) (kc _ _) (fun v w'=>v= .string p3/\Below W2.heap.size W2 w') (s3.out _) ?_
 rintro v3 W3 ⟨rfl,hb3⟩
 have hI3:=(hb3.block w.heap.size hlt).trans hI2
 have hW3:=hW2.trans (hb3.mono hW2.size)
 replace hlt:w.heap.size<W3.heap.size:=by have:=hb3.size;omega
 refine zp (i:=13) (n:=5) (v:= .string (⟨#[64,64,32,45]⟩++p1++⟨#[44]⟩++p2++⟨#[32,43]⟩++p3)) rfl (by kernel_rfl) (fun c a w h=>h) ⟨by simp [Region.wanted],fun w' hw=> ?_⟩ ?_
 ·have k1: ¬9223372036854775807<4+p1.size+1+p2.size+2+p3.size:=(by omega);simp [execOp,go_sem,Act.eval,Act.put,k1]
 refine zp (i:=14) (n:=4) (v:= .string (⟨#[64,64,32,45]⟩++p1++⟨#[44]⟩++p2++⟨#[32,43]⟩++p3++⟨#[44]⟩)) rfl (by kernel_rfl) (fun c a w h=>h) ⟨by simp [Region.wanted],fun w' hw=> ?_⟩ ?_
 ·have k1: ¬9223372036854775807<4+p1.size+1+p2.size+2+p3.size+1:=(by omega);simp [execOp,go_sem,Act.eval,Act.put,k1]
 refine yy (i:=17) (n:=3) hI3 (by kernel_rfl) ?_
 refine xK rfl rfl 122 _ _ rfl #[.int .i64 (d:Int)] (by simp [Act.eval,Act.put]) (kc _ _) (fun v w'=>v= .string p4/\Below W3.heap.size W3 w') (s4.out _) ?_
 rintro v4 W4 ⟨rfl,hb4⟩
 have hI4:=(hb4.block w.heap.size hlt).trans hI3
 have hW4:=hW3.trans (hb4.mono hW3.size)
 replace hlt:w.heap.size<W4.heap.size:=by have:=hb4.size;omega
 refine zp (i:=18) (n:=2) (v:= .string (⟨#[64,64,32,45]⟩++p1++⟨#[44]⟩++p2++⟨#[32,43]⟩++p3++⟨#[44]⟩++p4)) rfl (by kernel_rfl) (fun c a w h=>h) ⟨by simp [Region.wanted],fun w' hw=> ?_⟩ ?_
 ·have k1: ¬9223372036854775807<4+p1.size+1+p2.size+2+p3.size+1+p4.size:=(by omega);simp [execOp,go_sem,Act.eval,Act.put,k1]
 refine zp (i:=19) (n:=1) (v:= .string S) rfl (by kernel_rfl) (fun c a w h=>h) ⟨by simp [Region.wanted],fun w' hw=> ?_⟩ ?_
 ·have k1: ¬9223372036854775807<4+p1.size+1+p2.size+2+p3.size+1+p4.size+3:=(by omega);have k2:⟨#[64,64,32,45]⟩++p1++⟨#[44]⟩++p2++⟨#[32,43]⟩++p3++⟨#[44]⟩++p4++⟨#[32,64,64]⟩=S:=hSH.out;simp [execOp,go_sem,Act.eval,Act.put,k1,k2]
 refine zp (i:=20) (n:=0) (v:= .string S) rfl (by kernel_rfl) (fun c a w h=>h) ⟨by simp [Region.wanted],fun w' hw=> ?_⟩ ?_
 ·simp [execOp,go_sem,Act.eval,Act.put]
 refine qi hI4 (by kernel_rfl) ?_
 go_wp2_with fail
 refine bodyPost_ret (v:= .string S) ?_ rfl ⟨rfl,hW4⟩
 simp [results,results89,go_sem,Act.put]
end Go.Proofs.YtcclgodahlinbaaGreatDoor
