import Derived.Test.YtcclgodahlinbaaGreatDoorA40
import Derived.Test.YtcclgodahlinbaaGreatDoorA23
import Derived.Test.YtcclgodahlinbaaGreatDoorA21
import Derived.Test.YtcclgodahlinbaaGreatDoorA37
namespace Go.Proofs.YtcclgodahlinbaaGreatDoor
set_option maxHeartbeats 16000000
open Tryz Go.RowKit Go
set_option maxRecDepth 100000
theorem FB {h:HI} (h1:numOk h.fr h.fc=true) (h2:numOk h.tr h.tc=true):(VP h).length<=35:=by
 obtain ⟨a,b,c,d,n⟩:=YL h1 h2
 rw [Zu n]
 exact Xb n.l1 n.l2 n.l3 n.l4
theorem Qk (L:List zk) (X:Nat) (h: ∀s∈L,s.text.size<=X):(linesL L).length<=(X+2)*L.length:=by
 induction L with
 | nil=>simp [linesL]
 | cons s L ih=>
   have h1:=h s (by simp)
   have h2:=ih fun x hx=>h x (by simp [hx])
   have h3:=Zk s
   have e:linesL (s::L)=ZX s++linesL L:=by simp [linesL]
   rw [e,List.length_append,List.length_cons,Nat.mul_succ]
   omega
theorem Gp (hs:List HI) (hL:Lim hs) (hN:KX hs): ∀k,k<=hs.length->(writeI (hs.take k)).length<=1099515822080*k:=by
 intro k
 induction k with
 | zero=>intro _;simp [writeI]
 | succ k ih=>
   intro hk
   have h0:=ih (by omega)
   have hk':k<hs.length:=by omega
   rw [jx hk',List.length_append]
   obtain ⟨l1, -, -, -, -,l2⟩:=hL.2 _ (List.getElem_mem hk')
   obtain ⟨n1,n2⟩:=hN _ (List.getElem_mem hk')
   have h1:=FB n1 n2
   have h2:=Qk hs[k].lines 1048576 fun s hs=>(l2 s hs).2
   have h3:(1048576+2)*hs[k].lines.length<=(1048576+2)*1048576:=Nat.mul_le_mul_left _ l1
   have e:(QT hs[k]).length=(VP hs[k]).length+1+(linesL hs[k].lines).length:=by unfold QT;simp [List.length_append];omega
   omega
theorem Yw {hs:List HI} {a:Option Addr} {cap:Nat} {w:World} (hH:yH w.heap.size w (.slice a hs.length cap) hs) (hL:Lim hs):
 Calls prog 43 #[.agg #[.slice a hs.length cap]] w fun e w'=>e= .returned (.tuple #[.string (writeA hs).1,.int .i64 (writeA hs).2])/\Below w.heap.size w w':=by
 have hb0:=(Below.refl w.heap.size w).alloc (Nat.le_refl _) (.cells #[.slice a hs.length cap] 32)
 have hB0:=heap_alloc_new w (.cells #[.slice a hs.length cap] 32)
 have hz0:(w.alloc (.cells #[.slice a hs.length cap] 32)).heap.size=w.heap.size+1:=by simp
 have y0:=za (k:=0) hB0 rfl
 have hir:=ja ((hH.below hb0).mono (by omega:w.heap.size<=(w.alloc (.cells #[.slice a hs.length cap] 32)).heap.size)) hL
 cases hr:zQ 0 0 hs with
 | false=>
   have hA:writeA hs=(⟨#[]⟩,4):=by unfold writeA;rw [hr];rfl
   rw [hA]
   rw [hr] at hir
   clear hA hr
   go_enter func43,ntmps43
   go_wp2_with fail
   generalize w.alloc (.cells #[.slice a hs.length cap] 32)=W0 at *
   refine hir.mono ?_
   rintro e w1 ⟨rfl,hb1⟩
   go_wp2_with fail
   go_ret2
   exact ⟨rfl,hb0.trans (hb1.mono (by omega))⟩
 | true=>
   have hN:KX hs:=fun h hh=>⟨(xL hr h hh).1,(xL hr h hh).2.1⟩
   have hA:writeA hs=(if (writeI hs).length<=20000 then (⟨(writeI hs).toArray⟩,0) else (⟨#[]⟩,1)):=by unfold writeA;rw [hr];rfl
   rw [hA]
   rw [hr] at hir
   clear hA hr
   have hwl:=Gp hs hL hN
   obtain ⟨hL1,hL2⟩:=hL
   go_enter func43,ntmps43
   go_wp2_with fail
   generalize w.alloc (.cells #[.slice a hs.length cap] 32)=W0 at *
   refine hir.mono ?_
   rintro e W1 ⟨rfl,hb1⟩
   have hbW1:=hb0.trans (hb1.mono (by omega))
   have hB1:=(hb1.block w.heap.size (by omega)).trans hB0
   have hz1:w.heap.size<W1.heap.size:=by have:=hb1.size;omega
   clear hir hb1 hB0 y0
   go_wp2_with fail
   go_loopg [5,6] hs.length (fun g t5 t6 wr=> ∃k:Nat,g=hs.length-k/\k<=hs.length/\t5= .int .i64 ((writeI (hs.take k)).length:Nat)/\t6= .int .i64 k/\Below W1.heap.size W1 wr)
   case atStart=>exact ⟨0,by omega,by omega,rfl,rfl,Below.refl _ _⟩
   case round=>
    obtain ⟨k,hgk,hkl,rfl,rfl,hbel⟩:=hrel
    have hG:Hid (gk=hs.length-k):=hgk
    clear hgk
    have hsz:=hbel.size
    have hbw:=hbW1.trans (hbel.mono (by omega))
    have p0:wr.cell? ⟨w.heap.size,0,none⟩=some (.slice a hs.length cap):=za ((hbel.block w.heap.size (by omega)).trans hB1) rfl
    have hn0:=hwl k hkl
    by_cases hk:k<hs.length
    ·have hkI:(k:Int)<hs.length:=by omega
     obtain ⟨b,off,a',c',rfl,hbB,r0,r1,r2,r3,r4,hst⟩:=(hH.below hbw).at hk
     obtain ⟨l1, -, -, -, -,l2⟩:=hL2 _ (List.getElem_mem hk)
     obtain ⟨n1,n2⟩:=hN _ (List.getElem_mem hk)
     obtain ⟨A,B,C,D,hnn⟩:=YL n1 n2
     have hwt:Hid ((writeI (hs.take (k+1))).length=(writeI (hs.take k)).length+(headB A B C D).size+1+(linesL hs[k].lines).length):=by
      show _=_
      rw [jx hk,List.length_append]
      unfold QT headB
      rw [Zu hnn,xq]
      simp [List.length_append]
      omega
     have hll:=Qk hs[k].lines 1048576 fun s hs=>(l2 s hs).2
     have hll2:Hid (∀j,(linesL (hs[k].lines.take j)).length<=(linesL hs[k].lines).length):=Xi _
     generalize hs[k]=h at *
     rw [hnn.e1] at r0
     rw [hnn.e2] at r1
     rw [hnn.e3] at r2
     rw [hnn.e4] at r3
     have hhd:=ZM hnn.l1 hnn.l2 hnn.l3 hnn.l4 (.slice a' h.lines.length c') wr
     have hhz:=QY hnn.l1 hnn.l2 hnn.l3 hnn.l4
     have hM:(linesL h.lines).length<=1099513724928:=Nat.le_trans hll (Nat.le_trans (Nat.mul_le_mul_left _ l1) (by decide))
     clear hll n1 n2 hnn
     generalize headB A B C D=hb at *
     generalize (writeI (hs.take k)).length=N at *
     go_wp2_with fail
     refine hhd.mono ?_
     rintro e U ⟨rfl,hbU⟩
     have hzU:=hbU.size
     have p0':U.cell? ⟨w.heap.size,0,none⟩=some (.slice (some ⟨b,off,none⟩) hs.length cap):=(hbU.cell (p:=⟨w.heap.size,0,none⟩) (by show w.heap.size<_;omega)).trans p0
     have r4':U.cell? ⟨b,off+k*5+4,none⟩=some (.slice a' h.lines.length c'):=(hbU.cell (p:=⟨b,off+k*5+4,none⟩) (by show b<_;omega)).trans r4
     have hst':=hst.below (hbU.mono (by omega))
     have hbU1:=hbel.trans (hbU.mono (by omega))
     clear p0 r0 r1 r2 r3 r4 hst hhd
     go_wp2_with fail
     go_loopg [5,7] h.lines.length (fun g t5 t7 wi=> ∃j:Nat,g=h.lines.length-j/\j<=h.lines.length/\t5= .int .i64 ((N+hb.size+1+(linesL (h.lines.take j)).length:Nat):Int)/\t7= .int .i64 j/\wi=U)
     case atStart=>exact ⟨0,by omega,by omega,by simp [linesL],rfl,rfl⟩
     case round=>
      obtain ⟨j,hgj,hjl,rfl,rfl,rfl⟩:=hrel
      have hGj:Hid (_=h.lines.length-j):=hgj
      clear hgj
      by_cases hj:j<h.lines.length
      ·have hjI:(j:Int)<h.lines.length:=by omega
       obtain ⟨bb,off2,rfl,hbB2,s0,s1⟩:=hst'.at hj
       have hJ:Hid ((linesL (h.lines.take (j+1))).length=(linesL (h.lines.take j)).length+h.lines[j].text.size+2):=by
        show _=_
        rw [kL hj,List.length_append,Zk]
        omega
       obtain ⟨m1,m2⟩:=l2 _ (List.getElem_mem hj)
       have hJl:=hll2.out j
       generalize h.lines[j]=sx at *
       generalize hNN:N+hb.size+1+(linesL (h.lines.take j)).length=NN at *
       have hNb:NN<=400000000000000000:=by omega
       have hNH:Hid (N+hb.size+1+(linesL (h.lines.take j)).length=NN):=hNN
       clear hNN
       go_wp2_with fail
       go_roundg (h.lines.length-(j+1))
       ·refine ⟨j+1,rfl,by omega,?_,by push_cast;rfl,rfl⟩
        rw [hJ.out,show N+hb.size+1+((linesL (h.lines.take j)).length+sx.text.size+2)=NN+sx.text.size+2 by rw [<-hNH.out];omega]
        push_cast
        rfl
       ·have:=hGj.out;omega
      ·have hjI: ¬((j:Int)<h.lines.length):=by omega
       have hE:Hid (h.lines.take j=h.lines):=List.take_of_length_le (by omega)
       go_wp2_with fail
       go_roundg (hs.length-(k+1))
       ·exact ⟨k+1,rfl,by omega,by rw [hwt.out,hE.out];push_cast;rfl,by push_cast;rfl,hbU1⟩
       ·have:=hG.out;omega
    ·have hkI: ¬((k:Int)<hs.length):=by omega
     have hE:hs.take k=hs:=List.take_of_length_le (by omega)
     rw [hE] at hn0 ⊢
     by_cases hl:(writeI hs).length<=20000
     ·have hlI: ¬(20000:Int)<((writeI hs).length:Nat):=by omega
      have hwp:Hid (∀k,(writeI (hs.take k)).length<=20000):=fun k=>Nat.le_trans (JI hs k) hl
      have hlH:Hid ((writeI hs).length<=20000):=hl
      clear hl hn0 hwl
      go_wp2_with fail
      go_loopg [8,9] hs.length (fun g t8 t9 wq=> ∃k:Nat,g=hs.length-k/\k<=hs.length/\t8= .string ⟨(writeI (hs.take k)).toArray⟩/\t9= .int .i64 k/\Below wr.heap.size wr wq)
      case atStart=>exact ⟨0,by omega,by omega,rfl,rfl,Below.refl _ _⟩
      case round=>
       rename World=>wq
       obtain ⟨k2,hgk2,hkl2,rfl,rfl,hbq⟩:=hrel
       have hG2:Hid (_=hs.length-k2):=hgk2
       clear hgk2
       have hszq:=hbq.size
       have hbwq:=hbw.trans (hbq.mono (by omega))
       have p0q:wq.cell? ⟨w.heap.size,0,none⟩=some (.slice a hs.length cap):=(hbq.cell (p:=⟨w.heap.size,0,none⟩) (by show w.heap.size<_;omega)).trans p0
       by_cases hk2:k2<hs.length
       ·have hkI2:(k2:Int)<hs.length:=by omega
        obtain ⟨b,off,a',c',rfl,hbB,r0,r1,r2,r3,r4,hst⟩:=(hH.below hbwq).at hk2
        obtain ⟨l1, -, -, -, -,l2⟩:=hL2 _ (List.getElem_mem hk2)
        obtain ⟨n1,n2⟩:=hN _ (List.getElem_mem hk2)
        obtain ⟨A,B,C,D,hnn⟩:=YL n1 n2
        have hwt:Hid (writeI (hs.take (k2+1))=writeI (hs.take k2)++(yv A B C D++ [10])++linesL hs[k2].lines):=by
         show _=_
         rw [jx hk2]
         unfold QT
         rw [Zu hnn]
         simp
        have hwb:=hwp.out k2
        have hwb2:Hid _:=hwp.out (k2+1)
        generalize hs[k2]=h at *
        rw [hnn.e1] at r0
        rw [hnn.e2] at r1
        rw [hnn.e3] at r2
        rw [hnn.e4] at r3
        have hB2:=heap_alloc_new wq (.cells #[.int .i64 (A:Int),.int .i64 (B:Int),.int .i64 (C:Int),.int .i64 (D:Int),.slice a' h.lines.length c'] 61)
        have q2:=(Below.refl wq.heap.size wq).alloc (Nat.le_refl _) (.cells #[.int .i64 (A:Int),.int .i64 (B:Int),.int .i64 (C:Int),.int .i64 (D:Int),.slice a' h.lines.length c'] 61)
        have hz2:(wq.alloc (.cells #[.int .i64 (A:Int),.int .i64 (B:Int),.int .i64 (C:Int),.int .i64 (D:Int),.slice a' h.lines.length c'] 61)).heap.size=wq.heap.size+1:=by simp
        have hhd:=ZM hnn.l1 hnn.l2 hnn.l3 hnn.l4 (.slice a' h.lines.length c') (wq.alloc (.cells #[.int .i64 (A:Int),.int .i64 (B:Int),.int .i64 (C:Int),.int .i64 (D:Int),.slice a' h.lines.length c'] 61))
        have hhz:=QY hnn.l1 hnn.l2 hnn.l3 hnn.l4
        have hhe:Hid ((⟨(writeI (hs.take k2)).toArray⟩:ByteArray)++headB A B C D++⟨#[10]⟩=⟨(writeI (hs.take k2)++(yv A B C D++ [10])).toArray⟩):=by
         show _=_
         unfold headB
         apply ByteArray.ext
         simp [ByteArray.data_append]
        have hsz1:(⟨(writeI (hs.take k2)).toArray⟩:ByteArray).size<=20000:=by rw [xq];exact hwb
        have hT2l:Hid ((writeI (hs.take k2)++(yv A B C D++ [10])).length+(linesL h.lines).length<=20000):=by
         have:=hwb2.out
         rw [hwt.out,List.length_append] at this
         exact this
        have hll2:Hid (∀j,(linesL (h.lines.take j)).length<=(linesL h.lines).length):=Xi _
        clear n1 n2 hnn hwb2
        generalize writeI (hs.take k2)=T at *
        generalize headB A B C D=hb at *
        go_wp2_with fail
        generalize wq.alloc (.cells #[.int .i64 (A:Int),.int .i64 (B:Int),.int .i64 (C:Int),.int .i64 (D:Int),.slice a' h.lines.length c'] 61)=V at *
        refine hhd.mono ?_
        rintro e U ⟨rfl,hbU⟩
        have hzU:=hbU.size
        have hBU:=(hbU.block wq.heap.size (by omega)).trans hB2
        have hbqU:=(q2.trans (hbU.mono (by omega)))
        have hst':=hst.below (hbqU.mono (by have:=hbwq.size;omega))
        clear p0q r0 r1 r2 r3 r4 hst hhd hB2
        generalize hT2:T++(yv A B C D++ [10])=T2 at *
        clear hT2
        generalize hM:h.lines=M at *
        clear hM
        go_wp2_with fail
        rw [hhe.out]
        have hT2z:T2=T2++linesL (M.take 0):=by simp [linesL]
        rw [hT2z]
        clear hhe hsz1 hwb hhz hT2z
        go_loopg [8,11] M.length (fun g t8 t11 wi=> ∃j:Nat,g=M.length-j/\j<=M.length/\t8= .string ⟨(T2++linesL (M.take j)).toArray⟩/\t11= .int .i64 j/\Below U.heap.size U wi)
        case atStart=>exact ⟨0,by omega,by omega,rfl,rfl,Below.refl _ _⟩
        case round=>
         rename World=>wi
         obtain ⟨j,hgj,hjl,rfl,rfl,hbi⟩:=hrel
         have hGj:Hid (_=M.length-j):=hgj
         clear hgj
         have hszi:=hbi.size
         have x4:wi.cell? ⟨wq.heap.size,4,none⟩=some (.slice a' M.length c'):=za ((hbi.block wq.heap.size (by omega)).trans hBU) rfl
         by_cases hj:j<M.length
         ·have hjI:(j:Int)<M.length:=by omega
          obtain ⟨bb,off2,rfl,hbB2,s0,s1⟩:=(hst'.below (hbi.mono (by have:=hbwq.size;omega))).at hj
          obtain ⟨m1,m2⟩:=l2 _ (List.getElem_mem hj)
          have hJ:Hid (linesL (M.take (j+1))=linesL (M.take j)++ZX M[j]):=kL hj
          have hJb:(T2++linesL (M.take j)).length+M[j].text.size+2<=20000:=by
           have h1:=hT2l.out
           have h2:=hll2.out (j+1)
           rw [hJ.out,List.length_append,Zk] at h2
           rw [List.length_append]
           omega
          have hJe:Hid (ZX M[j]=UInt8.ofNat M[j].kind::(M[j].text.data.toList++ [10])):=rfl
          generalize M[j]=sx at *
          have hfin:Hid ((⟨(T2++linesL (M.take j)).toArray⟩:ByteArray)++⟨#[UInt8.ofNat sx.kind]⟩++sx.text++⟨#[10]⟩=⟨(T2++linesL (M.take (j+1))).toArray⟩):=by
           show _=_
           rw [hJ.out,hJe.out]
           apply ByteArray.ext
           simp [ByteArray.data_append]
          have hsT:(⟨(T2++linesL (M.take j)).toArray⟩:ByteArray).size=(T2++linesL (M.take j)).length:=xq _
          generalize (⟨(T2++linesL (M.take j)).toArray⟩:ByteArray)=sT at *
          obtain ⟨S,hS⟩: ∃S:ByteArray,(⟨(T2++linesL (M.take (j+1))).toArray⟩:ByteArray)=S:=⟨_,rfl⟩
          have hSH:Hid ((⟨(T2++linesL (M.take (j+1))).toArray⟩:ByteArray)=S):=hS
          rw [hS] at hfin
          clear hS hJ hJe
          have hcv:=YM sx.kind m1 wi.drew
          have hkz:(⟨#[UInt8.ofNat sx.kind]⟩:ByteArray).size=1:=rfl
          have hI0:wi.drew.cell? ⟨wq.heap.size,4,none⟩=some (.slice (some ⟨bb,off2,none⟩) M.length c')/\wi.drew.cell? ⟨bb,off2+j*2,none⟩=some (.int .u8 (sx.kind:Nat))/\wi.drew.cell? ⟨bb,off2+j*2+1,none⟩=some (.string sx.text):=⟨x4,s0,s1⟩
          have hbb:bb<wi.heap.size:=by have:=hbwq.size;omega
          have hq:wq.heap.size<wi.heap.size:=by omega
          go_wp2_with fail
          refine wp_region_any yg (yS.any (I:=fun w'=>w'.cell? ⟨wq.heap.size,4,none⟩=some (.slice (some ⟨bb,off2,none⟩) M.length c')/\w'.cell? ⟨bb,off2+j*2,none⟩=some (.int .u8 (sx.kind:Nat))/\w'.cell? ⟨bb,off2+j*2+1,none⟩=some (.string sx.text)) ?_)
          refine zp (i:=0) (n:=18) (v:= .string sT) rfl (by kernel_rfl) (fun c a w h=>h) ⟨by simp [Region.wanted],fun w' hw=> ?_⟩ ?_
          ·simp [execOp,go_sem,Act.eval]
          refine zp (i:=1) (n:=17) (v:= .pointer (some ⟨wq.heap.size,4,none⟩)) rfl (by kernel_rfl) (fun c a w h=>h) ⟨by simp [Region.wanted],fun w' hw=> ?_⟩ ?_
          ·simp [execOp,go_sem,Act.eval,Act.put]
          refine zp (i:=2) (n:=16) (v:= .slice (some ⟨bb,off2,none⟩) M.length c') rfl (by kernel_rfl) (fun c a w h=>h) ⟨by simp [Region.wanted],fun w' hw=> ?_⟩ ?_
          ·have hc:w'.cell? ⟨wq.heap.size,4,none⟩=some (.slice (some ⟨bb,off2,none⟩) M.length c'):=hw.1;simp [execOp,go_sem,Act.eval,Act.put,hc]
          refine zp (i:=3) (n:=15) (v:= .int .i64 (j:Int)) rfl (by kernel_rfl) (fun c a w h=>h) ⟨by simp [Region.wanted],fun w' hw=> ?_⟩ ?_
          ·simp [execOp,go_sem,Act.eval,Act.put]
          refine zp (i:=4) (n:=14) (v:= .pointer (some ⟨bb,off2+j*2,none⟩)) rfl (by kernel_rfl) (fun c a w h=>h) ⟨by simp [Region.wanted],fun w' hw=> ?_⟩ ?_
          ·have hjj:(j:Int)<M.length:=hjI;simp [execOp,go_sem,Act.eval,Act.put,hjj]
          refine zp (i:=5) (n:=13) (v:= .pointer (some ⟨bb,off2+j*2,none⟩)) rfl (by kernel_rfl) (fun c a w h=>h) ⟨by simp [Region.wanted],fun w' hw=> ?_⟩ ?_
          ·simp [execOp,go_sem,Act.eval,Act.put]
          refine zp (i:=6) (n:=12) (v:= .int .u8 (sx.kind:Nat)) rfl (by kernel_rfl) (fun c a w h=>h) ⟨by simp [Region.wanted],fun w' hw=> ?_⟩ ?_
          ·have hc:w'.cell? ⟨bb,off2+j*2,none⟩=some (.int .u8 (sx.kind:Nat)):=hw.2.1;simp [execOp,go_sem,Act.eval,Act.put,hc]
          refine zp (i:=10) (n:=11) (v:= .pointer (some ⟨wq.heap.size,4,none⟩)) rfl (by kernel_rfl) (fun c a w h=>h) ⟨by simp [Region.wanted],fun w' hw=> ?_⟩ ?_
          ·simp [execOp,go_sem,Act.eval,Act.put]
          refine zp (i:=11) (n:=10) (v:= .slice (some ⟨bb,off2,none⟩) M.length c') rfl (by kernel_rfl) (fun c a w h=>h) ⟨by simp [Region.wanted],fun w' hw=> ?_⟩ ?_
          ·have hc:w'.cell? ⟨wq.heap.size,4,none⟩=some (.slice (some ⟨bb,off2,none⟩) M.length c'):=hw.1;simp [execOp,go_sem,Act.eval,Act.put,hc]
          refine zp (i:=12) (n:=9) (v:= .int .i64 (j:Int)) rfl (by kernel_rfl) (fun c a w h=>h) ⟨by simp [Region.wanted],fun w' hw=> ?_⟩ ?_
          ·simp [execOp,go_sem,Act.eval,Act.put]
          refine zp (i:=13) (n:=8) (v:= .pointer (some ⟨bb,off2+j*2,none⟩)) rfl (by kernel_rfl) (fun c a w h=>h) ⟨by simp [Region.wanted],fun w' hw=> ?_⟩ ?_
          ·have hjj:(j:Int)<M.length:=hjI;simp [execOp,go_sem,Act.eval,Act.put,hjj]
          refine zp (i:=14) (n:=7) (v:= .pointer (some ⟨bb,off2+j*2+1,none⟩)) rfl (by kernel_rfl) (fun c a w h=>h) ⟨by simp [Region.wanted],fun w' hw=> ?_⟩ ?_
          ·simp [execOp,go_sem,Act.eval,Act.put]
          refine zp (i:=15) (n:=6) (v:= .string sx.text) rfl (by kernel_rfl) (fun c a w h=>h) ⟨by simp [Region.wanted],fun w' hw=> ?_⟩ ?_
          ·have hc:w'.cell? ⟨bb,off2+j*2+1,none⟩=some (.string sx.text):=hw.2.2;simp [execOp,go_sem,Act.eval,Act.put,hc]
          refine yy (i:=7) (n:=5) hI0 (by kernel_rfl) ?_
          refine zX (w':=wi.drew.alloc (.cells #[.int .u8 (sx.kind:Nat)] 5)) (v:= .slice (some ⟨wi.heap.size,0,none⟩) 1 1) rfl rfl ?_ ?_
          ·simp [execOp,go_sem,Act.eval,Act.put]
          have hI1:(wi.drew.alloc (.cells #[.int .u8 (sx.kind:Nat)] 5)).cell? ⟨wq.heap.size,4,none⟩=some (.slice (some ⟨bb,off2,none⟩) M.length c')/\(wi.drew.alloc (.cells #[.int .u8 (sx.kind:Nat)] 5)).cell? ⟨bb,off2+j*2,none⟩=some (.int .u8 (sx.kind:Nat))/\(wi.drew.alloc (.cells #[.int .u8 (sx.kind:Nat)] 5)).cell? ⟨bb,off2+j*2+1,none⟩=some (.string sx.text):=
           ⟨(World.cell?_of_block (Below.heap_alloc wi.drew _ wq.heap.size hq)).trans hI0.1,(World.cell?_of_block (Below.heap_alloc wi.drew _ bb hbb)).trans hI0.2.1,(World.cell?_of_block (Below.heap_alloc wi.drew _ bb hbb)).trans hI0.2.2⟩
          refine yy (i:=8) (n:=4) hI1 (by kernel_rfl) ?_
          refine zX (w':=wi.drew.alloc (.cells #[.int .u8 (sx.kind:Nat)] 5)) (v:= .string ⟨#[UInt8.ofNat sx.kind]⟩) rfl rfl ?_ ?_
          ·have hcv2:(convert 72 9 (.slice (some ⟨wi.heap.size,0,none⟩) 1 1)).run prog (wi.alloc (.cells #[.int .u8 (sx.kind:Int)] 5)).drew= .ok (.string ⟨#[UInt8.ofNat sx.kind]⟩) (wi.alloc (.cells #[.int .u8 (sx.kind:Int)] 5)).drew:=hcv
           simp [execOp,go_sem,Act.eval,Act.put,hcv2]
          refine zp (i:=9) (n:=3) (v:= .string (sT++⟨#[UInt8.ofNat sx.kind]⟩)) rfl (by kernel_rfl) (fun c a w h=>h) ⟨by simp [Region.wanted],fun w' hw=> ?_⟩ ?_
          ·have k1: ¬9223372036854775807<sT.size+1:=(by omega);simp [execOp,go_sem,Act.eval,Act.put,k1]
          refine zp (i:=16) (n:=2) (v:= .string (sT++⟨#[UInt8.ofNat sx.kind]⟩++sx.text)) rfl (by kernel_rfl) (fun c a w h=>h) ⟨by simp [Region.wanted],fun w' hw=> ?_⟩ ?_
          ·have k1: ¬9223372036854775807<sT.size+1+sx.text.size:=(by omega);simp [execOp,go_sem,Act.eval,Act.put,k1]
          refine zp (i:=17) (n:=1) (v:= .string S) rfl (by kernel_rfl) (fun c a w h=>h) ⟨by simp [Region.wanted],fun w' hw=> ?_⟩ ?_
          ·have k1: ¬9223372036854775807<sT.size+1+sx.text.size+1:=(by omega);have k2:sT++⟨#[UInt8.ofNat sx.kind]⟩++sx.text++⟨#[10]⟩=S:=hfin.out;simp [execOp,go_sem,Act.eval,Act.put,k1,k2]
          refine zp (i:=18) (n:=0) (v:= .string S) rfl (by kernel_rfl) (fun c a w h=>h) ⟨by simp [Region.wanted],fun w' hw=> ?_⟩ ?_
          ·simp [execOp,go_sem,Act.eval,Act.put]
          refine qi hI1 (by kernel_rfl) ?_
          have hbi2:=(hbi.drew).alloc (by show U.heap.size<=wi.heap.size;omega) (.cells #[.int .u8 (sx.kind:Nat)] 5)
          generalize wi.drew.alloc (.cells #[.int .u8 (sx.kind:Nat)] 5)=V2 at *
          simp only [Act.put]
          go_wp2_with fail
          go_roundg (M.length-(j+1))
          ·exact ⟨j+1,rfl,by omega,by rw [hSH.out],by push_cast;rfl,hbi2⟩
          ·have:=hGj.out;omega
         ·have hjI: ¬((j:Int)<M.length):=by omega
          have hE2:Hid (M.take j=M):=List.take_of_length_le (by omega)
          have hbF:Hid (Below wr.heap.size wr wi):=(hbq.trans (hbqU.mono (by omega))).trans (hbi.mono (by omega))
          generalize hsT:(⟨(T2++linesL (M.take j)).toArray⟩:ByteArray)=sT at *
          have hsH:Hid ((⟨(T2++linesL (M.take j)).toArray⟩:ByteArray)=sT):=hsT
          clear hsT
          go_wp2_with fail
          go_roundg (hs.length-(k2+1))
          ·exact ⟨k2+1,rfl,by omega,by rw [hwt.out,<-hsH.out,hE2.out],by push_cast;rfl,hbF.out⟩
          ·have:=hG2.out;omega
       ·have hkI2: ¬((k2:Int)<hs.length):=by omega
        have hE2:Hid (hs.take k2=hs):=List.take_of_length_le (by omega)
        generalize hsT:(⟨(writeI (hs.take k2)).toArray⟩:ByteArray)=sT at *
        have hsH:Hid ((⟨(writeI (hs.take k2)).toArray⟩:ByteArray)=sT):=hsT
        clear hsT
        go_wp2_with fail
        go_ret2
        have hfs:(⟨(writeI hs).toArray⟩:ByteArray)=sT:=by rw [<-hsH.out,hE2.out]
        first | (rw [if_pos hlH.out,hfs];exact ⟨rfl,hbwq⟩) | (rw [hfs];exact ⟨rfl,hbwq⟩)
     ·have hlI:(20000:Int)<((writeI hs).length:Nat):=by omega
      have hlH:Hid (¬(writeI hs).length<=20000):=hl
      clear hl
      go_wp2_with fail
      go_ret2
      first | exact ⟨rfl,hbw⟩ | (rw [if_neg hlH.out];exact ⟨rfl,hbw⟩)
def yh (base wb M:Nat) (w w':World):Prop:= ∃(x':WV) (B':Bk),zC base wb x' B' w'/\jc M x' B'/\zs base w w' (fun _=>False)
theorem yh.of_unt {base wb M n lo hi:Nat} {x:WV} {B:Bk} {w w4 w':World} (R:jc M x B) (hb:Below w.heap.size w w4) (hlo:w.heap.size<=lo) (h:UE base wb x B n lo hi w4 w'):yh base wb (M+4*n) w w':=by
 obtain ⟨x',E,k1,k2,k3,k4,k5⟩:=h
 refine ⟨x',_,k1,⟨?_,?_,?_,?_,?_⟩,((zs.of_below (base:=base) hb).trans k4).mono fun g hg k=>k.elim id fun k=>by omega⟩
 ·have:=R.c;omega
 ·have:=R.h;show B.h.length<=_;omega
 ·have:=R.l;show (B.l++E).length<=_;rw [List.length_append];omega
 ·have:=R.s;show B.s.length<=_;omega
 ·have:=R.r;show B.r.length<=_;omega
theorem Kv {base wb M:Nat} {x:WV} {B:Bk} {w:World} {hs:List HI} {a:Option Addr} {cap:Nat} (K:zC base wb x B w) (R:jc M x B) (hM:M<=600000000000) (hg:yr w) (hbase:base<=w.heap.size)
 (S:qz base w (.slice a hs.length cap) hs) (hL:Lim hs):
 Calls prog 42 #[.pointer (some ⟨wb,0,none⟩),.agg #[.slice a hs.length cap]] w fun e w'=>e= .returned (.bool true)/\yh base wb (M+4*hs.length) w w':=by
 obtain ⟨W0,hW0⟩: ∃W0,w.alloc (.cells #[.slice a hs.length cap] 32)=W0:=⟨_,rfl⟩
 have b0:Below w.heap.size w W0:=by rw [<-hW0];exact (Below.refl _ _).alloc (Nat.le_refl _) _
 have z0:W0.heap.size=w.heap.size+1:=by rw [<-hW0];simp
 have hP0:W0.heap[w.heap.size]? =some (.cells #[.slice a hs.length cap] 32 (0,0)):=by rw [<-hW0];exact heap_alloc_new w _
 have K0:=K.old (W':=W0) fun g hg=>b0.block g hg
 have S0:=S.on (zs.of_below (base:=base) b0) (fun _ h=>h.elim)
 have g0:=hg.next b0
 have c0:W0.cell? ⟨w.heap.size,0,none⟩=some (.slice a hs.length cap):=za hP0 rfl
 have hlent:=QH S0 hL (by omega)
 have hrl:=R.l
 have hrc:=R.c
 go_enter func42,ntmps42
 go_wp2_with fail
 clear hW0
 refine hlent.mono ?_
 rintro e W1 ⟨ax,cx,va,vr,rfl,hLO,b1⟩
 have z1:=b1.size
 obtain ⟨W2,hW2⟩: ∃W2,W1.alloc (.cells #[.slice ax hs.length cx] 32)=W2:=⟨_,rfl⟩
 have b2:Below W1.heap.size W1 W2:=by rw [<-hW2];exact (Below.refl _ _).alloc (Nat.le_refl _) _
 have z2:W2.heap.size=W1.heap.size+1:=by rw [<-hW2];simp
 have hP2:W2.heap[W1.heap.size]? =some (.cells #[.slice ax hs.length cx] 32 (0,0)):=by rw [<-hW2];exact heap_alloc_new W1 _
 have q0:W2.cell? ⟨W1.heap.size,0,none⟩=some (.slice ax hs.length cx):=za hP2 rfl
 have b02:=b1.trans (b2.mono z1)
 have g2:=g0.next b02
 have hw:=Et (hs:=hs) (w:=W2) ((hLO.1.1.below b2).mono b2.size) hL g2
 have hLOH:Hid (KL base W0 a cap hs (.slice ax hs.length cx) va vr W1):=hLO
 clear c0 hLO hlent
 go_wp2_with fail
 clear hW2
 refine hw.mono ?_
 rintro e W3 ⟨rfl,b3⟩
 have z3:=b3.size
 have b03:=b02.trans (b3.mono (by omega))
 have S3:=S0.on (zs.of_below (base:=base) b03) (fun _ h=>h.elim)
 have hr:=Yw (w:=W3) S3.now hL
 have c3:W3.cell? ⟨w.heap.size,0,none⟩=some (.slice a hs.length cap):=za ((b03.block w.heap.size (by omega)).trans hP0) rfl
 clear q0 hw hP2
 go_wp2_with fail
 refine hr.mono ?_
 rintro e W4 ⟨rfl,b4⟩
 have z4:=b4.size
 have b14:=(b2.trans (b3.mono (by omega))).trans (b4.mono (by omega))
 have b04:=b03.trans (b4.mono (by omega))
 have c4:W4.cell? ⟨w.heap.size,0,none⟩=some (.slice a hs.length cap):=za ((b04.block w.heap.size (by omega)).trans hP0) rfl
 have hu:Hid (Calls prog 87 #[.pointer (some ⟨wb,0,none⟩),va,vr,.agg #[.slice a hs.length cap]] W4 fun e w'=>e= .returned (.bool true)/\yh base wb (M+4*hs.length) w w'):=by
  refine (hLOH.out.2 wb x B W4 K0 b14 (by omega) (by omega)).mono ?_
  rintro e w' ⟨rfl,h⟩
  exact ⟨rfl,yh.of_unt R (b0.trans (b04.mono (by omega))) (by omega) h⟩
 clear hLOH c3 hr S3 b14 b04 b03 b02 S0 S K K0 g0 g2 hg hP0
 go_wp2_with fail
 refine hu.out.mono ?_
 rintro e W5 ⟨rfl,hR⟩
 have hRH:Hid _:=hR
 have e0: ∀x:Int,(x==x)=true:=by simp
 clear hR hu
 generalize writeA hs=WA at *
 go_wp2_with fail
 go_ret
 exact ⟨by first | rfl | simp,hRH.out⟩
end Go.Proofs.YtcclgodahlinbaaGreatDoor
