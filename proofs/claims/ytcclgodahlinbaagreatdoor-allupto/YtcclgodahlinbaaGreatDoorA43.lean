import Derived.Test.YtcclgodahlinbaaGreatDoorA41
import Derived.Test.YtcclgodahlinbaaGreatDoorA42
import Derived.Test.YtcclgodahlinbaaGreatDoorA24
import Derived.Test.YtcclgodahlinbaaGreatDoorA40
namespace Go.Proofs.YtcclgodahlinbaaGreatDoor
set_option maxHeartbeats 16000000
open Tryz Go.RowKit Go
set_option maxRecDepth 100000
theorem Xz {base wb bl cl M N:Nat} {al:Option Addr} {x:WV} {B:Bk} {w w5:World} {hv:List HV} (K:zC base wb x B w5) (R:jc M x B) (hM:M<=650000000000) (hN:hv.length=N) (hso:HSo bl (.slice al N cl) hv w5) (hn:N<=300000) (hln: ∀p∈hv,p.1.lines.length<=1048576)
 (hfl: ∀p∈B.l,∀q∈hv,p.1.ownBlock=none\/p.1.ownBlock≠q.2.ownBlock) (hfh: ∀p∈B.h,∀g,p.1.ownBlock=some g->g<bl) (hF:zs base w w5 (fun _=>False)) (hlo:w.heap.size<=bl) (hbl:bl<=w5.heap.size) (hbase:base<=w5.heap.size):
 Calls prog 82 #[.pointer (some ⟨wb,0,none⟩),.agg #[.slice al N cl]] w5 fun e w'=>e= .returned (.tuple #[])/\yh base wb (M+4*N+4) w w':=by
 subst hN
 refine (JM (bl:=bl) (al:=al) (cl:=cl) (hv:=hv) K hso (by omega) (fun p hp=>Nat.le_trans (hln p hp) (by decide)) hfl hfh hbase hbl (by have:=R.c;omega) (by have:=R.l;omega) (by have:=R.h;omega)).mono ?_
 rintro e w' ⟨rfl,x',B',k1,k2,k3,k4,k5,k6,k7⟩
 refine ⟨rfl,x',B',k1,⟨?_,?_,?_,?_,?_⟩,(hF.trans k7).mono fun g hg k=>k.elim id fun k=>by omega⟩
 ·have:=R.c;rw [k6];omega
 ·have:=R.h;rw [k4];omega
 ·have:=R.l;rw [k5];omega
 ·have:=R.s;rw [k2];omega
 ·have:=R.r;rw [k3];omega
theorem VE {base wb M:Nat} {x:WV} {B:Bk} {w:World} {s:ByteArray} (K:zC base wb x B w) (R:jc M x B) (hM:M<=600000000000) (hg:yr w) (hbase:base<=w.heap.size) (hs4:s.size<=4000000000):
 Calls prog 44 #[.pointer (some ⟨wb,0,none⟩),.string s] w fun e w'=>e= .returned (.bool true)/\yh base wb (M+80004) w w':=by
 have hsm:=WC s
 have hrd:=Pj (s:=s) (w:=w) hs4 hg
 have hrr:=fun W:World=>VN (s:=s) (w:=W) hs4
 have hls:=fun (W:World) (al aq:Option Addr) (cl cq:Nat) (hA:zO W.heap.size W (.slice al (readA s).1.length cl) (readA s).1) (hB:zO W.heap.size W (.slice aq (readA s).1.length cq) (readA s).1)=>Xw (hs:=(readA s).1.map HI.ofM) (a:=al) (b:=aq) (ca:=cl) (cb:=cq) (w:=W) (by rw [List.length_map];exact yH.of_hunks hA) (by rw [List.length_map];exact yH.of_hunks hB) (by rw [List.length_map];omega) (fun h hh=>by obtain ⟨m,hm,rfl⟩:=List.mem_map.1 hh;exact Nat.le_trans (hsm.2 m hm) (by decide))
 rw [List.length_map] at hls
 generalize readA s=RA at *
 obtain ⟨hs,at1,er⟩:=RA
 simp only at hrd hrr hls hsm
 obtain ⟨hsm1,hsm2⟩:=hsm
 have hlsH:Hid _:=hls
 have hsmH:Hid (∀h∈hs,h.lines.length<=20000):=hsm2
 have hrrH:Hid _:=hrr
 clear hls hsm2 hrr
 go_enter func44,ntmps44
 go_wp2_with fail
 refine hrd.mono ?_
 rintro e W1 ⟨al,cl,hv,rfl,hso,hmap,b1⟩
 have z1:=b1.size
 have hN:hv.length=hs.length:=by rw [<-hmap,List.length_map]
 rw [hN] at hso ⊢
 have hNH:Hid (hv.length=hs.length):=hN
 have hmapH:Hid (hv.map (·.1)=hs):=hmap
 clear hN hmap hrd
 obtain ⟨W2,hW2⟩: ∃W2,W1.alloc (.cells #[.slice al hs.length cl] 32)=W2:=⟨_,rfl⟩
 have b2:Below W1.heap.size W1 W2:=by rw [<-hW2];exact (Below.refl _ _).alloc (Nat.le_refl _) _
 have z2:W2.heap.size=W1.heap.size+1:=by rw [<-hW2];simp
 have hP2:W2.heap[W1.heap.size]? =some (.cells #[.slice al hs.length cl] 32 (0,0)):=by rw [<-hW2];exact heap_alloc_new W1 _
 have hrr2:=hrrH.out W2
 clear hrrH
 go_wp2_with fail
 clear hW2
 refine hrr2.mono ?_
 rintro e W3 ⟨aq,cq,rfl,hq,b3⟩
 have z3:=b3.size
 obtain ⟨W4,hW4⟩: ∃W4,W3.alloc (.cells #[.slice aq hs.length cq] 32)=W4:=⟨_,rfl⟩
 have b4:Below W3.heap.size W3 W4:=by rw [<-hW4];exact (Below.refl _ _).alloc (Nat.le_refl _) _
 have z4:W4.heap.size=W3.heap.size+1:=by rw [<-hW4];simp
 have hP4:W4.heap[W3.heap.size]? =some (.cells #[.slice aq hs.length cq] 32 (0,0)):=by rw [<-hW4];exact heap_alloc_new W3 _
 have b24:=b3.trans (b4.mono z3)
 have b14:=b2.trans (b24.mono (by omega))
 have r1:W4.cell? ⟨W1.heap.size,0,none⟩=some (.slice al hs.length cl):=za ((b24.block W1.heap.size (by omega)).trans hP2) rfl
 have r2:W4.cell? ⟨W3.heap.size,0,none⟩=some (.slice aq hs.length cq):=za hP4 rfl
 have hso4:=hso.same (w':=W4) fun g hg=>b14.block g hg
 have hA:=zO.of_owns hso4
 rw [hmapH.out] at hA
 have hcall:=hlsH.out W4 al aq cl cq hA ((hq.below b4).mono b4.size)
 clear hA hlsH hrr2 hq hP4
 go_wp2_with fail
 clear hW4
 refine hcall.mono ?_
 rintro e W5 ⟨rfl,b5⟩
 have z5:=b5.size
 have b25:=b24.trans (b5.mono (by omega))
 have b15:=b14.trans (b5.mono (by omega))
 have b05:=b1.trans (b15.mono z1)
 have s1:W5.cell? ⟨W1.heap.size,0,none⟩=some (.slice al hs.length cl):=za ((b25.block W1.heap.size (by omega)).trans hP2) rfl
 have hpc:Hid (Calls prog 82 #[.pointer (some ⟨wb,0,none⟩),.agg #[.slice al hs.length cl]] W5 fun e w'=>e= .returned (.tuple #[])/\yh base wb (M+80004) w w'):=by
  have K5:=K.old (W':=W5) fun g hg=>b05.block g hg
  refine (Xz (bl:=w.heap.size) (w:=w) K5 R (by omega) hNH.out (hso4.same (w':=W5) fun g hg=>b5.block g hg) (by omega) (fun p hp=> ?_) (fun p hp q hq=> ?_) (fun p hp g e=> ?_) (zs.of_below b05) (Nat.le_refl _) (by omega) (by omega)).mono ?_
  ·exact Nat.le_trans (hsmH.out p.1 (by rw [<-hmapH.out];exact List.mem_map_of_mem hp)) (by decide)
  ·cases hv1:p.1.ownBlock with
   | none=>exact .inl rfl
   | some g=>
     right
     intro e
     have h1:=((K.l.ok p hp).lt g hv1).1
     have h2:w.heap.size<=g:=by
      rcases hso with ⟨rfl,_⟩ | ⟨g0,cap,_,_,hsv⟩
      ·cases hq
      ·exact ((hsv.lines q hq).lt g e.symm).1
     omega
  ·exact ((K.h.ok p hp).lt g e).1
  ·rintro e w' ⟨rfl,x',B',k1,k2,k3⟩
   exact ⟨rfl,x',B',k1,⟨by have:=k2.c;omega,by have:=k2.h;omega,by have:=k2.l;omega,by have:=k2.s;omega,by have:=k2.r;omega⟩,k3⟩
 have e0: ∀x:Int,(x==x)=true:=by simp
 clear hcall r1 r2 hso hso4 hP2 K hmapH hsmH hNH b1 b2 b3 b4 b5 b24 b14 b25 b15 b05
 go_wp2_with fail
 refine hpc.out.mono ?_
 rintro e W6 ⟨rfl,hR⟩
 have hRH:Hid _:=hR
 clear hR hpc
 go_wp2_with fail
 go_ret
 exact ⟨by first | rfl | simp,hRH.out⟩
theorem KC.later {w w':World} {v:Value} {hs:List HI} (h:KC w.heap.size w v hs) (hb:Below w.heap.size w w'):KC w'.heap.size w' v hs:=
 ⟨(h.1.below hb).mono hb.size,fun ms e=>((h.2 ms e).below hb).mono hb.size⟩
theorem XN {base wb M:Nat} {x:WV} {B:Bk} {w:World} {hs:List HI} {a:Option Addr} {cap:Nat} (K:zC base wb x B w) (R:jc M x B) (hM:M<=600000000000) (hbase:base<=w.heap.size)
 (S:qz base w (.slice a hs.length cap) hs) (hL:Lim hs):
 Calls prog 45 #[.pointer (some ⟨wb,0,none⟩),.agg #[.slice a hs.length cap]] w fun e w'=>e= .returned (.bool true)/\yh base wb (M+8*hs.length+4) w w':=by
 have hsm:=UP hL
 have hsl:=EM hs
 have hlh:=hL.1
 have hrv:=fun (W:World) (ax:Option Addr) (cx:Nat) (h:KC W.heap.size W (.slice ax hs.length cx) hs)=>Vn (w:=W) h hL
 have hrr:=fun (W:World) (h:yH W.heap.size W (.slice a hs.length cap) hs)=>Qi (w:=W) h hL
 have hls:=fun (W:World) (al aq:Option Addr) (cl cq:Nat) (hA:zO W.heap.size W (.slice al (revA hs).1.length cl) (revA hs).1) (hB:zO W.heap.size W (.slice aq (revA hs).1.length cq) (revA hs).1)=>Xw (hs:=(revA hs).1.map HI.ofM) (a:=al) (b:=aq) (ca:=cl) (cb:=cq) (w:=W) (by rw [List.length_map];exact yH.of_hunks hA) (by rw [List.length_map];exact yH.of_hunks hB) (by rw [List.length_map];exact hsm.1) (fun h hh=>by obtain ⟨m,hm,rfl⟩:=List.mem_map.1 hh;exact hsm.2 m hm)
 rw [List.length_map] at hls
 generalize revA hs=RA at *
 obtain ⟨rs,er⟩:=RA
 simp only at hrv hrr hls hsm hsl
 obtain ⟨hsm1,hsm2⟩:=hsm
 have hlsH:Hid _:=hls
 have hsmH:Hid (∀h∈rs,h.lines.length<=1048576):=hsm2
 have hrrH:Hid _:=hrr
 have hrvH:Hid _:=hrv
 have hslH:Hid (rs.length<=hs.length):=hsl
 clear hls hsm2 hrr hrv hsl
 obtain ⟨W0,hW0⟩: ∃W0,w.alloc (.cells #[.slice a hs.length cap] 32)=W0:=⟨_,rfl⟩
 have b0:Below w.heap.size w W0:=by rw [<-hW0];exact (Below.refl _ _).alloc (Nat.le_refl _) _
 have z0:W0.heap.size=w.heap.size+1:=by rw [<-hW0];simp
 have hP0:W0.heap[w.heap.size]? =some (.cells #[.slice a hs.length cap] 32 (0,0)):=by rw [<-hW0];exact heap_alloc_new w _
 have K0:=K.old (W':=W0) fun g hg=>b0.block g hg
 have S0:=S.on (zs.of_below (base:=base) b0) (fun _ h=>h.elim)
 have c0:W0.cell? ⟨w.heap.size,0,none⟩=some (.slice a hs.length cap):=za hP0 rfl
 have hlent:=QH S0 hL (by omega)
 have hrl:=R.l
 have hrc:=R.c
 go_enter func45,ntmps45
 go_wp2_with fail
 clear hW0
 refine hlent.mono ?_
 rintro e W1 ⟨ax,cx,va,vr,rfl,hLO,b1⟩
 have z1:=b1.size
 obtain ⟨W2,hW2⟩: ∃W2,W1.alloc (.cells #[.slice ax hs.length cx] 32)=W2:=⟨_,rfl⟩
 have b2:Below W1.heap.size W1 W2:=by rw [<-hW2];exact (Below.refl _ _).alloc (Nat.le_refl _) _
 have z2:W2.heap.size=W1.heap.size+1:=by rw [<-hW2];simp
 have hP2:W2.heap[W1.heap.size]? =some (.cells #[.slice ax hs.length cx] 32 (0,0)):=by rw [<-hW2];exact heap_alloc_new W1 _
 have q0:W2.cell? ⟨W1.heap.size,0,none⟩=some (.slice ax hs.length cx):=za hP2 rfl
 have b02:=b1.trans (b2.mono z1)
 have hw:=hrvH.out W2 ax cx (hLO.1.later b2)
 have hLOH:Hid (KL base W0 a cap hs (.slice ax hs.length cx) va vr W1):=hLO
 clear c0 hLO hlent hrvH
 go_wp2_with fail
 clear hW2
 refine hw.mono ?_
 rintro e W3 ⟨al,cl,hv,rfl,hso,hmap,b3⟩
 have z3:=b3.size
 have hN:hv.length=rs.length:=by rw [<-hmap,List.length_map]
 rw [hN] at hso ⊢
 have hNH:Hid (hv.length=rs.length):=hN
 have hmapH:Hid (hv.map (·.1)=rs):=hmap
 clear hN hmap hw q0 hP2
 obtain ⟨W4,hW4⟩: ∃W4,W3.alloc (.cells #[.slice al rs.length cl] 32)=W4:=⟨_,rfl⟩
 have b4:Below W3.heap.size W3 W4:=by rw [<-hW4];exact (Below.refl _ _).alloc (Nat.le_refl _) _
 have z4:W4.heap.size=W3.heap.size+1:=by rw [<-hW4];simp
 have hP4:W4.heap[W3.heap.size]? =some (.cells #[.slice al rs.length cl] 32 (0,0)):=by rw [<-hW4];exact heap_alloc_new W3 _
 have b04:=(b02.trans (b3.mono (by omega))).trans (b4.mono (by omega))
 have c4:W4.cell? ⟨w.heap.size,0,none⟩=some (.slice a hs.length cap):=za ((b04.block w.heap.size (by omega)).trans hP0) rfl
 have S4:=S0.on (zs.of_below (base:=base) b04) (fun _ h=>h.elim)
 have hr:=hrrH.out W4 S4.now
 clear hrrH
 go_wp2_with fail
 clear hW4
 refine hr.mono ?_
 rintro e W5 ⟨aq,cq,rfl,hq,b5⟩
 have z5:=b5.size
 obtain ⟨W6,hW6⟩: ∃W6,W5.alloc (.cells #[.slice aq rs.length cq] 32)=W6:=⟨_,rfl⟩
 have b6:Below W5.heap.size W5 W6:=by rw [<-hW6];exact (Below.refl _ _).alloc (Nat.le_refl _) _
 have z6:W6.heap.size=W5.heap.size+1:=by rw [<-hW6];simp
 have hP6:W6.heap[W5.heap.size]? =some (.cells #[.slice aq rs.length cq] 32 (0,0)):=by rw [<-hW6];exact heap_alloc_new W5 _
 have b46:=b5.trans (b6.mono z5)
 have b36:=b4.trans (b46.mono (by omega))
 have hR6:=(b46.block W3.heap.size (by omega)).trans hP4
 have r1:W6.cell? ⟨W3.heap.size,0,none⟩=some (.slice al rs.length cl):=za hR6 rfl
 have r2:W6.cell? ⟨W5.heap.size,0,none⟩=some (.slice aq rs.length cq):=za hP6 rfl
 have hso6:=hso.same (w':=W6) fun g hg=>b36.block g hg
 have hq6:Yc W4.heap.size W6 (.slice aq rs.length cq) rs:=hq.frame (zs.of_below (base:=base) b6) (fun _ _ _ h=>h)
 have hA:=zO.of_owns hso6
 rw [hmapH.out] at hA
 have hcall:=hlsH.out W6 al aq cl cq hA hq6.hunks
 clear hA hr hq hP4 c4
 go_wp2_with fail
 clear hW6
 refine hcall.mono ?_
 rintro e W7 ⟨rfl,b7⟩
 have z7:=b7.size
 have b07:=(b04.trans (b46.mono (by omega))).trans (b7.mono (by omega))
 have b37:=b36.trans (b7.mono (by omega))
 have b17:=((b2.trans (b3.mono (by omega))).trans (b37.mono (by omega)))
 have c7:W7.cell? ⟨w.heap.size,0,none⟩=some (.slice a hs.length cap):=za ((b07.block w.heap.size (by omega)).trans hP0) rfl
 have hR7:=(b7.block W3.heap.size (by omega)).trans hR6
 have hQ7:=(b7.block W5.heap.size (by omega)).trans hP6
 have hso7:=hso6.same (w':=W7) fun g hg=>b7.block g hg
 have hq7:Yc W4.heap.size W7 (.slice aq rs.length cq) rs:=hq6.frame (zs.of_below (base:=base) b7) (fun _ _ _ h=>h)
 have hu:Hid (Calls prog 87 #[.pointer (some ⟨wb,0,none⟩),va,vr,.agg #[.slice a hs.length cap]] W7 fun e w'=>e= .returned (.bool true)/\UE base wb x B hs.length W0.heap.size W1.heap.size W7 w'):=hLOH.out.2 wb x B W7 K0 b17 (by omega) (by omega)
 clear hcall r1 r2 hR6 hP6 hso6 hq6 hLOH hP0 S4 S0 S
 go_wp2_with fail
 refine hu.out.mono ?_
 rintro e W8 ⟨rfl,x8,E8,K8,E1,E2,F8,E3⟩
 have z8:=F8.1
 have hR8:=(F8.at hR7 (by decide) (by omega)).trans hR7
 have hQ8:=(F8.at hQ7 (by decide) (by omega)).trans hQ7
 have r1:W8.cell? ⟨W3.heap.size,0,none⟩=some (.slice al rs.length cl):=za hR8 rfl
 have r2:W8.cell? ⟨W5.heap.size,0,none⟩=some (.slice aq rs.length cq):=za hQ8 rfl
 have hso8:=hso7.frame F8 (fun g h1 h2 h3=>by omega)
 have hq8:=hq7.frame F8 (fun g h1 h2 h3=>by omega)
 have hA:=zO.of_owns hso8
 rw [hmapH.out] at hA
 have hcall:=hlsH.out W8 al aq cl cq hA hq8.hunks
 have hK8:Hid (zC base wb x8 { B with l:=B.l++E8 } W8/\E8.length<=4*hs.length/\x8.c<=x.c+hs.length/\zs base w W8 (fun _=>False)/\ ∀p∈E8,∀g,p.1.ownBlock=some g->(W0.heap.size<=g/\g<W1.heap.size)\/W7.heap.size<=g):=
  ⟨K8,E1,E2,((zs.of_below (base:=base) (b0.trans (b07.mono (by omega)))).trans F8).mono fun g hg k=>k.elim id fun k=>by omega,E3⟩
 clear hA hlsH hu c7 hR7 hQ7 hso7 hq7 K8 E1 E2 F8 E3 hq8 hQ8
 go_wp2_with fail
 refine hcall.mono ?_
 rintro e W9 ⟨rfl,b9⟩
 have z9:=b9.size
 have s1:W9.cell? ⟨W3.heap.size,0,none⟩=some (.slice al rs.length cl):=za ((b9.block W3.heap.size (by omega)).trans hR8) rfl
 have hpc:Hid (Calls prog 82 #[.pointer (some ⟨wb,0,none⟩),.agg #[.slice al rs.length cl]] W9 fun e w'=>e= .returned (.tuple #[])/\yh base wb (M+8*hs.length+4) w w'):=by
  obtain ⟨K8,E1,E2,F8,E3⟩:=hK8.out
  have hsl:=hslH.out
  have hqb: ∀q∈hv,∀g,q.2.ownBlock=some g->W2.heap.size<=g/\g<W3.heap.size:=fun q hq g e=>by
   rcases hso with ⟨rfl,_⟩ | ⟨g0,cap,_,_,hsv⟩
   ·cases hq
   ·exact (hsv.lines q hq).lt g e
  refine (Xz (bl:=W2.heap.size) (w:=w) (M:=M+4*hs.length) (K8.old (W':=W9) fun g hg=>b9.block g hg) ⟨?_,?_,?_,?_,?_⟩ (by omega) hNH.out (hso8.same (w':=W9) fun g hg=>b9.block g hg) hsm1 (fun p hp=> ?_) (fun p hp q hq=> ?_) (fun p hp g e=> ?_) (F8.thenB b9) (by omega) (by omega) (by omega)).mono ?_
  ·omega
  ·have:=R.h;show B.h.length<=_;omega
  ·show (B.l++E8).length<=_;rw [List.length_append];omega
  ·have:=R.s;show B.s.length<=_;omega
  ·have:=R.r;show B.r.length<=_;omega
  ·exact hsmH.out p.1 (by rw [<-hmapH.out];exact List.mem_map_of_mem hp)
  ·cases hv1:p.1.ownBlock with
   | none=>exact .inl rfl
   | some g=>
     right
     intro e
     have h2:=hqb q hq g e.symm
     rcases List.mem_append.1 (show p∈B.l++E8 from hp) with hp | hp
     ·have h1:=((K.l.ok p hp).lt g hv1).1
      omega
     ·rcases E3 p hp g hv1 with h | h<;>omega
  ·have:=((K.h.ok p hp).lt g e).1
   omega
  ·rintro e w' ⟨rfl,x',B',k1,k2,k3⟩
   exact ⟨rfl,x',B',k1,⟨by have:=k2.c;omega,by have:=k2.h;omega,by have:=k2.l;omega,by have:=k2.s;omega,by have:=k2.r;omega⟩,k3⟩
 have e0: ∀x:Int,(x==x)=true:=by simp
 clear hcall r1 r2 hso hso8 hR8 K K0 hmapH hsmH hNH hK8 b0 b1 b2 b3 b4 b5 b6 b7 b9 b02 b04 b46 b36 b07 b37 b17 hslH R
 go_wp2_with fail
 refine hpc.out.mono ?_
 rintro e W10 ⟨rfl,hR⟩
 have hRH:Hid _:=hR
 clear hR hpc
 go_wp2_with fail
 go_ret
 exact ⟨by first | rfl | simp,hRH.out⟩
def diffI (a b:ByteArray) (c:Int):List HI:=(yu a b c).map HI.ofM
theorem jK (a b:ByteArray) (c:Int):Lim (diffI a b c):=Fr a b c
theorem Xr (a b:ByteArray) (c:Int):(diffI a b c).length<=402:=by unfold diffI;rw [List.length_map];exact (jw a b c).1
theorem jD {a b:ByteArray} {c:Int} {w:World} (h1:a.size<=4000000000) (h2:b.size<=4000000000):
 Calls prog 20 #[.string a,.string b,.int .i64 c] w fun e w'=> ∃al cl,e= .returned (.tuple #[.agg #[.slice al (diffI a b c).length cl],.int .i64 (checkB a b c)])/\Hid (∀base,qz base w' (.slice al (diffI a b c).length cl) (diffI a b c))/\Below w.heap.size w w':=
 (kO h1 h2).mono fun _ _ ⟨al,cl,e,h,b⟩=>⟨al,cl,by rw [e];unfold diffI;rw [List.length_map],by show ∀base,_;intro base;unfold diffI;rw [List.length_map];exact h.stays,b⟩
theorem yh.pre {base wb M M':Nat} {w w1 w2:World} (F:zs base w w1 (fun _=>False)) (h:yh base wb M w1 w2) (hM:M<=M'):yh base wb M' w w2:=by
 obtain ⟨x',B',k1,k2,k3⟩:=h
 exact ⟨x',B',k1,⟨Nat.le_trans k2.c hM,Nat.le_trans k2.h hM,Nat.le_trans k2.l hM,Nat.le_trans k2.s hM,Nat.le_trans k2.r hM⟩,F.then k3⟩
theorem zs.under {base:Nat} {w w':World} (F:zs base w w' (fun _=>False)) (hb:base<=w.heap.size):Below base w w':=
 ⟨F.2.2.1,F.2.2.2.1,F.2.2.2.2,F.1,fun g hg=>F.low (fun _ h=>h.elim) hg (by omega)⟩
theorem yr.frame {base:Nat} {w w':World} (h:yr w) (F:zs base w w' (fun _=>False)) (hb:base<=w.heap.size) (h6:6<=base):yr w':=h.below (F.under hb) h6 F.1
theorem Gx {base wb M:Nat} {x:WV} {B:Bk} {w:World} {kd n:Int} {a b:ByteArray} {ap:Option Addr} {cp:Nat} {hs:List HI} (k3:kd=3) (K:zC base wb x B w) (R:jc M x B) (hM:M<=590000000000) (hg:yr w) (hbase:base<=w.heap.size) (h6:6<=base)
 (h1:a.size<=4000000000) (h2:b.size<=4000000000) (S:qz base w (.slice ap hs.length cp) hs) (hL:Lim hs):
 Calls prog 21 #[.pointer (some ⟨wb,0,none⟩),.agg #[.int .i64 kd,.int .i64 n,.string a,.string b,.slice ap hs.length cp]] w fun e w'=>e= .returned (.bool true)/\yh base wb (M+2600000) w w':=by
 have hlh:=hL.1
 obtain ⟨W0,hW0⟩: ∃W0,w.alloc (.cells #[.int .i64 kd,.int .i64 n,.string a,.string b,.slice ap hs.length cp] 57)=W0:=⟨_,rfl⟩
 have b0:Below w.heap.size w W0:=by rw [<-hW0];exact (Below.refl _ _).alloc (Nat.le_refl _) _
 have z0:W0.heap.size=w.heap.size+1:=by rw [<-hW0];simp
 have hO0:W0.heap[w.heap.size]? =some (.cells #[.int .i64 kd,.int .i64 n,.string a,.string b,.slice ap hs.length cp] 57 (0,0)):=by rw [<-hW0];exact heap_alloc_new w _
 have o0:W0.cell? ⟨w.heap.size,0,none⟩=some (.int .i64 kd):=za hO0 rfl
 have o1:W0.cell? ⟨w.heap.size,1,none⟩=some (.int .i64 n):=za hO0 rfl
 have o2:W0.cell? ⟨w.heap.size,2,none⟩=some (.string a):=za hO0 rfl
 have o3:W0.cell? ⟨w.heap.size,3,none⟩=some (.string b):=za hO0 rfl
 have hrd:=jD (a:=a) (b:=b) (c:=n) (w:=W0) h1 h2
 have hql:=jK a b n
 have hqn:=Xr a b n
 generalize diffI a b n=qs at *
 generalize checkB a b n=ck at *
 have q1:(kd==1)=false:=by simp [k3]
 have q2:(kd==2)=false:=by simp [k3]
 have q3:(kd==3)=true:=by simp [k3]
 clear k3
 go_enter func21,ntmps21
 go_wp2_with fail
 clear hW0
 refine hrd.mono ?_
 rintro e W1 ⟨aq,cq,rfl,hSq,b1⟩
 have z1:=b1.size
 obtain ⟨W2,hW2⟩: ∃W2,W1.alloc (.cells #[.slice aq qs.length cq] 32)=W2:=⟨_,rfl⟩
 have b2:Below W1.heap.size W1 W2:=by rw [<-hW2];exact (Below.refl _ _).alloc (Nat.le_refl _) _
 have z2:W2.heap.size=W1.heap.size+1:=by rw [<-hW2];simp
 have hP2:W2.heap[W1.heap.size]? =some (.cells #[.slice aq qs.length cq] 32 (0,0)):=by rw [<-hW2];exact heap_alloc_new W1 _
 have b02:=b1.trans (b2.mono z1)
 have bw2:=b0.trans (b02.mono (by omega))
 have c4:W2.cell? ⟨w.heap.size,4,none⟩=some (.slice ap hs.length cp):=za ((b02.block w.heap.size (by omega)).trans hO0) rfl
 have S2:=(hSq.out base).on (zs.of_below (base:=base) b2) (fun _ h=>h.elim)
 have hw1:=Kv (K.old (W':=W2) fun g hg=>bw2.block g hg) R (by omega) (hg.next bw2) (by omega) (S.on (zs.of_below (base:=base) bw2) (fun _ h=>h.elim)) hL
 have g2:=hg.next bw2
 clear o0 o1 o2 o3 hrd hSq
 go_wp2_with fail
 clear hW2
 refine hw1.mono ?_
 rintro e W3 ⟨rfl,hR3⟩
 have hP3:Hid (W3.heap[W1.heap.size]? =some (.cells #[.slice aq qs.length cq] 32 (0,0))/\Calls prog 42 #[.pointer (some ⟨wb,0,none⟩),.agg #[.slice aq qs.length cq]] W3 fun e w'=>e= .returned (.bool true)/\yh base wb (M+2600000) w w'):=by
  obtain ⟨x3,B3,K3,R3,F3⟩:=hR3
  have z3:=F3.1
  refine ⟨(F3.at hP2 (by decide) (fun h=>h)).trans hP2,?_⟩
  refine (Kv K3 R3 (by omega) (g2.frame F3 (by omega) h6) (by omega) (S2.on F3 (fun _ h=>h.elim)) hql).mono ?_
  rintro e w' ⟨rfl,hR⟩
  exact ⟨rfl,hR.pre ((zs.of_below (base:=base) bw2).then F3) (by omega)⟩
 have c3:W3.cell? ⟨W1.heap.size,0,none⟩=some (.slice aq qs.length cq):=za hP3.out.1 rfl
 have hw2:Hid (Calls prog 42 #[.pointer (some ⟨wb,0,none⟩),.agg #[.slice aq qs.length cq]] W3 fun e w'=>e= .returned (.bool true)/\yh base wb (M+2600000) w w'):=hP3.out.2
 clear hR3 hw1 c4 hP3 S2 S K R g2 hg hP2 hO0
 go_wp2_with fail
 refine hw2.out.mono ?_
 rintro e W4 ⟨rfl,hR⟩
 have hRH:Hid _:=hR
 clear hR hw2 c3
 go_wp2_with fail
 go_ret
 exact ⟨by first | rfl | simp,hRH.out⟩
theorem KH {base wb M:Nat} {x:WV} {B:Bk} {w:World} {kd n:Int} {a b:ByteArray} {ap:Option Addr} {cp:Nat} {hs:List HI} (k5:kd=5) (K:zC base wb x B w) (R:jc M x B) (hM:M<=590000000000) (hbase:base<=w.heap.size)
 (h1:a.size<=4000000000) (h2:b.size<=4000000000) (S:qz base w (.slice ap hs.length cp) hs) (hL:Lim hs):
 Calls prog 21 #[.pointer (some ⟨wb,0,none⟩),.agg #[.int .i64 kd,.int .i64 n,.string a,.string b,.slice ap hs.length cp]] w fun e w'=>e= .returned (.bool true)/\yh base wb (M+2600000) w w':=by
 have hlh:=hL.1
 obtain ⟨W0,hW0⟩: ∃W0,w.alloc (.cells #[.int .i64 kd,.int .i64 n,.string a,.string b,.slice ap hs.length cp] 57)=W0:=⟨_,rfl⟩
 have b0:Below w.heap.size w W0:=by rw [<-hW0];exact (Below.refl _ _).alloc (Nat.le_refl _) _
 have z0:W0.heap.size=w.heap.size+1:=by rw [<-hW0];simp
 have hO0:W0.heap[w.heap.size]? =some (.cells #[.int .i64 kd,.int .i64 n,.string a,.string b,.slice ap hs.length cp] 57 (0,0)):=by rw [<-hW0];exact heap_alloc_new w _
 have o0:W0.cell? ⟨w.heap.size,0,none⟩=some (.int .i64 kd):=za hO0 rfl
 have o1:W0.cell? ⟨w.heap.size,1,none⟩=some (.int .i64 n):=za hO0 rfl
 have o2:W0.cell? ⟨w.heap.size,2,none⟩=some (.string a):=za hO0 rfl
 have o3:W0.cell? ⟨w.heap.size,3,none⟩=some (.string b):=za hO0 rfl
 have hrd:=jD (a:=a) (b:=b) (c:=n) (w:=W0) h1 h2
 have hql:=jK a b n
 have hqn:=Xr a b n
 generalize diffI a b n=qs at *
 generalize checkB a b n=ck at *
 have q1:(kd==1)=false:=by simp [k5]
 have q2:(kd==2)=false:=by simp [k5]
 have q3:(kd==3)=false:=by simp [k5]
 have q4:(kd==4)=false:=by simp [k5]
 have q5:(kd==5)=true:=by simp [k5]
 clear k5
 go_enter func21,ntmps21
 go_wp2_with fail
 clear hW0
 refine hrd.mono ?_
 rintro e W1 ⟨aq,cq,rfl,hSq,b1⟩
 have z1:=b1.size
 obtain ⟨W2,hW2⟩: ∃W2,W1.alloc (.cells #[.slice aq qs.length cq] 32)=W2:=⟨_,rfl⟩
 have b2:Below W1.heap.size W1 W2:=by rw [<-hW2];exact (Below.refl _ _).alloc (Nat.le_refl _) _
 have z2:W2.heap.size=W1.heap.size+1:=by rw [<-hW2];simp
 have hP2:W2.heap[W1.heap.size]? =some (.cells #[.slice aq qs.length cq] 32 (0,0)):=by rw [<-hW2];exact heap_alloc_new W1 _
 have b02:=b1.trans (b2.mono z1)
 have bw2:=b0.trans (b02.mono (by omega))
 have c4:W2.cell? ⟨w.heap.size,4,none⟩=some (.slice ap hs.length cp):=za ((b02.block w.heap.size (by omega)).trans hO0) rfl
 have S2:=(hSq.out base).on (zs.of_below (base:=base) b2) (fun _ h=>h.elim)
 have hw1:=XN (K.old (W':=W2) fun g hg=>bw2.block g hg) R (by omega) (by omega) (S.on (zs.of_below (base:=base) bw2) (fun _ h=>h.elim)) hL
 clear o0 o1 o2 o3 hrd hSq
 go_wp2_with fail
 clear hW2
 refine hw1.mono ?_
 rintro e W3 ⟨rfl,hR3⟩
 have hP3:Hid (W3.heap[W1.heap.size]? =some (.cells #[.slice aq qs.length cq] 32 (0,0))/\Calls prog 45 #[.pointer (some ⟨wb,0,none⟩),.agg #[.slice aq qs.length cq]] W3 fun e w'=>e= .returned (.bool true)/\yh base wb (M+2600000) w w'):=by
  obtain ⟨x3,B3,K3,R3,F3⟩:=hR3
  have z3:=F3.1
  refine ⟨(F3.at hP2 (by decide) (fun h=>h)).trans hP2,?_⟩
  refine (XN K3 R3 (by omega) (by omega) (S2.on F3 (fun _ h=>h.elim)) hql).mono ?_
  rintro e w' ⟨rfl,hR⟩
  exact ⟨rfl,hR.pre ((zs.of_below (base:=base) bw2).then F3) (by omega)⟩
 have c3:W3.cell? ⟨W1.heap.size,0,none⟩=some (.slice aq qs.length cq):=za hP3.out.1 rfl
 have hw2:Hid (Calls prog 45 #[.pointer (some ⟨wb,0,none⟩),.agg #[.slice aq qs.length cq]] W3 fun e w'=>e= .returned (.bool true)/\yh base wb (M+2600000) w w'):=hP3.out.2
 clear hR3 hw1 c4 hP3 S2 S K R hP2 hO0
 go_wp2_with fail
 refine hw2.out.mono ?_
 rintro e W4 ⟨rfl,hR⟩
 have hRH:Hid _:=hR
 clear hR hw2 c3
 go_wp2_with fail
 go_ret
 exact ⟨by first | rfl | simp,hRH.out⟩
theorem EG {base wb M:Nat} {x:WV} {B:Bk} {w:World} {kd n:Int} {a b:ByteArray} {ap:Option Addr} {cp:Nat} {hs:List HI} (k4:kd=4) (K:zC base wb x B w) (R:jc M x B) (hM:M<=590000000000) (hg:yr w) (hbase:base<=w.heap.size) (h6:6<=base)
 (h1:a.size<=4000000000) (h2:b.size<=4000000000):
 Calls prog 21 #[.pointer (some ⟨wb,0,none⟩),.agg #[.int .i64 kd,.int .i64 n,.string a,.string b,.slice ap hs.length cp]] w fun e w'=>e= .returned (.bool true)/\yh base wb (M+2600000) w w':=by
 obtain ⟨W0,hW0⟩: ∃W0,w.alloc (.cells #[.int .i64 kd,.int .i64 n,.string a,.string b,.slice ap hs.length cp] 57)=W0:=⟨_,rfl⟩
 have b0:Below w.heap.size w W0:=by rw [<-hW0];exact (Below.refl _ _).alloc (Nat.le_refl _) _
 have z0:W0.heap.size=w.heap.size+1:=by rw [<-hW0];simp
 have hO0:W0.heap[w.heap.size]? =some (.cells #[.int .i64 kd,.int .i64 n,.string a,.string b,.slice ap hs.length cp] 57 (0,0)):=by rw [<-hW0];exact heap_alloc_new w _
 have o0:W0.cell? ⟨w.heap.size,0,none⟩=some (.int .i64 kd):=za hO0 rfl
 have o1:W0.cell? ⟨w.heap.size,1,none⟩=some (.int .i64 n):=za hO0 rfl
 have o2:W0.cell? ⟨w.heap.size,2,none⟩=some (.string a):=za hO0 rfl
 have o3:W0.cell? ⟨w.heap.size,3,none⟩=some (.string b):=za hO0 rfl
 have hrd:=jD (a:=a) (b:=b) (c:=n) (w:=W0) h1 h2
 have hql:=jK a b n
 generalize diffI a b n=qs at *
 generalize checkB a b n=ck at *
 have hws:=Vc qs
 have q1:(kd==1)=false:=by simp [k4]
 have q2:(kd==2)=false:=by simp [k4]
 have q3:(kd==3)=false:=by simp [k4]
 have q4:(kd==4)=true:=by simp [k4]
 clear k4
 go_enter func21,ntmps21
 go_wp2_with fail
 clear hW0
 refine hrd.mono ?_
 rintro e W1 ⟨aq,cq,rfl,hSq,b1⟩
 have z1:=b1.size
 obtain ⟨W2,hW2⟩: ∃W2,W1.alloc (.cells #[.slice aq qs.length cq] 32)=W2:=⟨_,rfl⟩
 have b2:Below W1.heap.size W1 W2:=by rw [<-hW2];exact (Below.refl _ _).alloc (Nat.le_refl _) _
 have z2:W2.heap.size=W1.heap.size+1:=by rw [<-hW2];simp
 have hP2:W2.heap[W1.heap.size]? =some (.cells #[.slice aq qs.length cq] 32 (0,0)):=by rw [<-hW2];exact heap_alloc_new W1 _
 have p2:W2.cell? ⟨W1.heap.size,0,none⟩=some (.slice aq qs.length cq):=za hP2 rfl
 have b02:=b1.trans (b2.mono z1)
 have S2:=(hSq.out base).on (zs.of_below (base:=base) b2) (fun _ h=>h.elim)
 have hw1:=Yw (w:=W2) S2.now hql
 clear o0 o1 o2 o3 hrd hSq
 generalize writeA qs=WA at *
 go_wp2_with fail
 clear hW2
 refine hw1.mono ?_
 rintro e W3 ⟨rfl,b3⟩
 have z3:=b3.size
 have b03:=b02.trans (b3.mono (by omega))
 have bw3:=b0.trans (b03.mono (by omega))
 have hO3:=(b03.block w.heap.size (by omega)).trans hO0
 have c2:W3.cell? ⟨w.heap.size,2,none⟩=some (.string a):=za hO3 rfl
 have g3:=hg.next bw3
 have hr1:=VE (s:=a) (K.old (W':=W3) fun g hg=>bw3.block g hg) R (by omega) g3 (by omega) h1
 clear hw1 S2 p2 hP2 hO0 hO3
 go_wp2_with fail
 refine hr1.mono ?_
 rintro e W4 ⟨rfl,hR4⟩
 have hw2:Hid (Calls prog 44 #[.pointer (some ⟨wb,0,none⟩),.string WA.1] W4 fun e w'=>e= .returned (.bool true)/\yh base wb (M+2600000) w w'):=by
  obtain ⟨x4,B4,K4,R4,F4⟩:=hR4
  have z4:=F4.1
  refine (VE K4 R4 (by omega) (g3.frame F4 (by omega) h6) (by omega) (by omega)).mono ?_
  rintro e w' ⟨rfl,hR⟩
  exact ⟨rfl,hR.pre ((zs.of_below (base:=base) bw3).then F4) (by omega)⟩
 clear hR4 hr1 c2 K R g3 hg
 go_wp2_with fail
 refine hw2.out.mono ?_
 rintro e W5 ⟨rfl,hR⟩
 have hRH:Hid _:=hR
 clear hR hw2
 go_wp2_with fail
 go_ret
 exact ⟨by first | rfl | simp,hRH.out⟩
theorem DI {base wb M:Nat} {x:WV} {B:Bk} {w:World} {kd n m:Int} {a b:ByteArray} {ap:Option Addr} {cp:Nat} {hs:List HI} (hk:kd<=5) (K:zC base wb x B w) (R:jc M x B) (hM:M<=590000000000) (hm:w.cell? ⟨0,0,none⟩=some (.int .i64 m)) (hg:yr w) (hbase:base<=w.heap.size) (h6:6<=base)
 (h1:a.size<=4000000000) (h2:b.size<=4000000000) (S:qz base w (.slice ap hs.length cp) hs) (hL:Lim hs):
 Calls prog 21 #[.pointer (some ⟨wb,0,none⟩),.agg #[.int .i64 kd,.int .i64 n,.string a,.string b,.slice ap hs.length cp]] w fun e w'=>e= .returned (.bool true)/\yh base wb (M+2600000) w w':=by
 by_cases k2:kd<=2
 ·refine (EO (kd:=kd) (n:=n) (m:=m) (a:=a) (b:=b) (ap:=ap) (np:=hs.length) (cp:=cp) k2 K R (by omega) hm hbase h1 h2).mono ?_
  rintro e w' ⟨rfl,hR⟩
  exact ⟨rfl,yh.pre (M:=M+2000) (zs.refl base w) hR (by omega)⟩
 by_cases k3:kd=3
 ·exact Gx k3 K R hM hg hbase h6 h1 h2 S hL
 by_cases k4:kd=4
 ·exact EG k4 K R hM hg hbase h6 h1 h2
 ·exact KH (by omega) K R hM hbase h1 h2 S hL
def xy (base:Nat) (w:World) (v:Value) (hs:List HI):Prop:=qz base w v hs/\ ∀w',zs base w w' (fun g=>w.heap.size<=g)->ZT w' v hs.length
theorem xy.on {base:Nat} {w w1:World} {v:Value} {hs:List HI} {s:Nat->Prop} (h:xy base w v hs) (F:zs base w w1 s) (hg: ∀g,s g->w.heap.size<=g):xy base w1 v hs:=
 ⟨h.1.on F hg,fun w' F'=>h.2 w' ((F.trans F').mono fun g _ k=>k.elim (hg g) fun k=>Nat.le_trans F.1 k)⟩
theorem xy.cap {base:Nat} {w:World} {v:Value} {hs:List HI} (h:xy base w v hs):ZT w v hs.length:=h.2 w ((zs.refl base w).mono fun _ _ h=>h.elim)
theorem xy.of_low {B base:Nat} {w:World} {v:Value} {hs:List HI} (h:yH B w v hs) (hc:ZT w v hs.length) (hB:B<=base) (hw:B<=w.heap.size):xy base w v hs:=by
 refine ⟨qz.of_low h hB hw,fun w' F b off c e i hi a m c' hcell=> ?_⟩
 refine hc b off c e i hi a m c' ?_
 rw [<-hcell]
 symm
 apply World.cell?_of_block (a:=⟨b,off+i*5+4,none⟩)
 have hb:b<B:=by
  subst e
  obtain ⟨b2,off2,_,_,e2,hb2,_⟩:=h.at hi
  cases e2
  exact hb2
 rcases F.2.1 b (by omega) with e3 | e3 | ⟨_,_,_,_,_,e3⟩
 ·exact e3
 ·omega
 ·omega
theorem HSo.capAt {B:Nat} {w:World} {v:Value} {hv:List HV} (h:HSo B v hv w):ZT w v hv.length:=by
 intro b off c e i hi a m c' hcell
 rcases h with ⟨rfl,_⟩ | ⟨g,cap,e2,_,s⟩
 ·simp at hi
 ·rw [e2] at e
  simp only [Value.slice.injEq,Option.some.injEq,Addr.mk.injEq] at e
  obtain ⟨⟨rfl,rfl,_⟩,_,_⟩:=e
  obtain ⟨_,_,_,_,c4⟩:=xN s.row hi
  rw [Nat.zero_add] at hcell
  rw [hcell] at c4
  have e4:=Option.some.inj c4
  have hl:=s.lines hv[i] (List.getElem_mem hi)
  rw [<-e4] at hl
  rcases hl.2 with ⟨e5,_⟩ | ⟨_,_,_,e5,_,_,h1,_⟩
  ·cases e5;exact Nat.le_refl _
  ·cases e5;exact h1
theorem Yc.staysC {B base:Nat} {w:World} {v:Value} {hs:List zx} (h:Yc B w v hs):xy base w v (hs.map HI.ofM):=by
 refine ⟨h.stays,fun w' F=> ?_⟩
 obtain ⟨hv,h1,h2⟩:=h
 have h3:=(h1.frame F (fun g _ h3 h4=>by omega)).capAt
 rw [List.length_map,<-h2,List.length_map]
 exact h3
theorem Kc (N:Nat): ∀l:List ByteArray,(∀x∈l,x.size<=N)->(zy l).length<=l.length*(N+1)
 | [],_=>by simp [zy]
 | a::l,h=>by
   have h1:=Kc N l fun x hx=>h x (List.mem_cons_of_mem _ hx)
   have h2:=h a List.mem_cons_self
   have e:(zy (a::l)).length=a.size+1+(zy l).length:=by
    have e1:a.data.toList.length=a.size:=rfl
    unfold zy
    rw [List.flatMap_cons,List.length_append,List.length_append,e1]
    rfl
   rw [e,List.length_cons,Nat.succ_mul]
   omega
theorem VR (a b:ByteArray) (c:Int): ∀h∈yu a b c,∀s∈h.lines,s.text.size<=8000:=by
 intro m hm s hs
 unfold yu at hm
 by_cases hk:checkB a b c=0
 ·rw [if_pos hk] at hm
  have hl2:(yd a=true/\yd b=true)/\yb a=false/\yb b=false:=by
   unfold checkB at hk
   split at hk
   ·simp at hk
   ·rename_i d0
    split at hk
    ·simp at hk
    ·rename_i d
     simp at d d0
     exact ⟨d0,d⟩
  have hza: ∀s:ByteArray,yb s=false->s.size<=8000:=fun s h=>by
   unfold yb at h
   simp at h
   exact h.1
  have ht:=JH (linesB a) (linesB b) 8000 (fun x hx=>Nat.le_trans (Zx hl2.1.1 hx) (hza a hl2.2.1)) (fun x hx=>Nat.le_trans (Zx hl2.1.2 hx) (hza b hl2.2.2))
  unfold diffM at hm
  generalize Dn.WT (linesB a) (linesB b)=L at *
  unfold jj at hm
  obtain ⟨y,hy,rfl⟩:=List.mem_map.1 hm
  exact (ht s (JZ L _ _ y hy s hs)).2
 ·rw [if_neg hk] at hm
  simp at hm
theorem QJ (a b:ByteArray) (c:Int):Xf (diffI a b c):=by
 intro h hh
 unfold diffI at hh
 obtain ⟨m,hm,rfl⟩:=List.mem_map.1 hh
 have h1:=(jw a b c).2 m hm
 have h2:=Zt m.lines
 have h3:=Kc 8000 (Dn.Yx m.lines) fun x hx=>by
  unfold Dn.Yx at hx
  obtain ⟨s,hs,rfl⟩:=List.mem_map.1 hx
  exact VR a b c m hm s (List.mem_filter.1 hs).1
 show (zy (Dn.Yx m.lines)).length<=4000000
 have h4:(Dn.Yx m.lines).length*(8000+1)<=402*8001:=Nat.mul_le_mul_right _ (by omega)
 omega
theorem Zd {a b:ByteArray} {c:Int} {w:World} (h1:a.size<=4000000000) (h2:b.size<=4000000000):
 Calls prog 20 #[.string a,.string b,.int .i64 c] w fun e w'=> ∃al cl,e= .returned (.tuple #[.agg #[.slice al (diffI a b c).length cl],.int .i64 (checkB a b c)])/\Hid (∀base,xy base w' (.slice al (diffI a b c).length cl) (diffI a b c))/\Below w.heap.size w w':=
 (kO h1 h2).mono fun _ _ ⟨al,cl,e,h,b⟩=>⟨al,cl,by rw [e];unfold diffI;rw [List.length_map],by show ∀base,_;intro base;unfold diffI;rw [List.length_map];exact h.staysC,b⟩
theorem Fa {base n cl:Nat} {al:Option Addr} {w:World} {sm:List jS} (h:w.ownsRow base 63 3 (.slice al n cl) n (zL sm)) {i:Nat} (hi:i<sm.length):
 ∃g,al=some ⟨g,0,none⟩/\g<w.heap.size/\w.cell? ⟨g,i*3,none⟩=some (.bool sm[i].done)/\w.cell? ⟨g,i*3+1,none⟩=some (.int .i64 sm[i].at')/\w.cell? ⟨g,i*3+2,none⟩=some (.int .i64 (sm[i].fz:Nat)):=by
 have hg: ∀(l:List jS) (i:Nat) (hi:i<l.length),(zL l)[i*3]? =some (.bool l[i].done)/\(zL l)[i*3+1]? =some (.int .i64 l[i].at')/\(zL l)[i*3+2]? =some (.int .i64 (l[i].fz:Nat)):=by
  intro l
  induction l with
  | nil=>intro i hi;simp at hi
  | cons a l ih=>
    intro i hi
    cases i with
    | zero=>simp [zL]
    | succ i=>
      have h2:=ih i (by simpa using hi)
      have e: ∀k,(zL (a::l))[(i+1)*3+k]? =(zL l)[i*3+k]? :=fun k=>by
       rw [show (i+1)*3+k=(i*3+k)+3 by omega]
       simp [zL]
      exact ⟨(e 0).trans h2.1,(e 1).trans h2.2.1,(e 2).trans h2.2.2⟩
 obtain ⟨g0,g1,g2⟩:=hg sm i hi
 have hlen:(zL sm).length=sm.length*3:=by
  clear h hi g0 g1 g2 hg
  induction sm with
  | nil=>rfl
  | cons a l ih=>simp [zL] at ih ⊢;omega
 have hn:n*3=sm.length*3:=by rw [<-h.1,hlen]
 obtain ⟨g,cap,e,_,hgs,_⟩:=zv h (by omega)
 simp only [Value.slice.injEq] at e
 obtain ⟨rfl,_,rfl⟩:=e
 exact ⟨g,rfl,hgs,(h.cellAt (i*3) (by omega)).trans g0,(h.cellAt (i*3+1) (by omega)).trans g1,(h.cellAt (i*3+2) (by omega)).trans g2⟩
end Go.Proofs.YtcclgodahlinbaaGreatDoor
