import Derived.Test.YtcclgodahlinbaaGreatDoorA16
import Derived.Test.YtcclgodahlinbaaGreatDoorA11
import Derived.Test.YtcclgodahlinbaaGreatDoorA13
import Derived.Lib.AtoiAllCases
import Derived.Lib.AtoiTie
import Derived.Lib.ItoaMem
import Derived.Lib.CutLaws
namespace Go.Proofs.YtcclgodahlinbaaGreatDoor
set_option maxHeartbeats 16000000
open Tryz Go.RowKit Go
set_option maxRecDepth 100000
theorem DR {h:HI} {k:Nat} (hk:k<h.lines.length) (hno:zF h.lines[k].kind (h.fc-cntF (h.lines.take k)) (h.tc-cntT (h.lines.take k))=false):yw h=false:=by
 have e1:=Xc hk
 have e2:=Xg hk
 by_cases h1:yn h.lines[k].kind=true
 ·by_cases h2:0<=h.fc-cntF (h.lines.take k)-kF h.lines[k].kind
  ·have h3: ¬0<=h.tc-cntT (h.lines.take k)-kT h.lines[k].kind:=by
    intro h3
    unfold zF at hno
    rw [h1,decide_eq_true h2,decide_eq_true h3] at hno
    cases hno
   refine Ti (k:=k+1) ?_
   rw [e2]
   unfold kT at h3
   split at h3<;>simp_all<;>omega
  ·refine FN (k:=k+1) ?_
   rw [e1]
   unfold kF at h2
   split at h2<;>simp_all<;>omega
 ·exact YV hk (by unfold qQ;rw [Bool.eq_false_iff.2 h1];rfl)
theorem FS {h:HI} {k:Nat} (hk:k<h.lines.length) (hy:zF h.lines[k].kind (h.fc-cntF (h.lines.take k)) (h.tc-cntT (h.lines.take k))=true):
 yn h.lines[k].kind=true/\h.fc-cntF (h.lines.take k)-kF h.lines[k].kind=h.fc-cntF (h.lines.take (k+1))/\h.tc-cntT (h.lines.take k)-kT h.lines[k].kind=h.tc-cntT (h.lines.take (k+1))/\
  (cntF (h.lines.take (k+1)):Int)<=h.fc/\(cntT (h.lines.take (k+1)):Int)<=h.tc:=by
 have e1:=Xc hk
 have e2:=Xg hk
 unfold zF at hy
 simp only [Bool.and_eq_true,decide_eq_true_eq] at hy
 obtain ⟨⟨h1,h2⟩,h3⟩:=hy
 have e3:((cntF (h.lines.take (k+1)):Nat):Int)=cntF (h.lines.take k)+kF h.lines[k].kind:=by
  rw [e1];unfold kF;split<;>simp
 have e4:((cntT (h.lines.take (k+1)):Nat):Int)=cntT (h.lines.take k)+kT h.lines[k].kind:=by
  rw [e2];unfold kT;split<;>simp
 exact ⟨h1,by omega,by omega,by omega,by omega⟩
theorem EJ {h:HI} (ha:h.lines.all qQ=true):(decide (h.fc-(cntF h.lines:Int)=0) && decide (h.tc-(cntT h.lines:Int)=0) && chg h.lines)=yw h:=by
 unfold yw
 rw [ha,Bool.true_and]
 have e1:decide (h.fc-(cntF h.lines:Int)=0)=decide ((cntF h.lines:Int)=h.fc):=by rw [decide_eq_decide];omega
 have e2:decide (h.tc-(cntT h.lines:Int)=0)=decide ((cntT h.lines:Int)=h.tc):=by rw [decide_eq_decide];omega
 rw [e1,e2]
 cases chg h.lines<;>simp
theorem QB {h:HI} {a:Option Addr} {cap:Nat} {w:World} (hS:yk w.heap.size w (.slice a h.lines.length cap) h.lines) (hL:h.lines.length<=1048576) (hkk: ∀s∈h.lines,s.kind<256) (hf0:0<=h.fc) (ht0:0<=h.tc) (hf:h.fc<=100000) (ht:h.tc<=100000):
 Calls prog 69 #[qn h (.slice a h.lines.length cap)] w fun e w'=>e= .returned (.bool (yw h))/\Below w.heap.size w w':=by
 have hw0:Below w.heap.size w (w.alloc (ya h (.slice a h.lines.length cap))):=(Below.refl _ _).alloc (Nat.le_refl _) _
 have hB0:=heap_alloc_new w (ya h (.slice a h.lines.length cap))
 have hr:=Gd h a h.lines.length cap (w.alloc (ya h (.slice a h.lines.length cap)))
 have hz0:(w.alloc (ya h (.slice a h.lines.length cap))).heap.size=w.heap.size+1:=by simp
 have hX:Hid (∀w1,Below (w.alloc (ya h (.slice a h.lines.length cap))).heap.size (w.alloc (ya h (.slice a h.lines.length cap))) w1->
  Below w.heap.size w w1/\w1.cell? ⟨w.heap.size,4,none⟩=some (.slice a h.lines.length cap)/\w.heap.size<w1.heap.size):=by
  intro w1 hb
  refine ⟨hw0.trans (hb.mono (by omega)),(hb.cell (p:=⟨w.heap.size,4,none⟩) (by simp)).trans (za hB0 rfl),by have:=hb.size;omega⟩
 clear hw0 hB0 hz0
 go_enter func69,ntmps69
 go_wp2_with (go_at_call 106;refine hr.mono ?_;rintro e w1 ⟨rfl,hb1⟩;obtain ⟨hbw,c4,hlt⟩:=hX.out w1 hb1)
 clear hX hr hb1
 have hR0:=heap_alloc_new w1 (.cells #[.int .i64 h.fc,.int .i64 h.tc,.bool false] 86)
 have hbR:Below w.heap.size w (w1.alloc (.cells #[.int .i64 h.fc,.int .i64 h.tc,.bool false] 86)):=hbw.alloc hbw.size _
 go_loopg [11] h.lines.length (fun g t wr=> ∃k:Nat,g=h.lines.length-k/\k<=h.lines.length/\t= .int .i64 k/\wr.heap[w1.heap.size]? =some (.cells #[.int .i64 (h.fc-cntF (h.lines.take k)),.int .i64 (h.tc-cntT (h.lines.take k)),.bool (chg (h.lines.take k))] 86 (0,0))/\Hid ((h.lines.take k).all qQ=true)/\(cntF (h.lines.take k):Int)<=h.fc/\(cntT (h.lines.take k):Int)<=h.tc/\Below w.heap.size w wr)
 case atStart=>exact ⟨0,by omega,by omega,rfl,by rw [hR0];simp [cntF,cntT,chg],rfl,by simpa [cntF] using hf0,by simpa [cntT] using ht0,hbR⟩
 case round=>
  obtain ⟨k,hgk,hkl,rfl,hR,hal,hc1,hc2,hbel⟩:=hrel
  clear hR0 hbR hbw c4
  have hsz:=hbel.size
  have hRw:w1.heap.size<wr.heap.size:=(Array.getElem?_eq_some_iff.1 hR).1
  have hG:Hid (gk=h.lines.length-k):=hgk
  clear hgk
  by_cases hk:k<h.lines.length
  ·have hkI:(k:Int)<h.lines.length:=by omega
   obtain ⟨bb,off,rfl,hbB,r0,r1⟩:=(hS.below hbel).at hk
   have htk:=Jz (wr.alloc (.cells #[.int .u8 (h.lines[k].kind:Int),.string h.lines[k].text] 93)) ((Below.heap_alloc wr _ w1.heap.size hRw).trans hR) (hkk _ (List.getElem_mem hk)) (by omega) (by omega) (by omega) (by omega)
   have hcon:=fun w=>kl h.lines[k].text w
   have hno:Hid (zF h.lines[k].kind (h.fc-cntF (h.lines.take k)) (h.tc-cntT (h.lines.take k))=false->yw h=false):=DR hk
   have hye:Hid (zF h.lines[k].kind (h.fc-cntF (h.lines.take k)) (h.tc-cntT (h.lines.take k))=true->_):=FS hk
   have hnl:Hid (qA h.lines[k].text=true->yw h=false):=fun hn=>YV hk (by unfold qQ;rw [hn];simp)
   have hca:Hid (yn h.lines[k].kind=true->qA h.lines[k].text=false->(h.lines.take (k+1)).all qQ=true):=fun x y=>by rw [VX hk,hal.out];unfold qQ;rw [x,y];rfl
   have hch:Hid ((chg (h.lines.take k) || h.lines[k].kind !=32)=chg (h.lines.take (k+1))):=(VD hk).symm
   have hB1:=heap_alloc_new wr (.cells #[.int .u8 (h.lines[k].kind:Int),.string h.lines[k].text] 93)
   have hbx:Hid (∀w',(wr.alloc (.cells #[.int .u8 (h.lines[k].kind:Int),.string h.lines[k].text] 93)).grownBy w' (some w1.heap.size)->w'.cell? ⟨wr.heap.size,1,none⟩=some (.string h.lines[k].text)/\Below w.heap.size w w'):=by
    intro w' hg
    refine ⟨za ((hg.block wr.heap.size (by simp) (fun e=>by have:wr.heap.size=w1.heap.size:=Option.some.inj e;omega)).trans hB1) rfl,?_⟩
    exact (hbel.alloc hsz _).grown hg (by simp;omega) (fun k e=>by cases e;omega)
   generalize hsk:h.lines[k].kind=sk at *
   generalize h.lines[k].text=sx at *
   clear hsk hB1 hR hc1 hc2
   generalize h.fc-cntF (h.lines.take k)=F at *
   generalize h.tc-cntT (h.lines.take k)=T at *
   cases hq:zF sk F T with
   | false=>
     rw [hq] at htk
     have hB:Hid (yw h=false):=hno.out hq
     clear hq hno hye hnl hca hch
     go_wp2_with (go_at_call 78;refine htk.mono ?_;rintro e w' ⟨rfl, -,hg'⟩;obtain ⟨x1,hbel'⟩:=hbx.out w' hg')
     go_ret
     exact ⟨by rw [hB.out]<;>rfl,hbel'⟩
   | true=>
     rw [hq] at htk
     obtain ⟨y1,y2,y3,y4,y5⟩:=hye.out hq
     have hY:Hid (yn sk=true/\F-kF sk=h.fc-cntF (h.lines.take (k+1))/\T-kT sk=h.tc-cntT (h.lines.take (k+1))/\(cntF (h.lines.take (k+1)):Int)<=h.fc/\(cntT (h.lines.take (k+1)):Int)<=h.tc):=⟨y1,y2,y3,y4,y5⟩
     clear hq hno hye y1 y2 y3 y4 y5
     cases hn:qA sx with
     | true=>
       rw [hn] at hcon
       have hB:Hid (yw h=false):=hnl.out hn
       clear hn hnl hca hch
       go_wp2_with (first | (go_at_call 78;refine htk.mono ?_;rintro e w' ⟨rfl,hR',hg'⟩;obtain ⟨x1,hbel'⟩:=hbx.out w' hg') | (go_at_call 107;refine (hcon _).mono ?_;rintro e w'' ⟨rfl,rfl⟩))
       go_ret
       exact ⟨by rw [hB.out]<;>rfl,hbel'⟩
     | false=>
       rw [hn] at hcon
       have hca2:Hid ((h.lines.take (k+1)).all qQ=true):=hca.out hY.out.1 hn
       clear hn hnl hca
       go_wp2_with (first | (go_at_call 78;refine htk.mono ?_;rintro e w' ⟨rfl,hR',hg'⟩;obtain ⟨x1,hbel'⟩:=hbx.out w' hg') | (go_at_call 107;refine (hcon _).mono ?_;rintro e w'' ⟨rfl,rfl⟩))
       go_roundg (h.lines.length-(k+1))
       case measure=>have:=hG.out;omega
       case rel=>
        refine ⟨k+1,rfl,by omega,by go_num,?_,hca2,hY.out.2.2.2.1,hY.out.2.2.2.2,hbel'⟩
        have:=hR' (by trivial)
        rw [hY.out.2.1,hY.out.2.2.1,hch.out] at this
        exact this
  ·have hkI: ¬((k:Int)<h.lines.length):=by omega
   have hE:Hid (h.lines.take k=h.lines):=List.take_of_length_le (by omega)
   rw [hE.out] at hR hal
   have hb:=EJ hal.out
   have hd:=Dr (h.fc-cntF h.lines) (h.tc-cntT h.lines) (chg h.lines) wr
   rw [hb] at hd
   have q0:wr.cell? ⟨w1.heap.size,0,none⟩=some (.int .i64 (h.fc-cntF h.lines)):=za hR rfl
   have q1:wr.cell? ⟨w1.heap.size,1,none⟩=some (.int .i64 (h.tc-cntT h.lines)):=za hR rfl
   have q2:wr.cell? ⟨w1.heap.size,2,none⟩=some (.bool (chg h.lines)):=za hR rfl
   clear hR hb hal
   generalize h.fc-(cntF h.lines:Int)=F at *
   generalize h.tc-(cntT h.lines:Int)=T at *
   generalize chg h.lines=C at *
   go_wp2_with (go_at_call 80;refine hd.mono ?_;rintro e w' ⟨rfl,hb'⟩)
   go_ret
   exact ⟨rfl,hbel.trans (hb'.mono hsz)⟩
theorem js {hs:List HI} {a:Option Addr} {cap:Nat} {w:World} (hH:yH w.heap.size w (.slice a hs.length cap) hs) (hL:Lim hs):
 Calls prog 31 #[.agg #[.slice a hs.length cap]] w fun e w'=>e= .returned (.bool (zQ 0 0 hs))/\Below w.heap.size w w':=by
 have hw0:Below w.heap.size w ((w.alloc (.cells #[.slice a hs.length cap] 32)).alloc (.cells #[.int .i64 0,.int .i64 0] 84)):=((Below.refl _ _).alloc (Nat.le_refl _) _).alloc (by simp) _
 have hS0:=heap_alloc_new (w.alloc (.cells #[.slice a hs.length cap] 32)) (.cells #[.int .i64 0,.int .i64 0] 84)
 rw [World.size_alloc] at hS0
 obtain ⟨hL1,hL2⟩:=hL
 go_enter func31,ntmps31
 go_wp2
 go_loopg [9] hs.length (fun g t wr=> ∃(k:Nat) (en gr:Int),g=hs.length-k/\k<=hs.length/\t= .int .i64 k/\wr.heap[w.heap.size+1]? =some (.cells #[.int .i64 en,.int .i64 gr] 84 (0,0))/\Hid (zQ 0 0 hs=zQ en gr (hs.drop k))/\ -(100000*(k:Int))<=gr/\gr<=100000*(k:Int)/\Below w.heap.size w wr)
 case atStart=>exact ⟨0,0,0,by omega,by omega,rfl,hS0,rfl,by omega,by omega,hw0⟩
 case round=>
  obtain ⟨k,en,gr,hgk,hkl,rfl,hS,hm,hg1,hg2,hbel⟩:=hrel
  clear hw0 hS0
  have hG:Hid (gk=hs.length-k):=hgk
  clear hgk
  have hsz:=hbel.size
  have hSw:w.heap.size+1<wr.heap.size:=(Array.getElem?_eq_some_iff.1 hS).1
  by_cases hk:k<hs.length
  ·have hkI:(k:Int)<hs.length:=by omega
   obtain ⟨b,off,a',c',rfl,hbB,r0,r1,r2,r3,r4,hst⟩:=(hH.below hbel).at hk
   obtain ⟨l1, -, -, -, -,l2⟩:=hL2 _ (List.getElem_mem hk)
   have hm2:Hid (zQ 0 0 hs=(fitsI hs[k] en gr && yw hs[k] && zQ (placeI hs[k].fr hs[k].fc+hs[k].fc) (gr+hs[k].tc-hs[k].fc) (hs.drop (k+1)))):=by
    show _=_
    rw [hm.out,List.drop_eq_getElem_cons hk,zQ]
   generalize hs[k]=h at r0 r1 r2 r3 r4 hst hm2 l1 l2
   have hbB':b<wr.heap.size:=by omega
   have hB1:=heap_alloc_new wr (ya h (.slice a' h.lines.length c'))
   have htk:=Ec h a' h.lines.length c' (wr.alloc (ya h (.slice a' h.lines.length c'))) ((Below.heap_alloc wr _ (w.heap.size+1) hSw).trans hS) (by omega) (by omega)
   have hX:Hid (∀w',(wr.alloc (ya h (.slice a' h.lines.length c'))).grownBy w' (some (w.heap.size+1))->w'.heap[wr.heap.size]? =some (ya h (.slice a' h.lines.length c'))/\Below w.heap.size w w'/\w.heap.size+1<w'.heap.size/\
    (fitsI h en gr=true->Calls prog 69 #[qn h (.slice a' h.lines.length c')] w' fun e w''=>e= .returned (.bool (yw h))/\Below w'.heap.size w' w'')):=by
    intro w' hg
    have hb':Below w.heap.size w w':=(hbel.alloc hsz _).grown hg (by simp;omega) (fun k e=>by cases e;omega)
    refine ⟨(hg.block wr.heap.size (by simp) (fun e=>by have:wr.heap.size=w.heap.size+1:=Option.some.inj e;omega)).trans hB1,hb',by have:=hg.size;simp at this;omega,fun hf=> ?_⟩
    have hb2:Below w.heap.size wr w':=((Below.refl _ wr).alloc hsz _).grown hg (by simp;omega) (fun k e=>by cases e;omega)
    obtain ⟨n1,n2,_⟩:=qj.1 hf
    rw [zH] at n1 n2
    exact QB ((hst.below hb2).mono hb'.size) l1 (fun s hs=>(l2 s hs).1) n1.2.2.1 n2.2.2.1 n1.2.2.2.1 n2.2.2.2.1
   have hA:Hid (fitsI h en gr=true-> -(100000*((k+1:Nat):Int))<=gr+h.tc-h.fc/\gr+h.tc-h.fc<=100000*((k+1:Nat):Int)):=by
    intro hf
    obtain ⟨n1,n2,_⟩:=qj.1 hf
    rw [zH] at n1 n2
    exact ⟨by omega,by omega⟩
   unfold qn at htk hX
   unfold ya at htk hX hB1
   clear hg1 hg2 hB1 hS hst hH
   cases hf:fitsI h en gr with
   | false=>
     have hF:Hid (zQ 0 0 hs=false):=by show _=_;rw [hm2.out,hf];rfl
     rw [hf] at htk
     clear hf hm2 hm hA
     go_wp2_with (go_at_call 68;refine htk.mono ?_;rintro e w2 ⟨rfl, -,hg2'⟩;obtain ⟨hbx,hbw,hlt2, -⟩:=hX.out w2 hg2')
     go_ret
     exact ⟨by rw [hF.out]<;>rfl,hbw⟩
   | true=>
     rw [hf] at htk
     have hA2:Hid _:=hA.out hf
     have hX2:Hid (∀w',(wr.alloc (.cells #[.int .i64 h.fr,.int .i64 h.fc,.int .i64 h.tr,.int .i64 h.tc,.slice a' h.lines.length c'] 61)).grownBy w' (some (w.heap.size+1))->w'.heap[wr.heap.size]? =some (.cells #[.int .i64 h.fr,.int .i64 h.fc,.int .i64 h.tr,.int .i64 h.tc,.slice a' h.lines.length c'] 61 (0,0))/\Below w.heap.size w w'/\w.heap.size+1<w'.heap.size/\
      Calls prog 69 #[.agg #[.int .i64 h.fr,.int .i64 h.fc,.int .i64 h.tr,.int .i64 h.tc,.slice a' h.lines.length c']] w' fun e w''=>e= .returned (.bool (yw h))/\Below w'.heap.size w' w''):=fun w' hg=>⟨(hX.out w' hg).1,(hX.out w' hg).2.1,(hX.out w' hg).2.2.1,(hX.out w' hg).2.2.2 hf⟩
     cases hbo:yw h with
     | false=>
       have hF:Hid (zQ 0 0 hs=false):=by show _=_;rw [hm2.out,hf,hbo];rfl
       rw [hbo] at hX2
       clear hf hm2 hm hA hX hbo
       go_wp2_with (first | (go_at_call 68;refine htk.mono ?_;rintro e w2 ⟨rfl,hS2,hg2'⟩;obtain ⟨hbx,hbw,hlt2,hlm⟩:=hX2.out w2 hg2';have y0:=za (k:=0) hbx rfl;have y1:=za (k:=1) hbx rfl;have y2:=za (k:=2) hbx rfl;have y3:=za (k:=3) hbx rfl;have y4:=za (k:=4) hbx rfl) | (go_at_call 69;refine hlm.mono ?_;rintro e w3 ⟨rfl,hb3⟩))
       go_ret
       exact ⟨by rw [hF.out]<;>rfl,hbw.trans (hb3.mono hbw.size)⟩
     | true=>
       have hF:Hid (zQ 0 0 hs=zQ (placeI h.fr h.fc+h.fc) (gr+h.tc-h.fc) (hs.drop (k+1))):=by show _=_;rw [hm2.out,hf,hbo];rfl
       rw [hbo] at hX2
       clear hf hm2 hm hA hX hbo
       generalize placeI h.fr h.fc+h.fc=PL at *
       go_wp2_with (first | (go_at_call 68;refine htk.mono ?_;rintro e w2 ⟨rfl,hS2,hg2'⟩;obtain ⟨hbx,hbw,hlt2,hlm⟩:=hX2.out w2 hg2';have y0:=za (k:=0) hbx rfl;have y1:=za (k:=1) hbx rfl;have y2:=za (k:=2) hbx rfl;have y3:=za (k:=3) hbx rfl;have y4:=za (k:=4) hbx rfl) | (go_at_call 69;refine hlm.mono ?_;rintro e w3 ⟨rfl,hb3⟩))
       have hS3:=(hb3.block (w.heap.size+1) hlt2).trans (hS2 (by trivial))
       go_roundg (hs.length-(k+1))
       case measure=>have:=hG.out;omega
       case rel=>exact ⟨k+1,_,_,rfl,by omega,by go_num,hS3,hF,hA2.out.1,hA2.out.2,hbw.trans (hb3.mono hbw.size)⟩
  ·have hkI: ¬((k:Int)<hs.length):=by omega
   have hF:Hid (zQ 0 0 hs=true):=by show _=_;rw [hm.out,List.drop_eq_nil_of_le (by omega)];rfl
   clear hm
   go_wp2
   go_ret
   exact ⟨by rw [hF.out]<;>rfl,hbel⟩
end Go.Proofs.YtcclgodahlinbaaGreatDoor
namespace Go.Proofs
open Tryz Go.Shelf
set_option maxRecDepth 100000
theorem Tryz.laysM171:Go.Proofs.LaysM.n171 prog Tryz.lays171_ren:= { Tryz.lays171 with
 i0:=by kernel_rfl
 i2:=by kernel_rfl
 i3:=by kernel_rfl
 i4:=by kernel_rfl
 i5:=by kernel_rfl
 i9:=by kernel_rfl
 i20:=by kernel_rfl
 i37:=by kernel_rfl
 i46:=by kernel_rfl
 i51:=by kernel_rfl
 i53:=by kernel_rfl
 i171:=by kernel_rfl
 i173:=by kernel_rfl
 i212:=by kernel_rfl
 i232:=by kernel_rfl
 i233:=by kernel_rfl
 m17:=by kernel_rfl
 m18:=by kernel_rfl
 m19:=by kernel_rfl }
open Go.RowKit Go.Sort Go.Lib in
theorem Tryz.strconv_Itoa (n:Int) (h0: -9223372036854775808<=n) (h1:n<=9223372036854775807) (w:World) (htab:Lib.TabIs prog w "internal/strconv.uint64pow10" .u64 Lib.pow10Tab):
 Calls prog 133 #[.int .i64 n] w fun e w'=>e= .returned (.string ⟨(Lib.itoa n).toArray⟩)/\ ∃k os,w'=grow (w.drewN k) os:=Any.strconv_Itoa Tryz.laysM171 n h0 h1 w htab
open Go.RowKit in
theorem Tryz.strconv_Atoi_range (s:ByteArray) (hlim:s.size<=281474976710656) (h:Lib.atoiAll s.data.toList= .range) (ev:Value) (w:World) (hv:w.cell? ⟨5,0,none⟩=some ev) (hev:ev= .nilIface\/ ∃te pe,ev= .iface te pe):
 Calls prog 154 #[.string s] w fun e w'=> ∃N t,e= .returned (.tuple #[.int .i64 (Lib.atoiSat s.data.toList),.iface t (.pointer (some ⟨N,0,none⟩))])/\Below w.heap.size w w':=by
 refine (Any.strconv_Atoi_range Tryz.laysC172 s hlim h ev w hv hev).mono ?_
 rintro e w' ⟨N,h1,_,_,h2⟩
 exact ⟨N,_,h1,h2⟩
end Go.Proofs
namespace Go.Proofs.YtcclgodahlinbaaGreatDoor
set_option maxHeartbeats 16000000
open Tryz Go
set_option maxRecDepth 100000
theorem Xk: ∀(n:Nat) (c:UInt8),c∈Lib.decDigits n->48<=c.toNat/\c.toNat<=57:=by
 intro n
 induction n using Nat.strongRecOn with
 | _ n ih=>
   intro c hc
   rw [Lib.decDigits] at hc
   by_cases h:n<10
   ·rw [dif_pos h,List.mem_singleton] at hc
    subst hc
    have:(UInt8.ofNat (48+n)).toNat=48+n:=by simp;omega
    omega
   ·rw [dif_neg h,List.mem_append,List.mem_singleton] at hc
    rcases hc with hc | hc
    ·exact ih (n / 10) (by omega) c hc
    ·subst hc
     have:(UInt8.ofNat (48+n % 10)).toNat=48+n % 10:=by simp;omega
     omega
theorem Wb (n:Nat):1<=(Lib.decDigits n).length:=by rw [Lib.decDigits_length];exact Lib.nDigits_pos n
theorem KG (n:Nat):Lib.decDigits n≠ []:=fun e=>by have:=Wb n;rw [e] at this;simp at this
theorem km {n:Nat} (h:n<=100000):(Lib.decDigits n).length<=6:=by
 have key: ∀(k n:Nat),n<10 ^ (k+1)->(Lib.decDigits n).length<=k+1:=by
  intro k
  induction k with
  | zero=>intro n hn;rw [Lib.decDigits,dif_pos (by simpa using hn)];simp
  | succ k ih=>
    intro n hn
    rw [Lib.decDigits]
    split
    ·simp
    ·have:=ih (n / 10) (by rw [Nat.pow_succ] at hn;omega)
     simp;omega
 exact key 5 n (Nat.lt_of_le_of_lt h (by decide))
theorem Tl: ∀(n acc:Nat),∃p,Lib.decFrom acc (Lib.decDigits n)=some (acc*10 ^ p+n)/\p=(Lib.decDigits n).length:=by
 have app: ∀(l m:List UInt8) (acc v:Nat),Lib.decFrom acc l=some v->Lib.decFrom acc (l++m)=Lib.decFrom v m:=by
  intro l
  induction l with
  | nil=>intro m acc v h;simp [Lib.decFrom] at h;subst h;rfl
  | cons b l ih=>
    intro m acc v h
    rw [List.cons_append,Lib.decFrom]
    rw [Lib.decFrom] at h
    split at h
    ·exact ih m _ v h
    ·cases h
 have one: ∀d acc:Nat,d<10->Lib.decFrom acc [UInt8.ofNat (48+d)]=some (acc*10+d):=by
  intro d acc hd
  have e:(UInt8.ofNat (48+d)).toNat=48+d:=by simp;omega
  have hv:Lib.digitVal (UInt8.ofNat (48+d))=some d:=by
   unfold Lib.digitVal
   rw [e,if_pos (by omega)]
   congr 1
   omega
  rw [Lib.decFrom,hv]
  rfl
 intro n
 induction n using Nat.strongRecOn with
 | _ n ih=>
   intro acc
   rw [Lib.decDigits]
   by_cases h:n<10
   ·rw [dif_pos h,one n acc h]
    exact ⟨1,by simp,rfl⟩
   ·rw [dif_neg h]
    obtain ⟨p,h1,h2⟩:=ih (n / 10) (by omega) acc
    refine ⟨p+1,?_,by simp [h2]⟩
    rw [app _ _ _ _ h1,one _ _ (by omega),Nat.pow_succ]
    congr 1
    rw [Nat.add_mul,Nat.mul_assoc]
    omega
theorem Qg (n:Nat):Lib.decNat (Lib.decDigits n)=some n:=by
 obtain ⟨p,h,_⟩:=Tl n 0
 unfold Lib.decNat
 cases hd:Lib.decDigits n with
 | nil=>exact absurd hd (KG n)
 | cons b l=>rw [hd] at h;simpa using h
theorem Ts {n m:Nat} (h:Lib.decDigits n=Lib.decDigits m):n=m:=by
 have a:=Qg n
 rw [h,Qg m] at a
 exact (Option.some.inj a).symm
theorem Dk {n:Nat} (h:n<=100000):Lib.atoiAll (Lib.decDigits n)= .ok (n:Int):=by
 have hl:=km h
 rw [Lib.atoiAll_short _ (by omega)]
 have hv:=Qg n
 have hd:=Xk n
 cases he:Lib.decDigits n with
 | nil=>exact absurd he (KG n)
 | cons b l=>
   rw [he] at hv hd
   have hb:=hd b (by simp)
   unfold Lib.atoi
   have h1:(b==45)=false:=by rw [beq_eq_false_iff_ne];rintro rfl;simp at hb
   have h2:(b==43)=false:=by rw [beq_eq_false_iff_ne];rintro rfl;simp at hb
   simp only [h1,h2,Bool.false_eq_true,if_false,hv]
   rfl
def qv (d:List UInt8):Int×Bool:=match Lib.atoiAll d with
 | .ok v=>(v,decide (0<=v) && decide (Lib.itoa v=d))
 | .range=>(Lib.atoiSat d,false)
 | _=>(0,false)
theorem Kp {d:List UInt8} (h:(qv d).2=true): ∃n:Nat,(qv d).1=n/\d=Lib.decDigits n:=by
 unfold qv at h ⊢
 cases ha:Lib.atoiAll d with
 | ok v=>
   rw [ha] at h
   simp only [Bool.and_eq_true,decide_eq_true_eq] at h
   obtain ⟨h0,h1⟩:=h
   obtain ⟨n,rfl⟩:=Int.eq_ofNat_of_zero_le h0
   exact ⟨n,rfl,by rw [<-h1];exact Lib.itoa_nonneg n⟩
 | _=>rw [ha] at h;cases h
theorem WL {n:Nat} (h:n<=100000):qv (Lib.decDigits n)=((n:Int),true):=by
 unfold qv
 rw [Dk h]
 simp [Lib.itoa_nonneg]
def spanP (d:List UInt8):Int×Int×Bool:=((qv (Lib.cut d [44]).1).1,(qv (Lib.cut d [44]).2.1).1,(Lib.cut d [44]).2.2 && (qv (Lib.cut d [44]).1).2 && (qv (Lib.cut d [44]).2.1).2)
theorem Vu {s sep:List UInt8} (h:(Lib.cut s sep).2.2=true):s=(Lib.cut s sep).1++sep++(Lib.cut s sep).2.1:=by
 unfold Lib.cut at h ⊢
 by_cases hi:0<=Lib.index s sep
 ·rw [if_pos hi]
  obtain ⟨k,hk⟩:=Int.eq_ofNat_of_zero_le hi
  have ho:Lib.occAt s sep k=true:=by
   rcases Lib.index_spec s sep with ⟨h1,_⟩ | ⟨i,h1,_,h2,_⟩
   ·omega
   ·obtain rfl:i=k:=by omega
    exact h2
  simp only [hk,Int.toNat_natCast]
  unfold Lib.occAt at ho
  rw [List.isPrefixOf_iff_prefix] at ho
  obtain ⟨t,ht⟩:=ho
  have h2:s.drop (k+sep.length)=t:=by rw [<-List.drop_drop,<-ht,List.drop_left' rfl]
  rw [h2,List.append_assoc,ht,List.take_append_drop]
 ·rw [if_neg hi] at h
  cases h
theorem UK {a b sep:List UInt8} {c:UInt8} {t:List UInt8} (hs:sep=c::t) (ha:c ∉ a):Lib.cut (a++sep++b) sep=(a,b,true):=by
 have hi:Lib.index (a++sep++b) sep=a.length:=by
  refine Lib.index_first (by simp) ?_ ?_
  ·unfold Lib.occAt
   rw [List.append_assoc,List.drop_left' rfl]
   simp
  ·intro j hj
   cases h:Lib.occAt (a++sep++b) sep j with
   | false=>rfl
   | true=>
     exfalso
     have:=Lib.occAt_head hs h
     rw [List.append_assoc,List.getElem?_append_left hj,List.getElem?_eq_getElem hj] at this
     exact ha (Option.some.inj this ▸ List.getElem_mem hj)
 unfold Lib.cut
 rw [hi,if_pos (by omega)]
 have e1:((a.length:Nat):Int).toNat=a.length:=by simp
 simp only [e1]
 rw [List.append_assoc,List.take_left' rfl]
 rw [<-List.append_assoc,List.drop_left' (by simp)]
def xg (f c:Nat):List UInt8:=Lib.decDigits f++ [44]++Lib.decDigits c
theorem KV {n:Nat} {c:UInt8} (hc:c.toNat<48):c ∉ Lib.decDigits n:=fun hm=>by have:=Xk n c hm;omega
theorem Fl {f c:Nat} {x:UInt8} (hx:x.toNat<44):x ∉ xg f c:=by
 intro hm
 unfold xg at hm
 rw [List.mem_append,List.mem_append] at hm
 rcases hm with (hm | hm) | hm
 ·exact KV (by omega) hm
 ·rw [List.mem_singleton] at hm;subst hm;simp at hx
 ·exact KV (by omega) hm
theorem Xt {f c:Nat} (h1:f<=100000) (h2:c<=100000):(xg f c).length<=13:=by
 have:=km h1;have:=km h2;simp [xg];omega
theorem Qq {d:List UInt8} (h:(spanP d).2.2=true): ∃f c:Nat,(spanP d).1=f/\(spanP d).2.1=c/\d=xg f c:=by
 unfold spanP at h ⊢
 simp only [Bool.and_eq_true] at h
 obtain ⟨⟨h0,h1⟩,h2⟩:=h
 obtain ⟨f,f1,f2⟩:=Kp h1
 obtain ⟨c,c1,c2⟩:=Kp h2
 refine ⟨f,c,f1,c1,?_⟩
 unfold xg
 rw [<-f2,<-c2]
 exact Vu h0
theorem Kf {f c:Nat} (h1:f<=100000) (h2:c<=100000):spanP (xg f c)=((f:Int),(c:Int),true):=by
 have hc:Lib.cut (xg f c) [44]=(Lib.decDigits f,Lib.decDigits c,true):=UK (sep:= [44]) rfl (KV (by decide))
 unfold spanP
 rw [hc,WL h1,WL h2]
 rfl
def yv (a b c d:Nat):List UInt8:= [64,64,32,45]++xg a b++ [32,43]++xg c d++ [32,64,64]
structure HP where
 fr:Int
 fc:Int
 tr:Int
 tc:Int
 ok:Bool
def xB (line:List UInt8):List UInt8×List UInt8×Bool:=Lib.cut (Lib.trimSuffix (Lib.trimPrefix line [64,64,32,45]) [32,64,64]) [32,43]
def zI (line:List UInt8):HP:=
 ⟨(spanP (xB line).1).1,(spanP (xB line).1).2.1,(spanP (xB line).2.1).1,(spanP (xB line).2.1).2.1,
   Lib.hasPrefix line [64,64,32,45] && Lib.hasSuffix (Lib.trimPrefix line [64,64,32,45]) [32,64,64] && (xB line).2.2 && (spanP (xB line).1).2.2 && (spanP (xB line).2.1).2.2⟩
theorem Uw {line:List UInt8} (h:(zI line).ok=true): ∃a b c d:Nat,(zI line).fr=a/\(zI line).fc=b/\(zI line).tr=c/\(zI line).tc=d/\line=yv a b c d:=by
 unfold zI at h ⊢
 simp only [Bool.and_eq_true] at h ⊢
 obtain ⟨⟨⟨⟨h1,h2⟩,h3⟩,h4⟩,h5⟩:=h
 obtain ⟨a,b,a1,b1,e1⟩:=Qq h4
 obtain ⟨c,d,c1,d1,e2⟩:=Qq h5
 refine ⟨a,b,c,d,a1,b1,c1,d1,?_⟩
 have e3:Lib.trimSuffix (Lib.trimPrefix line [64,64,32,45]) [32,64,64]=xg a b++ [32,43]++xg c d:=by
  have:=Vu h3
  rw [<-e1,<-e2]
  exact this
 have e4:line= [64,64,32,45]++Lib.trimPrefix line [64,64,32,45]:=by
  unfold Lib.trimPrefix
  rw [if_pos h1]
  unfold Lib.hasPrefix at h1
  rw [List.isPrefixOf_iff_prefix] at h1
  obtain ⟨t,rfl⟩:=h1
  rw [List.drop_left' rfl]
 have e5:Lib.trimPrefix line [64,64,32,45]=Lib.trimSuffix (Lib.trimPrefix line [64,64,32,45]) [32,64,64]++ [32,64,64]:=by
  generalize Lib.trimPrefix line [64,64,32,45]=m at h2 ⊢
  unfold Lib.trimSuffix
  rw [if_pos h2]
  unfold Lib.hasSuffix at h2
  rw [List.isSuffixOf_iff_suffix] at h2
  obtain ⟨t,rfl⟩:=h2
  rw [List.take_left' (by simp only [List.length_append];omega)]
 rw [e4,e5,e3]
 simp [yv]
theorem FP {a b c d:Nat} (h1:a<=100000) (h2:b<=100000) (h3:c<=100000) (h4:d<=100000):zI (yv a b c d)=⟨(a:Int),(b:Int),(c:Int),(d:Int),true⟩:=by
 have e0:yv a b c d= [64,64,32,45]++((xg a b++ [32,43]++xg c d)++ [32,64,64]):=by simp [yv]
 have p1:Lib.hasPrefix (yv a b c d) [64,64,32,45]=true:=by rw [e0];unfold Lib.hasPrefix;simp
 have p2:Lib.trimPrefix (yv a b c d) [64,64,32,45]=(xg a b++ [32,43]++xg c d)++ [32,64,64]:=by
  unfold Lib.trimPrefix;rw [if_pos p1,e0,List.drop_left' rfl]
 have p3:Lib.hasSuffix ((xg a b++ [32,43]++xg c d)++ [32,64,64]) [32,64,64]=true:=by unfold Lib.hasSuffix;rw [List.isSuffixOf_iff_suffix];exact ⟨_,rfl⟩
 have p4:Lib.trimSuffix ((xg a b++ [32,43]++xg c d)++ [32,64,64]) [32,64,64]=xg a b++ [32,43]++xg c d:=by
  unfold Lib.trimSuffix;rw [if_pos p3,List.take_left' (by simp only [List.length_append];omega)]
 have p5:xB (yv a b c d)=(xg a b,xg c d,true):=by
  unfold xB
  rw [p2,p4]
  exact UK (sep:= [32,43]) rfl (Fl (by decide))
 unfold zI
 rw [p5,p2,p3,p1,Kf h1 h2,Kf h3 h4]
 rfl
theorem Xb {a b c d:Nat} (h1:a<=100000) (h2:b<=100000) (h3:c<=100000) (h4:d<=100000):(yv a b c d).length<=35:=by
 have:=Xt h1 h2;have:=Xt h3 h4;simp [yv];omega
end Go.Proofs.YtcclgodahlinbaaGreatDoor
