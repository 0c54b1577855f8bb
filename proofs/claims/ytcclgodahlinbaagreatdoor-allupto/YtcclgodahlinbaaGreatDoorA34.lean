import Derived.Test.YtcclgodahlinbaaGreatDoorA33
import Derived.Deep.DeepCutAuto
namespace Go.Proofs.YtcclgodahlinbaaGreatDoor
set_option maxHeartbeats 16000000
open Tryz Go.RowKit Go
set_option maxRecDepth 100000
theorem Fv {H:zx} (h1:H.fc=0) (h2:H.tc=0):zV H=H:=by cases H;simp_all [zV]
def yu (a b:ByteArray) (c:Int):List zx:=if checkB a b c=0 then diffM a b c.toNat else []
abbrev Yh:Obj:= .cells #[.slice none 0 0] 32 (0,0)
theorem kO {a b:ByteArray} {c:Int} {w:World} (h1:a.size<=4000000000) (h2:b.size<=4000000000):
 Calls prog 20 #[.string a,.string b,.int .i64 c] w fun e w'=> ∃al cl,e= .returned (.tuple #[.agg #[.slice al (yu a b c).length cl],.int .i64 (checkB a b c)])/\Yc w.heap.size w' (.slice al (yu a b c).length cl) (yu a b c)/\Below w.heap.size w w':=by
 obtain ⟨j0,ji,jz0,jz1,jz2⟩:=info_parts yJ
 obtain ⟨i0,hinf,ix0,ix1,ix2⟩:=info_parts qk
 obtain ⟨W0,hW0⟩: ∃W0,w.alloc (.cells #[.slice none 0 0] 32)=W0:=⟨_,rfl⟩
 have hP0:W0.heap[w.heap.size]? =some Yh:=by rw [<-hW0];exact heap_alloc_new w _
 have hz0:W0.heap.size=w.heap.size+1:=by rw [<-hW0];simp
 have hb0:Below w.heap.size w W0:=by rw [<-hW0];exact (Below.refl _ _).alloc (Nat.le_refl _) _
 have hbad:Hid (∀(k:Int) (W:World),checkB a b c=k->k≠0->W.heap[w.heap.size]? =some Yh->Below w.heap.size w W-> ∀e,e=Ending.returned (.tuple #[.agg #[.slice none 0 0],.int .i64 k])->
  (∃al cl,e= .returned (.tuple #[.agg #[.slice al (yu a b c).length cl],.int .i64 (checkB a b c)])/\Yc w.heap.size (W.setCell ⟨w.heap.size,0,none⟩ (.slice none 0 0)) (.slice al (yu a b c).length cl) (yu a b c)/\Below w.heap.size w (W.setCell ⟨w.heap.size,0,none⟩ (.slice none 0 0)))):=by
  intro k W hk hk0 hP hb e he
  have hD:yu a b c= []:=by unfold yu;rw [if_neg (by rw [hk];exact hk0)]
  rw [hD,hk]
  exact ⟨none,0,he,⟨[],.inl ⟨rfl,rfl⟩,rfl⟩,hb.setCell (p:=⟨w.heap.size,0,none⟩) (Nat.le_refl _) _⟩
 go_enter func20,ntmps20
 go_wp2_with fail
 clear hW0
 refine (xM a W0 h1).mono ?_
 rintro e W1 ⟨a1,c1,rfl,o1,b1⟩
 have z1:=b1.size
 go_wp2_with fail
 refine (xM b W1 h2).mono ?_
 rintro e W2 ⟨a2,c2,rfl,o2,b2⟩
 have z2:=b2.size
 have hbW2:=hb0.trans ((b1.mono (by omega)).trans (b2.mono (by omega)))
 have hP2:W2.heap[w.heap.size]? =some Yh:=(b2.block w.heap.size (by omega)).trans ((b1.block w.heap.size (by omega)).trans hP0)
 have s1:=qa.of_owns (zR o1 b2 (fun k e=>(o1.lt k e).2))
 have s2:=qa.of_owns o2
 have q0:W2.cell? ⟨w.heap.size,0,none⟩=some (.slice none 0 0):=za hP2 rfl
 have qf: ∀k,W2.frozen? ⟨w.heap.size,k,none⟩=false:=fun k=>zi hP2
 have qr:(W2.setCell ⟨w.heap.size,0,none⟩ (.slice none 0 0)).cell? ⟨w.heap.size,0,none⟩=some (.slice none 0 0):=za (zb _ _ _ _ _ _ _ hP2) rfl
 have hz20:w.heap.size<W2.heap.size:=by omega
 have hT1:Hid (xX a=yd a/\xX b=yd b):=⟨jM a,jM b⟩
 clear o1 o2 b1 b2 hb0 hP0 z1 z2
 by_cases t1:xX a=true
 ·by_cases t2:xX b=true
  ·have i1:Hid (yd a=true/\yd b=true):=⟨by rw [<-hT1.out.1];exact t1,by rw [<-hT1.out.2];exact t2⟩
   have r1:Hid (qy a=linesB a/\qy b=linesB b):=⟨jl t1,jl t2⟩
   rw [t1,t2]
   clear hT1 t1 t2
   go_wp2_with fail
   refine (Zn a W2 h1).mono ?_
   rintro e W3 ⟨rfl,b3⟩
   have z3:=b3.size
   go_wp2_with fail
   refine (Zn b W3 h2).mono ?_
   rintro e W4 ⟨rfl,b4⟩
   have z4:=b4.size
   have hb24:=b3.trans (b4.mono z3)
   have hbW4:=hbW2.trans (hb24.mono (by omega))
   have hP4:W4.heap[w.heap.size]? =some Yh:=(hb24.block w.heap.size (by omega)).trans hP2
   have s1':=(s1.below hb24).mono hb24.size
   have s2':=(s2.below hb24).mono hb24.size
   have hz40:w.heap.size<W4.heap.size:=by omega
   clear q0 qf qr s1 s2 b3 b4 hb24 hbW2 hP2 z3 z4
   have q0:W4.cell? ⟨w.heap.size,0,none⟩=some (.slice none 0 0):=za hP4 rfl
   have qf: ∀k,W4.frozen? ⟨w.heap.size,k,none⟩=false:=fun k=>zi hP4
   have qr:(W4.setCell ⟨w.heap.size,0,none⟩ (.slice none 0 0)).cell? ⟨w.heap.size,0,none⟩=some (.slice none 0 0):=za (zb _ _ _ _ _ _ _ hP4) rfl
   cases g1:yb a with
   | true=>
     have hck:Hid (checkB a b c=1):=by
      show _=_
      unfold checkB
      rw [if_neg (by rw [i1.out.1,i1.out.2];simp),if_pos (.inl g1)]
     clear g1
     go_wp2_with fail
     refine bodyPost_ret (v:= .tuple #[.agg #[.slice none 0 0],.int .i64 1]) ?_ rfl (hbad.out 1 W4 hck.out (by decide) hP4 hbW4 _ rfl)
     simp [results,results20,go_sem,qr]
   | false=>
   cases g2:yb b with
   | true=>
     have hck:Hid (checkB a b c=1):=by
      show _=_
      unfold checkB
      rw [if_neg (by rw [i1.out.1,i1.out.2];simp),if_pos (.inr g2)]
     clear g1 g2
     go_wp2_with fail
     refine bodyPost_ret (v:= .tuple #[.agg #[.slice none 0 0],.int .i64 1]) ?_ rfl (hbad.out 1 W4 hck.out (by decide) hP4 hbW4 _ rfl)
     simp [results,results20,go_sem,qr]
   | false=>
   by_cases hc0:c<0
   ·have hck:Hid (checkB a b c=3):=by
     show _=_
     unfold checkB
     rw [if_neg (by rw [i1.out.1,i1.out.2];simp),if_neg (by rw [g1,g2];simp),if_pos (.inl hc0)]
    clear g1 g2
    go_wp2_with fail
    refine bodyPost_ret (v:= .tuple #[.agg #[.slice none 0 0],.int .i64 3]) ?_ rfl (hbad.out 3 W4 hck.out (by decide) hP4 hbW4 _ rfl)
    simp [results,results20,go_sem,qr]
   by_cases hc1:10<c
   ·have hck:Hid (checkB a b c=3):=by
     show _=_
     unfold checkB
     rw [if_neg (by rw [i1.out.1,i1.out.2];simp),if_neg (by rw [g1,g2];simp),if_pos (.inr hc1)]
    clear g1 g2
    go_wp2_with fail
    refine bodyPost_ret (v:= .tuple #[.agg #[.slice none 0 0],.int .i64 3]) ?_ rfl (hbad.out 3 W4 hck.out (by decide) hP4 hbW4 _ rfl)
    simp [results,results20,go_sem,qr]
   obtain ⟨C,rfl⟩: ∃C:Nat,c=(C:Int):=⟨c.toNat,by omega⟩
   have hck:Hid (checkB a b (C:Int)=0):=by
    show _=_
    unfold checkB
    rw [if_neg (by rw [i1.out.1,i1.out.2];simp),if_neg (by rw [g1,g2];simp),if_neg (by omega)]
   have hC:C<=10:=by omega
   have hC0:(0:Int)<=(C:Int):=by omega
   have n1:=yz g1
   have n2:=yz g2
   have hD:Hid (yu a b (C:Int)=jj (Dn.WT (linesB a) (linesB b)) C):=by
    show _=_
    unfold yu
    rw [if_pos hck.out]
    rfl
   rw [r1.out.1] at s1' ⊢
   rw [r1.out.2] at s2' ⊢
   have hwl:(Dn.WT (linesB a) (linesB b)).length<=402:=by have:=kq (linesB a) (linesB b);omega
   have hwk:Hid (∀s∈Dn.WT (linesB a) (linesB b),s.kind=32\/s.kind=45\/s.kind=43):=(Dn.Sb _ _).2.2
   go_wp2_with fail
   refine (GU s1' s2' (by omega) (by omega)).mono ?_
   rintro e W5 ⟨aw,cw,rfl,ow,b5⟩
   have z5:=b5.size
   have hS:=zJ.of_ownsT ow
   have hbW5:=hbW4.trans (b5.mono (by omega))
   have hP5:W5.heap[w.heap.size]? =some Yh:=(b5.block w.heap.size (by omega)).trans hP4
   have hz50:w.heap.size<W5.heap.size:=by omega
   clear g1 g2 i1 r1 hbad s1' s2' q0 qf qr ow b5 hbW4 hP4 z5 hc0 hc1
   generalize Dn.WT (linesB a) (linesB b)=L at *
   have hmk:=Uu L.length (by omega)
   have hob:=FE L.length (by omega) W5
   have hb6:=(Below.refl W5.heap.size W5).alloc (Nat.le_refl _) (.cells (madeCells #[.bool false] L.length) 4)
   have hn0:Hid (Near L C 0 (List.replicate L.length false)):=⟨by simp,fun j hj=>by simp [XD,List.getD,hj]⟩
   go_wp2_with fail
   go_loopg [16,17] L.length (fun g t tk wr=> ∃(i:Nat) (bs:List Bool),g=L.length-i/\i<=L.length/\t= .int .i64 i/\Hid (Near L C i bs)/\wr.ownsRow W5.heap.size 4 1 (.slice (some ⟨W5.heap.size,0,none⟩) L.length L.length) L.length (zY bs)/\Below W5.heap.size W5 wr)
   case atStart=>exact ⟨0,_,by omega,by omega,rfl,hn0,hob,hb6⟩
   case round=>
    obtain ⟨i,bs,hgi,hil,rfl,hnear,hrow,hbel⟩:=hrel
    have hG:Hid (gk=L.length-i):=hgi
    clear hgi hob hb6 hn0 hmk
    by_cases hi:i<L.length
    ·have hiI:(i:Int)<L.length:=by omega
     obtain ⟨bw,rfl,hbw,r0,_⟩:=hS.at hi
     have hr0:Hid (∀W,Below W5.heap.size W5 W->W.cell? ⟨bw,i*2,none⟩=some (.int .u8 (L[i].kind:Nat))):=fun W hb=>(hb.cell (p:=⟨bw,i*2,none⟩) hbw).trans r0
     clear r0
     have hend:Hid (∀k bs',qB L C i k bs'->L[i].kind≠32->(i+C<k\/L.length<=k)->k<=i+C+1->Near L C (i+1) bs'):=fun k bs' h1 h0 h2 h3=>Kl h1 hi h0 h2 h3
     have hkeep:Hid (∀bs',Near L C i bs'->L[i].kind=32->Near L C (i+1) bs'):=fun bs' h1 h0=>Ko h1 hi h0
     have hst:Hid (L[i].kind≠32->qB L C i ((i:Int)-C).toNat bs):=fun _=>by
      have:=XS hnear.out
      rw [show ((i:Int)-C).toNat=i-C by omega]
      exact this
     generalize L[i].kind=K at *
     go_wp2_with fail
     go_loopg [17] (2*C+1) (fun g t wi=> ∃(kz:Int) (bs':List Bool),kz+g=i+C+1/\(i:Int)-C<=kz/\t= .int .i64 kz/\Hid ((K=32->Near L C i bs')/\(K≠32->qB L C i kz.toNat bs'))/\wi.ownsRow W5.heap.size 4 1 (.slice (some ⟨W5.heap.size,0,none⟩) L.length L.length) L.length (zY bs')/\Below W5.heap.size W5 wi)
     case atStart=>exact ⟨(i:Int)-C,bs,by push_cast;omega,by omega,rfl,⟨fun _=>hnear.out,hst.out⟩,hrow,hbel⟩
     case round=>
      rename World=>wi
      obtain ⟨kz,bs',hgk,hk1,rfl,hN,hrow2,hbel2⟩:=hrel
      have hGk:Hid (kz+_=i+C+1):=hgk
      clear hrow hbel hst hgk
      have r0:=hr0.out wi hbel2
      have hfz:=qK hrow2
      have hkz: -10<=kz/\kz<=2000:=by have:=hGk.out;omega
      by_cases hkI:kz<=(i:Int)+C
      ·by_cases hK:K=32
       ·have r0':wi.cell? ⟨bw,i*2,none⟩=some (.int .u8 32):=by rw [r0,hK];rfl
        clear r0
        go_wp2_with fail
        go_roundg (gk-1)
        ·exact ⟨kz+1,bs',by have:=hGk.out;omega,by omega,rfl,⟨hN.out.1,fun h=>absurd hK h⟩,hrow2,hbel2⟩
        ·have:=hGk.out;omega
       ·have hne:(((K:Nat):Int)==32)=false:=by rw [beq_eq_false_iff_ne];omega
        by_cases h0:0<=kz
        ·obtain ⟨kn,rfl⟩: ∃kn:Nat,kz=(kn:Int):=⟨kz.toNat,by omega⟩
         have hN2:qB L C i kn bs':=hN.out.2 hK
         by_cases h1:kn<L.length
         ·have h1I:(kn:Int)<L.length:=by omega
          have hlb:bs'.length=L.length:=hN2.1
          have hcell:=jJ hrow2 (i:=kn) (by omega)
          have hN3:Hid (qB L C i (kn+1) (bs'.set kn true)):=QU hN2 h1 (by omega)
          have hr3:=Yy hrow2 kn true
          have hb3:=hbel2.setCell (p:=⟨W5.heap.size,kn,none⟩) (Nat.le_refl _) (.bool true)
          generalize bs'.getD kn false=bb at hcell
          clear hlb hN2
          go_wp2_with fail
          go_roundg (gk-1)
          ·exact ⟨(kn:Int)+1,bs'.set kn true,by have:=hGk.out;omega,by omega,rfl,⟨fun h=>absurd h hK,fun _=>by rw [show ((kn:Int)+1).toNat=kn+1 by omega];exact hN3.out⟩,hr3,hb3⟩
          ·have:=hGk.out;omega
         ·have h1I: ¬((kn:Int)<L.length):=by omega
          have hN3:Hid (qB L C i (kn+1) bs'):=Gq hN2 (by omega)
          clear hN2
          go_wp2_with fail
          go_roundg (gk-1)
          ·exact ⟨(kn:Int)+1,bs',by have:=hGk.out;omega,by omega,rfl,⟨fun h=>absurd h hK,fun _=>by rw [show ((kn:Int)+1).toNat=kn+1 by omega];exact hN3.out⟩,hrow2,hbel2⟩
          ·have:=hGk.out;omega
        ·go_wp2_with fail
         go_roundg (gk-1)
         ·exact ⟨kz+1,bs',by have:=hGk.out;omega,by omega,rfl,⟨fun h=>absurd h hK,fun _=>by have:=hN.out.2 hK;rw [show (kz+1).toNat=kz.toNat by omega];exact this⟩,hrow2,hbel2⟩
         ·have:=hGk.out;omega
      ·have hF:Hid (Near L C (i+1) bs'):=by
        by_cases hK:K=32
        ·exact hkeep.out bs' (hN.out.1 hK) hK
        ·have:=hGk.out
         exact hend.out kz.toNat bs' (hN.out.2 hK) hK (.inl (by omega)) (by omega)
       go_wp2_with fail
       go_roundg (L.length-(i+1))
       ·exact ⟨i+1,bs',rfl,by omega,by push_cast;rfl,hF,hrow2,hbel2⟩
       ·have:=hG.out;omega
    ·obtain rfl:i=L.length:=by omega
     have hNB:Hid (bs=kU L C):=Ww hnear.out
     have hlb:bs.length=L.length:=hnear.out.1
     have hiI: ¬((L.length:Int)<L.length):=by omega
     have hDD:Hid (yu a b (C:Int)=(foldH L bs L.length).hs.map zV):=by show _=_;rw [hD.out,hNB.out];rfl
     have hzr:=hbel.size
     have hzr2:W5.heap.size<wr.heap.size:=(hrow.lt _ rfl).2
     have hP6:wr.heap[w.heap.size]? =some Yh:=(hbel.block w.heap.size (by omega)).trans hP5
     have hbW6:=hbW5.trans (hbel.mono (by omega))
     have hS6:=hS.below hbel
     have hbo:Hid (∀W,Below wr.heap.size wr W-> ∀k,k<L.length->W.cell? ⟨W5.heap.size,k,none⟩=some (.bool (bs.getD k false))):=fun W hb k hk=>(hb.cell (p:=⟨W5.heap.size,k,none⟩) hzr2).trans (jJ hrow (by omega))
     have hsteps:Hid (∀W,Below wr.heap.size wr W->zJ W5.heap.size W (.slice aw L.length cw) L):=fun W hb=>hS6.below (hb.mono (by omega))
     have hPn:=heap_alloc_new wr (.cells #[.slice none 0 0] 32)
     have hPz:(wr.alloc (.cells #[.slice none 0 0] 32)).heap.size=wr.heap.size+1:=by simp
     have hPb:=(Below.refl wr.heap.size wr).alloc (Nat.le_refl _) (.cells #[.slice none 0 0] 32)
     have x0:(wr.alloc (.cells #[.slice none 0 0] 32)).cell? ⟨wr.heap.size,0,none⟩=some (.slice none 0 0):=za hPn rfl
     have xf: ∀k,(wr.alloc (.cells #[.slice none 0 0] 32)).frozen? ⟨wr.heap.size,k,none⟩=false:=fun k=>zi hPn
     clear hNB hrow hbel hnear hS hS6 hbW5 hP5 hD
     go_wp2_with fail
     have hPz':Hid ((wr.alloc (.cells #[.slice none 0 0] 32)).heap.size=wr.heap.size+1):=hPz
     generalize hPBe:wr.heap.size=PB at *
     generalize hw7:wr.alloc (.cells #[.slice none 0 0] 32)=w8 at *
     have hPB:Hid (wr.heap.size=PB):=hPBe
     clear hPBe hw7 hPz x0 xf
     go_loopg [19,20,21] L.length (fun g t19 t20 t21 wk=> ∃(k:Nat) (v:Value) (hv:List HV),g=L.length-k/\k<=L.length/\t21= .int .i64 k/\t19= .int .i64 (foldH L bs k).og/\t20= .int .i64 (foldH L bs k).fg/\HSo (PB+1) v hv wk/\Hid (hv.map (·.1)=(foldH L bs k).hs)/\wk.heap[PB]? =some (.cells #[v] 32 (0,0))/\Below PB wr wk)
     case atStart=>exact ⟨0,_,[],by omega,by omega,rfl,rfl,rfl,.inl ⟨rfl,rfl⟩,rfl,hPn,hPb⟩
     case round=>
      rename World=>wk
      obtain ⟨k,v,hv,hgk,hkl,rfl,rfl,rfl,hso,hmap,hQ,hbk⟩:=hrel
      have hG2:Hid (_=L.length-k):=hgk
      clear hgk hPn hPb
      obtain ⟨q1,q2,q3,q4,q5⟩:=qY L bs k
      have hvlen:Hid (hv.length=(foldH L bs k).hs.length):=by show _=_;rw [<-hmap.out,List.length_map]
      have hvl':hv.length<=1000:=by have:=hvlen.out;omega
      have hkz:=hbk.size
      by_cases hlt:k<L.length
      ·have hltI:(k:Int)<L.length:=by omega
       obtain ⟨bw,rfl,hbw,_,_⟩:=(hsteps.out wr (Below.refl _ _)).at hlt
       have hxs:Hid (∀W,Below PB wr W->W.cell? ⟨bw,k*2,none⟩=some (.int .u8 (L[k].kind:Nat))/\W.cell? ⟨bw,k*2+1,none⟩=some (.string L[k].text)):=fun W hb=>by
        obtain ⟨b',e,_,h0,h1⟩:=(hsteps.out W hb).at hlt
        cases e
        exact ⟨h0,h1⟩
       have hkk:=hwk.out _ (List.getElem_mem hlt)
       have hfold:Hid (foldH L bs (k+1)=_):=kw (nb:=bs) hlt
       obtain ⟨s,hs⟩: ∃s,L[k]=s:=⟨_,rfl⟩
       rw [hs] at hxs hkk hfold
       clear hs
       have hone: ∀u∈ [Value.int .u8 (s.kind:Int),Value.string s.text],u.oneCell'=true:=by intro u hu;simp at hu;rcases hu with rfl | rfl<;>rfl
       have hbwP:bw<PB:=by omega
       have hog:Hid ((foldH L bs (k+1)).og=(foldH L bs k).og+(if s.kind=43 then 0 else 1)/\(foldH L bs (k+1)).fg=(foldH L bs k).fg+(if s.kind=45 then 0 else 1)):=by
        show _/\_
        rw [hfold.out];exact ⟨rfl,rfl⟩
       have hhs:Hid ((foldH L bs (k+1)).hs=xQ (bs.getD k false) (decide (0<k) && bs.getD (k-1) false) s (foldH L bs k)):=by
        show _=_
        rw [hfold.out]
       clear hfold
       have hnbc:=hbo.out wk hbk k hlt
       obtain ⟨nb,hnb⟩: ∃nb,bs.getD k false=nb:=⟨_,rfl⟩
       have hnbH:Hid (bs.getD k false=nb):=hnb
       rw [hnb] at hnbc hhs
       obtain ⟨pb,hpb⟩: ∃pb,(decide (0<k) && bs.getD (k-1) false)=pb:=⟨_,rfl⟩
       rw [hpb] at hhs
       have hpc:Hid (k≠0->wk.cell? ⟨W5.heap.size,((k:Int)-1).toNat,none⟩=some (.bool pb)):=by
        intro h0
        have h1:decide (0<k)=true:=by simp;omega
        rw [show ((k:Int)-1).toNat=k-1 by omega,hbo.out wk hbk (k-1) (by omega),<-hpb,h1,Bool.true_and]
       have hpb0:Hid (k=0->pb=false):=by intro h0;rw [<-hpb,h0];rfl
       have hq5:Hid (pb=true->(foldH L bs k).hs≠ []):=by
        intro h1
        rw [<-hpb] at h1
        simp at h1
        exact q5 h1.1 hkl (by simpa using h1.2)
       have hq4:Hid (∀h∈(foldH L bs k).hs,h.fc<=1000/\h.tc<=1000/\h.lines.length<=1000):=fun h hh=>by have:=q4 h hh;omega
       obtain ⟨og,hogE⟩: ∃og,(foldH L bs k).og=og:=⟨_,rfl⟩
       obtain ⟨fg,hfgE⟩: ∃fg,(foldH L bs k).fg=fg:=⟨_,rfl⟩
       have hogH:Hid ((foldH L bs k).og=og/\(foldH L bs k).fg=fg):=⟨hogE,hfgE⟩
       rw [hogE] at q1 ⊢
       rw [hfgE] at q2 ⊢
       clear hnb hpb hogE hfgE q4 q5
       go_upto_region 27 with fail
       go_cut [121] (fun s121 wx=>s121= .bool (nb && !pb)/\wk=wx)
       case first=>
        cases nb with
        | false=>
          go_wp2_with fail
          go_meet
          case rel=>exact ⟨rfl,rfl⟩
        | true=>
          by_cases hk0:k=0
          ·have hp0:=hpb0.out hk0
           subst hk0
           subst hp0
           go_wp2_with fail
           go_meet
           case rel=>exact ⟨rfl,rfl⟩
          ·have hk0I:(((k:Nat):Int)==0)=false:=by simp;omega
           have hpc':=hpc.out hk0
           have hpc2:=hpc'
           rw [show ((k:Int)-1).toNat=k-1 by omega] at hpc2
           cases pb with
           | false=>
             go_wp2_with fail
             go_meet
             case rel=>exact ⟨rfl,rfl⟩
           | true=>
             go_wp2_with fail
             go_meet
             case rel=>exact ⟨rfl,rfl⟩
       case rest=>
        obtain ⟨rfl,rfl⟩:=hcut
        clear hpc hnbc
        go_upto_if 121 with fail
        go_cut [] (fun wx=> ∃(v2:Value) (hv2:List HV),HSo (PB+1) v2 hv2 wx/\Hid (hv2.map (·.1)=if (nb && !pb)=true then (foldH L bs k).hs++ [yp og fg] else (foldH L bs k).hs)/\wx.heap[PB]? =some (.cells #[v2] 32 (0,0))/\Below PB wr wx)
        case first=>
         cases hN:(nb && !pb) with
         | false=>
           go_wp2_with fail
           go_meet
           case rel=>exact ⟨v,hv,hso,by show _=_;rw [hmap.out,hN];simp,hQ,hbk⟩
         | true=>
           have hone5: ∀u∈ [Value.int .i64 (og:Int),.int .i64 0,.int .i64 (fg:Int),.int .i64 0,.slice none 0 0],u.oneCell'=true:=by intro u hu;simp at hu;rcases hu with rfl | rfl | rfl | rfl | rfl<;>rfl
           have hm1:hv.length+1<=maxLen:=by unfold maxLen;omega
           have hm2:(hv.length+1)*56<=140737488355328:=by omega
           have hPk:PB<wk.heap.size:=(Array.getElem?_eq_some_iff.1 hQ).1
           have hbs: ∀ob,PB+1<=(wk.alloc ob).heap.size:=by intro ob;simp;omega
           have hown:=hso.owns
           have pk:wk.cell? ⟨PB,0,none⟩=some v:=za hQ rfl
           have hpushed:Hid (∀(ob:Obj) (w2:World) (g' cap':Nat),(wk.alloc ob).grownBy w2 v.ownBlock->w2.ownsRow (PB+1) 61 5 (.slice (some ⟨g',0,none⟩) (hv.length+1) cap') (hv.length+1) (hunkCells hv++ [.int .i64 (og:Int),.int .i64 0,.int .i64 (fg:Int),.int .i64 0,.slice none 0 0])->PB+1<=g'->
            w2.heap[PB]? =some (.cells #[v] 32 (0,0))/\ ∃(v2:Value) (hv2:List HV),HSo (PB+1) v2 hv2 (w2.setCell ⟨PB,0,none⟩ (.slice (some ⟨g',0,none⟩) (hv.length+1) cap'))/\Hid (hv2.map (·.1)=if (nb && !pb)=true then (foldH L bs k).hs++ [yp og fg] else (foldH L bs k).hs)/\(w2.setCell ⟨PB,0,none⟩ (.slice (some ⟨g',0,none⟩) (hv.length+1) cap')).heap[PB]? =some (.cells #[v2] 32 (0,0))/\Below PB wr (w2.setCell ⟨PB,0,none⟩ (.slice (some ⟨g',0,none⟩) (hv.length+1) cap'))):=by
            intro ob w2 g' cap' h2 h1 h3
            have hp:=hso.push (yp og fg) rfl h2 h1
            have hx:w2.heap[PB]? =some (.cells #[v] 32 (0,0)):=by
             rw [h2.block PB (by simp;omega) (fun e=>by have:=(hown.lt PB e.symm).1;omega)]
             exact (Below.heap_alloc wk ob PB hPk).trans hQ
            have hso2:HSo (PB+1) (.slice (some ⟨g',0,none⟩) (hv.length+1) cap') (hv++ [(yp og fg,.slice none 0 0)]) w2:= .inr ⟨g',cap',by simp,h3,hp⟩
            have hb2:Below PB wr w2:=(hbk.alloc (by omega) ob).grown h2 (by simp;omega) (fun j e=>by have:=(hown.lt j e).1;omega)
            refine ⟨hx,_,_,hso2.kept (row:=some PB) (zc _ _ _ _) (fun k e=> .inr ?_),?_,?_,hb2.setCell (p:=⟨PB,0,none⟩) (Nat.le_refl _) _⟩
            ·cases e
             exact ⟨_,_,_,hx,by decide,by decide⟩
            ·show _=_
             rw [if_pos hN,List.map_append,hmap.out]
             rfl
            ·rw [zb _ _ _ _ _ _ _ hx]
             rfl
           go_wp2_with (at_builtin;refine zm rfl (.tmp 123) (.tmp 127) 30 rfl (PB+1) 61 i0 _ 5 56 underlying30 hinf ix0 ix1 ix2 rfl (by decide) v hv.length (hunkCells hv) rfl (hown.alloc _) ⟨wk.heap.size,0,none⟩ 1 1 [.int .i64 (og:Int),.int .i64 0,.int .i64 (fg:Int),.int .i64 0,.slice none 0 0] rfl rfl (zt wk _ _) hone5 hm1 hm2 (hbs _) ?_;intro v' w2 hown' hgrow _;obtain ⟨g',cap',rfl,hg',_⟩:=zv hown' (Nat.succ_pos _);obtain ⟨hx2,hR⟩:=hpushed.out _ w2 g' cap' hgrow hown' hg';have p2:w2.cell? ⟨PB,0,none⟩=some v:=za hx2 rfl;have pf2: ∀k,w2.frozen? ⟨PB,k,none⟩=false:=fun k=>zi hx2;clear hx2 hown' hgrow hg')
           go_meet
           case rel=>exact hR
        case rest=>
         obtain ⟨v2,hv2,hso2,hmap2,hQ2,hb2⟩:=hcut
         obtain ⟨U,rfl⟩: ∃U,U=wc:=⟨_,rfl⟩
         have hvl2:Hid (hv2.length=(if (nb && !pb)=true then (foldH L bs k).hs++ [yp og fg] else (foldH L bs k).hs).length):=by show _=_;rw [<-hmap2.out,List.length_map]
         clear hso hmap hQ hbk hvlen hvl' hkz
         have nbU:=(hbo.out U hb2 k hlt).trans (by rw [hnbH.out])
         have hUz:=hb2.size
         go_upto_if 133 with fail
         go_cut [] (fun wx=> ∃(v3:Value) (hv3:List HV),HSo (PB+1) v3 hv3 wx/\Hid (hv3.map (·.1)=(foldH L bs (k+1)).hs)/\wx.heap[PB]? =some (.cells #[v3] 32 (0,0))/\Below PB wr wx)
         case first=>
          cases nb with
          | false=>
            go_wp2_with fail
            go_meet
            case rel=>exact ⟨v2,hv2,hso2,by show _=_;rw [hmap2.out,hhs.out];simp [xQ],hQ2,hb2⟩
          | true=>
            have hstep0:Hid ((foldH L bs (k+1)).hs=qp (hv2.map (·.1)) s):=by
             show _=_
             rw [hhs.out,hmap2.out,<-hogH.out.1,<-hogH.out.2]
             cases pb<;>rfl
            have hne:hv2≠ []:=fun e=>by
             have h1:=hmap2.out
             rw [e] at h1
             cases pb with
             | true=>exact hq5.out rfl (by simpa using h1.symm)
             | false=>simp at h1
            have hbd2:Hid (∀h∈hv2.map (·.1),h.fc<=1000/\h.tc<=1000/\h.lines.length<=1000):=by
             intro h hh
             rw [hmap2.out] at hh
             cases pb with
             | true=>exact hq4.out h (by simpa using hh)
             | false=>
               simp only [Bool.not_false,Bool.and_self,if_true] at hh
               rcases List.mem_append.1 hh with h1 | h1
               ·exact hq4.out h h1
               ·rw [List.mem_singleton] at h1;subst h1;exact ⟨Nat.zero_le _,Nat.zero_le _,Nat.zero_le _⟩
            have hvl':hv2.length<=1001:=by
             have h1:=hvl2.out
             cases pb with
             | true=>simp at h1;omega
             | false=>simp at h1;omega
            obtain ⟨init,h,vl,rfl⟩: ∃init h vl,hv2=init++ [(h,vl)]:=⟨hv2.dropLast,(hv2.getLast hne).1,(hv2.getLast hne).2,(List.dropLast_concat_getLast hne).symm⟩
            rcases hso2 with ⟨e,_⟩ | ⟨g,cap,rfl,hgb,hsv⟩
            ·simp at e
            rw [show (init++ [(h,vl)]).length=init.length+1 by simp] at hsv hvl'
            rw [show (init++ [(h,vl)]).length=init.length+1 by simp] at hQ2
            have hbd:=hbd2.out h (by simp)
            have hstep:Hid (init.map (·.1)++ [xp h s]=(foldH L bs (k+1)).hs):=by
             show _=_
             rw [hstep0.out]
             simp [xG]
            have hbU:=hb2
            have hU:=hQ2
            clear hb2 hQ2 hmap2 hbd2 hne
            have hvl:=hsv.lines (h,vl) (by simp)
            have hvlW:Hid _:=hvl
            obtain ⟨cur,hcur⟩:=ze hsv.row (g:=g) rfl
            have hgw:g<U.heap.size:=(Array.getElem?_eq_some_iff.1 hcur).1
            have hge:vl.ownBlock≠some g:=zT hvl hcur (by decide)
            obtain ⟨d0,d1,d2,d3,d4⟩:=xN hsv.row (i:=init.length) (by simp)
            simp only [qt] at d0 d1 d2 d3 d4
            have dfz: ∀k,U.frozen? ⟨g,k,none⟩=false:=fun k=>zi hcur
            obtain ⟨x0,x1⟩:=hxs.out U hbU
            have pU:U.cell? ⟨PB,0,none⟩=some (.slice (some ⟨g,0,none⟩) (init.length+1) cap):=za hU rfl
            have hPU:PB<U.heap.size:=(Array.getElem?_eq_some_iff.1 hU).1
            have hY:Hid (∀ob w2,(U.drew.alloc ob).grownBy w2 vl.ownBlock->w2.heap[g]? =U.heap[g]? /\w2.heap[bw]? =U.heap[bw]? /\w2.heap[PB]? =U.heap[PB]? /\(∀k,k<U.heap.size->some k≠vl.ownBlock->w2.heap[k]? =U.heap[k]?)/\Below (PB+1) U w2/\U.heap.size<=w2.heap.size):=by
             intro ob w2 hg
             have hk1: ∀k,k<U.heap.size->some k≠vl.ownBlock->w2.heap[k]? =U.heap[k]? :=by
              intro k hk hne
              rw [hg.block k (by simp;omega) hne,Below.heap_alloc U.drew ob k (by simp;omega)]
              rfl
             refine ⟨hk1 g hgw (fun e=>hge e.symm),hk1 bw (by omega) (fun e=>by have:=(hvl.lt bw e.symm).1;omega),hk1 PB hPU (fun e=>by have:=(hvl.lt PB e.symm).1;omega),hk1,?_,?_⟩
             ·exact (((Below.refl (PB+1) U).drew).alloc (by simp;omega) ob).grown hg (by simp;omega) (fun k e=>(hvl.lt k e).1)
             ·have:=hg.size;simp at this;omega
            have hm1:h.lines.length+1<=maxLen:=by unfold maxLen;omega
            have hm2:(h.lines.length+1)*24<=140737488355328:=by omega
            have hbs: ∀ob,PB+1<=(U.drew.alloc ob).heap.size:=by intro ob;simp;omega
            have hwv:IntKind.i64.wrap (init.length:Int)=init.length:=by rw [IntKind.wrap_i64];omega
            have hix:(init.length:Int)<((init.length+1:Nat):Int):=by omega
            have hix2:(init.length:Int)<(init.length:Int)+1:=by omega
            obtain ⟨O,hO⟩: ∃O,init.length*5=O:=⟨_,rfl⟩
            rw [hO] at d0 d1 d2 d3 d4
            have hOH:Hid (init.length*5=O):=hO
            clear hvl' hvl2
            have hgbw: ¬g=bw:=by omega
            have hgbw': ¬bw=g:=by omega
            have hgPB: ¬PB=g:=by omega
            have hend:Hid (∀(w2 W:World) (g' cap':Nat),w2.heap[PB]? =U.heap[PB]? ->Below (PB+1) U w2->HSv (PB+1) g (init.length+1) cap (init++ [(xp h s,.slice (some ⟨g',0,none⟩) (h.lines.length+1) cap')]) W->W.heap[PB]? =w2.heap[PB]? ->Below PB w2 W->
                HSo (PB+1) (.slice (some ⟨g,0,none⟩) (init.length+1) cap) (init++ [(xp h s,.slice (some ⟨g',0,none⟩) (h.lines.length+1) cap')]) W/\Hid (List.map (fun p:HV=>p.1) (init++ [(xp h s,.slice (some ⟨g',0,none⟩) (h.lines.length+1) cap')])=(foldH L bs (k+1)).hs)/\W.heap[PB]? =some (.cells #[.slice (some ⟨g,0,none⟩) (init.length+1) cap] 32 (0,0))/\Below PB wr W):=by
             intro w2 W g' cap' p1 p2 p3 p4 p5
             exact ⟨.inr ⟨g,cap,by simp,hgb,by simpa using p3⟩,by show _=_;rw [<-hstep.out];simp,p4.trans (p1.trans hU),hbU.trans ((p2.mono (Nat.le_succ PB)).trans p5)⟩
            have hfin:Hid (∀(w2:World) (g' cap':Nat),w2.ownsRow (PB+1) 93 2 (.slice (some ⟨g',0,none⟩) (h.lines.length+1) cap') (h.lines.length+1) (zg h.lines++ [.int .u8 (s.kind:Nat),.string s.text])->(∀k,k<U.heap.size->some k≠vl.ownBlock->w2.heap[k]? =U.heap[k]?)->((Value.slice (some ⟨g',0,none⟩) (h.lines.length+1) cap').ownBlock=vl.ownBlock\/ ∀k,(Value.slice (some ⟨g',0,none⟩) (h.lines.length+1) cap').ownBlock=some k->U.heap.size<=k)->_):=fun w2 g' cap' p1 p2 p3=>Vx (s:=s) hsv hO p1 p2 p3
            have hbwU:bw<U.heap.size:=by omega
            clear hstep hsv hvl hcur d0 d2 hge
            go_wp2_with fail
            have hvl:=hvlW.out
            go_region_law (refine yo rfl (.tmp 145) (.tmp 150) 59 rfl (PB+1) 93 j0 _ 2 24 underlying59 ji jz0 jz1 jz2 rfl (by decide) vl h.lines.length (zg h.lines) (by simp [Act.eval]) (World.ownsRow.alloc (w:=U.drew) hvl _) ⟨U.heap.size,0,none⟩ 1 1 [.int .u8 (s.kind:Int),.string s.text] (by simp [Act.eval]) rfl (zt U.drew _ _) hone hm1 hm2 (hbs _) ?_;intro vl' w2 hown' hgrow hnew;obtain ⟨g',cap',rfl,_,_⟩:=zv hown' (Nat.succ_pos _);obtain ⟨e1,e2,e3,e4,e5,e6⟩:=hY.out _ w2 hgrow;have f1:=(World.cell?_of_block (a:=⟨g,O+1,none⟩) e1).trans d1;have f3:=(World.cell?_of_block (a:=⟨g,O+3,none⟩) e1).trans d3;have f4:=(World.cell?_of_block (a:=⟨g,O+4,none⟩) e1).trans d4;have ff:=fun k=>(World.frozen?_of_block (a:=⟨g,k,none⟩) e1).trans (dfz k);have y0:=(World.cell?_of_block (a:=⟨bw,k*2,none⟩) e2).trans x0)
            all_goals
             have E:Hid (w2.heap[PB]? =U.heap[PB]? /\Below (PB+1) U w2):=⟨e3,e5⟩
             have hF:=hfin.out w2 g' cap' hown' e4 (hnew.imp id (fun hh k e=>by have h1:=hh k e;simp at h1;omega))
             have hFH:Hid _:=hF
             clear hF e1 e2 e3 e4 e5 e6 hY hvl hown' hgrow hnew
             rcases hkk with hkk | hkk | hkk
             ·have y1:w2.cell? ⟨bw,k*2,none⟩=some (.int .u8 32):=by rw [y0,hkk];rfl
              clear y0
              have hR:=hend.out w2 _ g' cap' E.out.1 E.out.2 (hFH.out.1 hkk) (by rw [zd _ _ _ _ _ hgPB,zd _ _ _ _ _ hgPB,zd _ _ _ _ _ hgPB]) ((((Below.refl PB w2).setCell (p:=⟨g,O+4,none⟩) (by show PB<=g;omega) _).setCell (p:=⟨g,O+1,none⟩) (by show PB<=g;omega) _).setCell (p:=⟨g,O+3,none⟩) (by show PB<=g;omega) _)
              have hRH:Hid _:=hR
              clear hR
              go_wp2_with fail
              go_meet
              case rel=>exact ⟨_,_,hRH.out⟩
             ·have y1:w2.cell? ⟨bw,k*2,none⟩=some (.int .u8 45):=by rw [y0,hkk];rfl
              clear y0
              have hR:=hend.out w2 _ g' cap' E.out.1 E.out.2 (hFH.out.2.1 hkk) (by rw [zd _ _ _ _ _ hgPB,zd _ _ _ _ _ hgPB]) (((Below.refl PB w2).setCell (p:=⟨g,O+4,none⟩) (by show PB<=g;omega) _).setCell (p:=⟨g,O+1,none⟩) (by show PB<=g;omega) _)
              have hRH:Hid _:=hR
              clear hR
              go_wp2_with fail
              go_meet
              case rel=>exact ⟨_,_,hRH.out⟩
             ·have y1:w2.cell? ⟨bw,k*2,none⟩=some (.int .u8 43):=by rw [y0,hkk];rfl
              clear y0
              have hR:=hend.out w2 _ g' cap' E.out.1 E.out.2 (hFH.out.2.2 hkk) (by rw [zd _ _ _ _ _ hgPB,zd _ _ _ _ _ hgPB]) (((Below.refl PB w2).setCell (p:=⟨g,O+4,none⟩) (by show PB<=g;omega) _).setCell (p:=⟨g,O+3,none⟩) (by show PB<=g;omega) _)
              have hRH:Hid _:=hR
              clear hR
              go_wp2_with fail
              go_meet
              case rel=>exact ⟨_,_,hRH.out⟩
         case rest=>
          obtain ⟨v3,hv3,hR⟩:=hcut
          obtain ⟨U3,rfl⟩: ∃U3,U3=wc:=⟨_,rfl⟩
          have x0:=(hxs.out U3 hR.2.2.2).1
          have hRH:Hid _:=hR
          clear hR hso2 hmap2 hQ2 hb2 hvl2 nbU
          rcases hkk with hkk | hkk | hkk
          ·have y1:U3.cell? ⟨bw,k*2,none⟩=some (.int .u8 32):=by rw [x0,hkk];rfl
           clear x0
           go_wp2_with fail
           go_roundg (L.length-(k+1))
           ·exact ⟨k+1,_,_,rfl,by omega,by push_cast;rfl,by rw [(hog.out).1,hogH.out.1,hkk];push_cast;rfl,by rw [(hog.out).2,hogH.out.2,hkk];push_cast;rfl,hRH.out⟩
           ·have:=hG2.out;omega
          ·have y1:U3.cell? ⟨bw,k*2,none⟩=some (.int .u8 45):=by rw [x0,hkk];rfl
           clear x0
           go_wp2_with fail
           go_roundg (L.length-(k+1))
           ·exact ⟨k+1,_,_,rfl,by omega,by push_cast;rfl,by rw [(hog.out).1,hogH.out.1,hkk];push_cast;rfl,by rw [(hog.out).2,hogH.out.2,hkk];simp,hRH.out⟩
           ·have:=hG2.out;omega
          ·have y1:U3.cell? ⟨bw,k*2,none⟩=some (.int .u8 43):=by rw [x0,hkk];rfl
           clear x0
           go_wp2_with fail
           go_roundg (L.length-(k+1))
           ·exact ⟨k+1,_,_,rfl,by omega,by push_cast;rfl,by rw [(hog.out).1,hogH.out.1,hkk];simp,by rw [(hog.out).2,hogH.out.2,hkk];push_cast;rfl,hRH.out⟩
           ·have:=hG2.out;omega
      ·have hltI: ¬((k:Int)<L.length):=by omega
       have hkn:k=L.length:=by omega
       have hF:Hid (yu a b (C:Int)=(foldH L bs k).hs.map zV):=by show _=_;rw [hkn];exact hDD.out
       have hq4:Hid (∀h∈(foldH L bs k).hs,h.fr<=100000/\h.tr<=100000/\h.fc<=100000/\h.tc<=100000):=fun h hh=>by have:=q4 h hh;omega
       clear hkn q4 q5 hDD hwk
       generalize foldH L bs k=F at *
       obtain ⟨og,hog⟩: ∃og,F.og=og:=⟨_,rfl⟩
       obtain ⟨fg,hfg⟩: ∃fg,F.fg=fg:=⟨_,rfl⟩
       rw [hog,hfg]
       clear hog hfg q1 q2
       have hsl: ∃a1 c1,v= .slice a1 hv.length c1:=by
        rcases hso with ⟨rfl,rfl⟩ | ⟨g,c1,rfl,_⟩
        ·exact ⟨_,_,rfl⟩
        ·exact ⟨_,_,rfl⟩
       obtain ⟨a1,c1,rfl⟩:=hsl
       obtain ⟨n,hn⟩: ∃n,hv.length=n:=⟨_,rfl⟩
       rw [hn] at hso hvl' hvlen hQ
       have hn':Hid (hv.length=n):=hn
       clear hn q3
       go_wp2_with fail
       go_loopg [23] n (fun g t wx=> ∃(j:Nat) (hv':List HV),g=n-j/\j<=n/\t= .int .i64 j/\HSo (PB+1) (.slice a1 n c1) hv' wx/\Hid (hv'.map (·.1)=jB F.hs j)/\wx.heap[PB]? =some (.cells #[.slice a1 n c1] 32 (0,0))/\Below PB wr wx)
       case atStart=>exact ⟨0,hv,by omega,by omega,rfl,hso,by show _=_;rw [Kr];exact hmap.out,hQ,hbk⟩
       case round=>
        rename World=>wx
        obtain ⟨j,hv',hgj,hjn,rfl,hso',hmm,hQ',hb'⟩:=hrel
        have hl':hv'.length=n:=by
         have e:(hv'.map (·.1)).length=(jB F.hs j).length:=by rw [hmm.out]
         rw [List.length_map,qL] at e
         have:=hvlen.out;omega
        have hA:Hid (hv'.length=n/\_=n-j):=⟨hl',hgj⟩
        have pX:wx.cell? ⟨PB,0,none⟩=some (.slice a1 n c1):=za hQ' rfl
        have hPx:PB<wx.heap.size:=(Array.getElem?_eq_some_iff.1 hQ').1
        clear hgj hso hmap hQ hbk
        by_cases hlt2:j<n
        ·have hltI2:(j:Int)<n:=by omega
         rcases hso' with ⟨e,_⟩ | ⟨g,cap1,e,hg,hsv⟩
         ·subst e;simp at hl';omega
         obtain ⟨rfl,hnn,rfl⟩:a1=some ⟨g,0,none⟩/\n=hv'.length/\c1=cap1:=by cases e;exact ⟨rfl,rfl,rfl⟩
         rw [<-hnn] at hsv
         clear e hnn
         have hj':j<hv'.length:=by omega
         have hx:hv'[j].1=F.hs[j]'(by have:=hvlen.out;omega):=by
          have e1:(hv'.map (·.1))[j]'(by simpa using hj')=(jB F.hs j)[j]'(by rw [qL];have:=hvlen.out;omega):=by simp only [hmm.out]
          rw [WK _ _ (by have:=hvlen.out;omega)] at e1
          simpa using e1
         have hbd:=hq4.out hv'[j].1 (by rw [hx];exact List.getElem_mem _)
         obtain ⟨d0,d1,d2,d3,d4⟩:=xN hsv.row (i:=j) hj'
         obtain ⟨cur,hcur⟩:=ze hsv.row (g:=g) rfl
         have hgw:g<wx.heap.size:=(Array.getElem?_eq_some_iff.1 hcur).1
         have dfz: ∀k,wx.frozen? ⟨g,k,none⟩=false:=fun k=>zi hcur
         have hgPB: ¬PB=g:=by omega
         have hNF:=Gn hsv (by omega) hg hj'
         have hm2:Hid ((hv'.set j (zV hv'[j].1,hv'[j].2)).map (·.1)=jB F.hs (j+1)):=by
          show _=_
          rw [List.map_set,hmm.out]
          simp only
          rw [hx,JS]
         have hl2:Hid ((hv'.set j (zV hv'[j].1,hv'[j].2)).length=n):=by show _=_;rw [List.length_set];exact hA.out.1
         generalize hv'.set j (zV hv'[j].1,hv'[j].2)=hv2 at hNF hm2 hl2
         obtain ⟨H,hH⟩: ∃H,hv'[j].1=H:=⟨_,rfl⟩
         rw [hH] at hNF hbd d0 d1 d2 d3
         have hfin:Hid (∀l:List (Nat×Value),((l= []/\zV H=H)\/(l= [(j*5,.int .i64 ((zV H).fr:Nat))]/\(zV H).tr=H.tr)\/(l= [(j*5+2,.int .i64 ((zV H).tr:Nat))]/\(zV H).fr=H.fr)\/l= [(j*5,.int .i64 ((zV H).fr:Nat)),(j*5+2,.int .i64 ((zV H).tr:Nat))])-> ∀W,W=l.foldl (fun w p=>w.setCell ⟨g,p.1,none⟩ p.2) wx->
             HSo (PB+1) (.slice (some ⟨g,0,none⟩) n c1) hv2 W/\Hid (hv2.map (·.1)=jB F.hs (j+1))/\W.heap[PB]? =some (.cells #[.slice (some ⟨g,0,none⟩) n c1] 32 (0,0))/\Below PB wr W):=by
          intro l hl W hW
          subst hW
          obtain ⟨r1,r2,r3⟩:=hNF l hl
          refine ⟨.inr ⟨g,c1,by rw [hl2.out],hg,by rw [hl2.out];exact r1⟩,hm2,?_,hb'.trans (r2.mono (Nat.le_succ PB))⟩
          rw [r3.block PB hPx (fun e=>hgPB (by cases e;rfl))]
          exact hQ'
         obtain ⟨O,hO⟩: ∃O,j*5=O:=⟨_,rfl⟩
         rw [hO] at d0 d1 d2 d3
         rw [hO] at hfin
         clear d4 hNF hx hH hsv hcur hm2 hl2 hmm hl' hb' hQ'
         by_cases f0:0<H.fc
         ·have f0I:0<(H.fc:Int):=by omega
          have f1: ¬H.fc=0:=by omega
          by_cases t0:0<H.tc
          ·have t0I:0<(H.tc:Int):=by omega
           have t1: ¬H.tc=0:=by omega
           have hR:=hfin.out [(O,.int .i64 ((zV H).fr:Nat)),(O+2,.int .i64 ((zV H).tr:Nat))] (.inr (.inr (.inr rfl))) ((wx.setCell ⟨g,O,none⟩ (.int .i64 ((H.fr:Int)+1))).setCell ⟨g,O+2,none⟩ (.int .i64 ((H.tr:Int)+1))) (by simp [zV,f1,t1])
           have hRH:Hid _:=hR
           clear hR hfin f0 t0 f1 t1
           go_wp2_with fail
           go_roundg (n-(j+1))
           ·exact ⟨j+1,hv2,rfl,by omega,by push_cast;rfl,hRH.out⟩
           ·have:=hA.out.2;omega
          ·have t0I: ¬0<(H.tc:Int):=by omega
           have t1:H.tc=0:=by omega
           have hR:=hfin.out [(O,.int .i64 ((zV H).fr:Nat))] (.inr (.inl ⟨rfl,by simp [zV,t1]⟩)) (wx.setCell ⟨g,O,none⟩ (.int .i64 ((H.fr:Int)+1))) (by simp [zV,f1])
           have hRH:Hid _:=hR
           clear hR hfin f0 t0 f1 t1
           go_wp2_with fail
           go_roundg (n-(j+1))
           ·exact ⟨j+1,hv2,rfl,by omega,by push_cast;rfl,hRH.out⟩
           ·have:=hA.out.2;omega
         ·have f0I: ¬0<(H.fc:Int):=by omega
          have f1:H.fc=0:=by omega
          by_cases t0:0<H.tc
          ·have t0I:0<(H.tc:Int):=by omega
           have t1: ¬H.tc=0:=by omega
           have hR:=hfin.out [(O+2,.int .i64 ((zV H).tr:Nat))] (.inr (.inr (.inl ⟨rfl,by simp [zV,f1]⟩))) (wx.setCell ⟨g,O+2,none⟩ (.int .i64 ((H.tr:Int)+1))) (by simp [zV,t1])
           have hRH:Hid _:=hR
           clear hR hfin f0 t0 f1 t1
           go_wp2_with fail
           go_roundg (n-(j+1))
           ·exact ⟨j+1,hv2,rfl,by omega,by push_cast;rfl,hRH.out⟩
           ·have:=hA.out.2;omega
          ·have t0I: ¬0<(H.tc:Int):=by omega
           have t1:H.tc=0:=by omega
           have hR:=hfin.out [] (.inl ⟨rfl,Fv f1 t1⟩) wx rfl
           have hRH:Hid _:=hR
           clear hR hfin f0 t0 f1 t1
           go_wp2_with fail
           go_roundg (n-(j+1))
           ·exact ⟨j+1,hv2,rfl,by omega,by push_cast;rfl,hRH.out⟩
           ·have:=hA.out.2;omega
        ·have hltI2: ¬((j:Int)<n):=by omega
         have hjn2:j=n:=by omega
         have hfin:Hid (hv'.map (·.1)=yu a b (C:Int)):=by
          show _=_
          rw [hmm.out,hF.out,hjn2,hvlen.out,WN]
         have hP9:wx.heap[w.heap.size]? =some Yh:=(hb'.block w.heap.size (by omega)).trans hP6
         have hbW9:=hbW6.trans (hb'.mono (by omega))
         have q0:wx.cell? ⟨w.heap.size,0,none⟩=some (.slice none 0 0):=za hP9 rfl
         have qf: ∀k,wx.frozen? ⟨w.heap.size,k,none⟩=false:=fun k=>zi hP9
         have qr:(wx.setCell ⟨w.heap.size,0,none⟩ (.slice a1 n c1)).cell? ⟨w.heap.size,0,none⟩=some (.slice a1 n c1):=za (zb _ _ _ _ _ _ _ hP9) rfl
         have hso9:=hso'.kept (w':=wx.setCell ⟨w.heap.size,0,none⟩ (.slice a1 n c1)) (row:=some w.heap.size) (zc _ _ _ _) (fun k e=> .inr (by cases e;exact ⟨_,_,_,hP9,by decide,by decide⟩))
         have hR: ∃al cl,Ending.returned (.tuple #[.agg #[.slice a1 n c1],.int .i64 0])=Ending.returned (.tuple #[.agg #[.slice al (yu a b (C:Int)).length cl],.int .i64 (checkB a b (C:Int))])/\Yc w.heap.size (wx.setCell ⟨w.heap.size,0,none⟩ (.slice a1 n c1)) (.slice al (yu a b (C:Int)).length cl) (yu a b (C:Int))/\Below w.heap.size w (wx.setCell ⟨w.heap.size,0,none⟩ (.slice a1 n c1)):=by
          have hl9:n=(yu a b (C:Int)).length:=by rw [<-hfin.out,List.length_map];exact hl'.symm
          refine ⟨a1,c1,by rw [<-hl9,hck.out],?_,hbW9.setCell (p:=⟨w.heap.size,0,none⟩) (Nat.le_refl _) _⟩
          rw [<-hl9]
          exact ⟨hv',hso9.mono (by omega),hfin.out⟩
         have hRH:Hid _:=hR
         clear hR hso9 hfin hmm hjn2 hl' hck hF
         go_wp2_with fail
         refine bodyPost_ret (v:= .tuple #[.agg #[.slice a1 n c1],.int .i64 0]) ?_ rfl hRH.out
         simp [results,results20,go_sem,qr]
  ·have hck:Hid (checkB a b c=2):=by
    show _=_
    unfold checkB
    rw [if_pos (.inr (by rw [<-hT1.out.2];simpa using t2))]
   have t2':xX b=false:=by simpa using t2
   clear t2 hT1
   rw [t1,t2']
   go_wp2_with fail
   refine bodyPost_ret (v:= .tuple #[.agg #[.slice none 0 0],.int .i64 2]) ?_ rfl (hbad.out 2 W2 hck.out (by decide) hP2 hbW2 _ rfl)
   simp [results,results20,go_sem,qr]
 ·have hck:Hid (checkB a b c=2):=by
   show _=_
   unfold checkB
   rw [if_pos (.inl (by rw [<-hT1.out.1];simpa using t1))]
  have t1':xX a=false:=by simpa using t1
  clear t1 hT1
  rw [t1']
  go_wp2_with fail
  refine bodyPost_ret (v:= .tuple #[.agg #[.slice none 0 0],.int .i64 2]) ?_ rfl (hbad.out 2 W2 hck.out (by decide) hP2 hbW2 _ rfl)
  simp [results,results20,go_sem,qr]
theorem VV {a b:ByteArray} {c:Int} {w:World} (h1:a.size<=4000000000) (h2:b.size<=4000000000):
 Calls prog 20 #[.string a,.string b,.int .i64 c] w fun e w'=> ∃al cl,e= .returned (.tuple #[.agg #[.slice al (yu a b c).length cl],.int .i64 (checkB a b c)])/\zO w'.heap.size w' (.slice al (yu a b c).length cl) (yu a b c)/\Below w.heap.size w w':=
 (kO h1 h2).mono fun _ _ ⟨al,cl,e,h,b⟩=>⟨al,cl,e,h.hunks,b⟩
end Go.Proofs.YtcclgodahlinbaaGreatDoor
