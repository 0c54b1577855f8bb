import Derived.Test.YtcclgodahlinbaaGreatDoorA38
import Derived.Test.YtcclgodahlinbaaGreatDoorA23
import Derived.Test.YtcclgodahlinbaaGreatDoorA14
namespace Go.Proofs.YtcclgodahlinbaaGreatDoor
set_option maxHeartbeats 16000000
open Tryz Go.RowKit Go
set_option maxRecDepth 100000
theorem GZ {S:Nat} {st:Rd} {v:Value} {hv:List HV} {w:World} (h:RdM S st v hv w):
 Calls prog 36 #[.pointer (some ⟨S,0,none⟩)] w fun e w'=>e= .returned (.bool st.endB)/\Below w.heap.size w w':=by
 refine (FJ h).mono ?_
 rintro e w' ⟨⟨r,rfl,hr⟩,hb⟩
 refine ⟨?_,hb⟩
 have:r=st.endB:=by
  rw [Bool.eq_iff_iff,hr,DF]
 rw [this]
theorem Uf (args:Array Value) (w:World):(callFunc 79 args).run prog w= .ok (.enter 79 args) w:=enters_of func79 (by kernel_rfl) rfl args w
theorem Ur {S n:Nat} {st:Rd} {v:Value} {hv:List HV} {w:World} {l:List UInt8} (hR:RdM S st v hv w) (hB:Bi n st) (hn:n<=20001) (hl:l.length<=20000) (hg:yr w):
 Calls prog 35 #[.pointer (some ⟨S,0,none⟩),.string ⟨l.toArray⟩] w fun e w'=>e= .returned (.bool (rdStep st l).isSome)/\(∀st',rdStep st l=some st'-> ∃v' hv',RdM S st' v' hv' w')/\Below S w w':=by
 have hlt:=hR.lt
 have b1:=hB.hn
 have b2:=hB.g1
 have b3:=hB.g2
 have x3:w.cell? ⟨S,3,none⟩=some (.int .i64 (st.f:Int)):=za (k:=3) hR.blk rfl
 have x4:w.cell? ⟨S,4,none⟩=some (.int .i64 (st.t:Int)):=za (k:=4) hR.blk rfl
 have x5:w.cell? ⟨S,5,none⟩=some (.bool st.b):=za (k:=5) hR.blk rfl
 have hfu:=Wv (st.f:Int) (st.t:Int) st.b w
 by_cases hf:st.f=0/\st.t=0
 ·have e1:decide ((st.f:Int)=0)=true:=decide_eq_true (by omega)
  have e2:decide ((st.t:Int)=0)=true:=decide_eq_true (by omega)
  rw [e1,e2] at hfu
  have hX:Hid (∀w1,Below w.heap.size w w1->Calls prog 36 #[.pointer (some ⟨S,0,none⟩)] w1 fun e w'=>e= .returned (.bool st.endB)/\Below w1.heap.size w1 w'):=fun w1 hb1=>GZ (hR.below hb1)
  have hY:Hid (∀w1 w2,Below w.heap.size w w1->Below w1.heap.size w1 w2->Calls prog 77 #[.pointer (some ⟨S,0,none⟩),.string ⟨l.toArray⟩] w2 fun e w'=>e= .returned (.bool (hdOk st l))/\(hdOk st l=true-> ∃v' hv',RdM S (hdNext st l) v' hv' w')/\Below S w w'):=by
   intro w1 w2 hb1 hb2
   have hb12:=hb1.trans (hb2.mono hb1.size)
   refine (KP (hR.below hb12) hl (by omega) (by omega) (by omega) (hg.next hb12)).mono ?_
   rintro e w' ⟨rfl,hr,hb'⟩
   exact ⟨rfl,hr,(hb12.mono (by omega)).trans hb'⟩
  have hst:rdStep st l=if (st.endB && hdOk st l)=true then some (hdNext st l) else none:=by unfold rdStep;rw [if_pos hf]
  rw [hst]
  clear hst
  generalize (⟨l.toArray⟩:ByteArray)=s0 at *
  generalize hdOk st l=hk at *
  generalize hdNext st l=stN at *
  cases hE:st.endB with
  | false=>
    rw [hE] at hX
    rw [Bool.false_and]
    clear hE e1 e2 hf
    go_enter func35,ntmps35
    go_wp2_with (first | (go_at_call 76;refine hfu.mono ?_;rintro e w1 ⟨rfl,hb1⟩;have hX1:=hX.out w1 hb1) | (go_at_call 36;refine hX1.mono ?_;rintro e w2 ⟨rfl,hb2⟩))
    go_ret
    have hbF:Below S w w2:=(hb1.mono (by omega)).trans (hb2.mono (by have:=hb1.size;omega))
    first | exact ⟨rfl,hbF⟩ | exact ⟨rfl,fun st' h=>(by cases h),hbF⟩
  | true=>
    rw [hE] at hX
    rw [Bool.true_and]
    clear hE e1 e2 hf
    cases hk with
    | false=>
      go_enter func35,ntmps35
      go_wp2_with (first | (go_at_call 76;refine hfu.mono ?_;rintro e w1 ⟨rfl,hb1⟩;have hX1:=hX.out w1 hb1) | (go_at_call 36;refine hX1.mono ?_;rintro e w2 ⟨rfl,hb2⟩;have hY1:=hY.out w1 w2 hb1 hb2) | (go_at_call 77;refine hY1.mono ?_;rintro e w3 ⟨rfl,hr,hb3⟩))
      go_ret
      first | exact ⟨rfl,hb3⟩ | exact ⟨rfl,fun st' h=>(by cases h),hb3⟩
    | true=>
      go_enter func35,ntmps35
      go_wp2_with (first | (go_at_call 76;refine hfu.mono ?_;rintro e w1 ⟨rfl,hb1⟩;have hX1:=hX.out w1 hb1) | (go_at_call 36;refine hX1.mono ?_;rintro e w2 ⟨rfl,hb2⟩;have hY1:=hY.out w1 w2 hb1 hb2) | (go_at_call 77;refine hY1.mono ?_;rintro e w3 ⟨rfl,hr,hb3⟩;have hrH:Hid _:=hr;clear hr))
      go_ret
      first | exact ⟨rfl,hrH.out (by trivial),hb3⟩ | exact ⟨rfl,hrH.out,hb3⟩ | exact ⟨rfl,fun st' h=>Option.some.inj h ▸ hrH.out (by trivial),hb3⟩
 ·have hd:(decide ((st.f:Int)=0) && decide ((st.t:Int)=0))=false:=by
   rw [Bool.and_eq_false_iff]
   by_cases h0:st.f=0
   ·right;exact decide_eq_false (by omega)
   ·left;exact decide_eq_false (by omega)
  rw [hd] at hfu
  clear hd
  cases l with
  | nil=>
    have hst:rdStep st []=none:=by unfold rdStep;rw [if_neg hf]
    rw [hst]
    clear hst hf
    have hem:(⟨([]:List UInt8).toArray⟩:ByteArray)=⟨#[]⟩:=rfl
    rw [hem]
    clear hem
    go_enter func35,ntmps35
    go_wp2_with (go_at_call 76;refine hfu.mono ?_;rintro e w1 ⟨rfl,hb1⟩)
    go_quiet (fail)
    go_wp2_with fail
    go_ret
    have hbF:Below S w w1:=hb1.mono (by omega)
    first | exact ⟨rfl,Below.drewN' hbF⟩ | exact ⟨rfl,fun st' h=>(by cases h),Below.drewN' hbF⟩
  | cons c r=>
    have hst:rdStep st (c::r)=if zF c.toNat st.f st.t=true then some (lnNext st c r) else none:=by unfold rdStep;rw [if_neg hf]
    rw [hst]
    clear hst
    have hkd:c.toNat<256:=UInt8.toNat_lt c
    have hc8:=UInt8.toNat_lt c
    have hf5:=hB.f
    have ht5:=hB.t
    generalize hsx:(⟨(c::r).toArray⟩:ByteArray)=sx at *
    have hEm:sx.toList.isEmpty=false:=by
     rw [<-hsx,Lib.toList_data]
     rfl
    have hSz:sx.size=r.length+1:=by rw [<-hsx,xq];rfl
    have hI1:(1:Int)<=(r.length:Int)+1:=by omega
    have hI0:(0:Int)<((r.length+1:Nat):Int):=by omega
    have hS00:Hid (0<sx.size):=by show _<_;omega
    have hK0: ∀hh:0<sx.size,(sx[0]'hh).toNat=c.toNat:=by
     intro hh
     subst hsx
     rfl
    have hT1:Hid (sx.extract 1 sx.size=⟨r.toArray⟩):=by
     unfold Hid
     rw [Lib.extract_eq,<-hsx,xq]
     show (⟨(((c::r)).drop 1 |>.take _).toArray⟩:ByteArray)=_
     rw [List.drop_succ_cons,List.drop_zero,List.take_of_length_le (by simp)]
    have hnx:Hid (∀init h,st.hs=init++ [h]->lnNext st c r=⟨init++ [{ h with lines:=h.lines++ [kV c r] }],st.en,st.gr,(st.f-kF c.toNat:Int).toNat,(st.t-kT c.toNat:Int).toNat,st.b || c.toNat !=32⟩):=by
     intro init h e
     unfold lnNext
     rw [e,ZY]
    have hls:Hid (kV c r=⟨c.toNat,⟨r.toArray⟩⟩):=rfl
    have hrs:(⟨r.toArray⟩:ByteArray).size=r.length:=xq r
    simp only [List.length_cons] at hl
    have htk0:Hid (∀w1,Below w.heap.size w w1->Calls prog 78 #[.pointer (some ⟨S,3,none⟩),.int .u8 (c.toNat:Nat)] w1.drew fun e w'=>e= .returned (.bool (zF c.toNat st.f st.t))/\(zF c.toNat st.f st.t=true->w'.heap[S]? =some (.cells #[v,.int .i64 (st.en:Int),.int .i64 st.gr,.int .i64 ((st.f:Int)-kF c.toNat),.int .i64 ((st.t:Int)-kT c.toNat),.bool (st.b || c.toNat !=32)] 88 (0,0)))/\w1.drew.grownBy w' (some S)):=by
     intro w1 hb1
     exact JD w1.drew (show w1.drew.heap[S]? =_ from (hb1.block S hlt).trans hR.blk) hkd (by omega) (by omega) (by omega) (by omega)
    cases hq:zF c.toNat st.f st.t with
    | false=>
      rw [hq] at htk0
      clear hq hf hnx hT1 hls
      go_enter func35,ntmps35
      go_wp2_with (go_at_call 76;refine hfu.mono ?_;rintro e w1 ⟨rfl,hb1⟩)
      refine zK 8 yg (by kernel_rfl) ?_
      simp only [List.take_succ_cons,List.take_zero,List.drop_succ_cons,List.drop_zero]
      repeat still_step
      refine wpStill_nil ?_
      try simp only [hK0]
      have htk:=htk0.out w1 hb1
      clear x3 x4 x5 hfu hEm hK0
      go_wp2_with (go_at_call 78;refine htk.mono ?_;rintro e w2 ⟨rfl, -,hg2⟩)
      go_ret
      have hbF:Below S w w2:=((hb1.mono (by omega)).drew).grown hg2 (by show S<=w1.heap.size;have:=hb1.size;omega) (fun k e=>by cases e;exact Nat.le_refl _)
      first | exact ⟨rfl,hbF⟩ | exact ⟨rfl,fun st' h=>(by cases h),hbF⟩
    | true=>
      obtain ⟨k1,k2,k3,k4,k5,k6,k7⟩:=kFT hq
      have hne:st.hs≠ []:=fun e=>hf (hB.nil e)
      obtain ⟨init,h,e0, -, -⟩:=KJ hne
      have hh:=hB.ln h (by rw [e0];simp)
      obtain ⟨g,cap,i1,vl,rfl,hgb,rfl,him,hsv⟩:=hR.hso.last (hR.hs.trans e0)
      have hF2:Hid ((((st.f:Int)-kF c.toNat).toNat:Int)=(st.f:Int)-kF c.toNat/\(((st.t:Int)-kT c.toNat).toNat:Int)=(st.t:Int)-kT c.toNat):=⟨by omega,by omega⟩
      have hnx2:Hid _:=hnx.out init h e0
      rw [hq] at htk0
      have hil:i1.length<=100000:=by have:=congrArg List.length him;rw [List.length_map] at this;rw [e0] at b1;simp at b1;omega
      clear hq hf hnx k1 k2 k3 k4 k5 k6 k7 hne
      go_enter func35,ntmps35
      go_wp2_with (go_at_call 76;refine hfu.mono ?_;rintro e w1 ⟨rfl,hb1⟩)
      refine zK 8 yg (by kernel_rfl) ?_
      simp only [List.take_succ_cons,List.take_zero,List.drop_succ_cons,List.drop_zero]
      repeat still_step
      refine wpStill_nil ?_
      try simp only [hK0]
      have hS1:=(hb1.block S hlt).trans hR.blk
      have hz1':=hb1.size
      have htk:=htk0.out w1 hb1
      have hsv1:HSv (S+1) g (i1.length+1) cap (i1++ [(h,vl)]) w1:=⟨hsv.len,zR hsv.row hb1 (fun k e=>(hsv.row.lt k e).2),fun p hp=>zR (hsv.lines p hp) hb1 (fun k e=>((hsv.lines p hp).lt k e).2),hsv.apart⟩
      have hsv1d:HSv (S+1) g (i1.length+1) cap (i1++ [(h,vl)]) w1.drew:=⟨hsv1.len,hsv1.row,hsv1.lines,hsv1.apart⟩
      have hA:Hid (∀w2,w1.drew.grownBy w2 (some S)->HSv (S+1) g (i1.length+1) cap (i1++ [(h,vl)]) w2/\Below S w w2/\w.heap.size<=w2.heap.size):=by
       intro w2 hg2
       refine ⟨hsv1d.kept hg2 (fun k e=>by cases e;exact .inr ⟨_,_,_,hS1,by decide,by decide⟩),((hb1.mono (by omega)).drew).grown hg2 (by show S<=w1.heap.size;omega) (fun k e=>by cases e;exact Nat.le_refl _),?_⟩
       have:=hg2.size
       have e:w1.drew.heap.size=w1.heap.size:=rfl
       omega
      clear x3 x4 x5 hfu hsv1 hsv1d hS1 hsv hR htk0
      generalize (st.f:Int)-kF c.toNat=F2 at *
      generalize (st.t:Int)-kT c.toNat=T2 at *
      generalize hBB:(st.b || c.toNat !=32)=B2 at *
      go_wp2_with (go_at_call 78;refine htk.mono ?_;rintro e w2 ⟨rfl,hS2',hg2⟩)
      obtain ⟨hsv2,hbe2,hsz2⟩:=hA.out w2 hg2
      have hS2:=hS2' (by trivial)
      clear htk hA hS2'
      have x0:w2.cell? ⟨S,0,none⟩=some (.slice (some ⟨g,0,none⟩) (i1.length+1) cap):=za (k:=0) hS2 rfl
      have hwv2:IntKind.i64.wrap (i1.length:Int)=i1.length:=by rw [IntKind.wrap_i64];omega
      have hix3:(i1.length:Int)<((i1.length+1:Nat):Int):=by omega
      have hix4:(i1.length:Int)<(i1.length:Int)+1:=by omega
      have hix5:(0:Int)<=(i1.length:Int):=by omega
      go_quiet (fail)
      have hsv0:HSv (S+1) g (i1.length+1) cap (i1++ [(h,vl)]) (w2.drewN nq):=⟨hsv2.len,hsv2.row,hsv2.lines,hsv2.apart⟩
      have hS0:(w2.drewN nq).heap[S]? =_:=hS2
      have hbe0:Below S w (w2.drewN nq):=Below.drewN' hbe2
      have hsz0:w.heap.size<=(w2.drewN nq).heap.size:=hsz2
      clear hsv2 hS2 hbe2 hsz2 x0
      generalize w2.drewN nq=W0 at *
      have hvl:W0.ownsRow (S+1) 93 2 vl h.lines.length (zg h.lines):=hsv0.lines (h,vl) (by simp)
      obtain ⟨cur,hcur⟩:=ze hsv0.row (g:=g) rfl
      have hgw:g<W0.heap.size:=(Array.getElem?_eq_some_iff.1 hcur).1
      have hSw:S<W0.heap.size:=by omega
      have hge:vl.ownBlock≠some g:=zT hvl hcur (by decide)
      have hcells:=xN hsv0.row (i:=i1.length) (by simp)
      simp only [qt] at hcells
      obtain ⟨c0,c1,c2,c3,c4⟩:=hcells
      have hfz: ∀k,W0.frozen? ⟨g,k,none⟩=false:=fun k=>zi hcur
      have hget:=yQ (i1++ [(h,vl)]) i1.length (by simp)
      simp only [qt] at hget
      have G:Hid _:=hget
      generalize hO:i1.length*5=O at c0 c1 c2 c3 c4 G ⊢
      have hll:h.lines.length<=100000:=by have:=hh.1;omega
      have hbk: ∀k,vl.ownBlock=some k->S+1<=k/\k<W0.heap.size:=fun k e=>hvl.lt k e
      obtain ⟨avl,cvl,hvle⟩:=zn hvl
      subst hvle
      have hone: ∀u∈ [Value.int .u8 (c.toNat:Int),Value.string ⟨r.toArray⟩],u.oneCell'=true:=by intro u hu;simp at hu;rcases hu with rfl | rfl<;>rfl
      obtain ⟨i0,hi,hz0,hz1,hz2⟩:=info_parts yJ
      have hm1:h.lines.length+1<=maxLen:=by unfold maxLen;omega
      have hm2:(h.lines.length+1)*24<=140737488355328:=by omega
      have hT1b:sx.extract 1 (r.length+1)=⟨r.toArray⟩:=by rw [<-hSz];exact hT1.out
      have hcl:=(Xo (⟨r.toArray⟩:ByteArray) W0.drew (by omega)).mono (fun e w' h=>(⟨_,h.1,rfl,h.2⟩: ∃v,e= .returned v/\(v= .string ⟨r.toArray⟩/\Below W0.heap.size W0.drew w')))
      generalize hrr:(⟨r.toArray⟩:ByteArray)=rr at *
      have hsI:(0:Int)<sx.size:=by omega
      have hsI1:(1:Int)<=sx.size:=by omega
      have hnlt: ¬sx.size<1:=by omega
      clear hcur hT1
      have hI0w:W0.drew.cell? ⟨g,O+4,none⟩=some (.slice avl h.lines.length cvl):=c4
      go_wp2_with fail
      refine wp_region_any yg (jp.any (st:=15) (I:=fun w'=>w'.cell? ⟨g,O+4,none⟩=some (.slice avl h.lines.length cvl)) ?_)
      refine zw (i:=0) (n:=15) (v:= .pointer (some ⟨g,O,none⟩)) rfl (by kernel_rfl) (fun c a w h=>h) ⟨by simp [Region.wanted],fun w' hw=> ?_⟩ ?_
      ·simp [execOp,go_sem,Act.eval]
      refine zw (i:=1) (n:=14) (v:= .pointer (some ⟨g,O,none⟩)) rfl (by kernel_rfl) (fun c a w h=>h) ⟨by simp [Region.wanted],fun w' hw=> ?_⟩ ?_
      ·simp [execOp,go_sem,Act.eval,Act.put]
      refine zw (i:=2) (n:=13) (v:= .pointer (some ⟨g,O,none⟩)) rfl (by kernel_rfl) (fun c a w h=>h) ⟨by simp [Region.wanted],fun w' hw=> ?_⟩ ?_
      ·simp [execOp,go_sem,Act.eval,Act.put]
      refine zw (i:=3) (n:=12) (v:= .pointer (some ⟨g,O+4,none⟩)) rfl (by kernel_rfl) (fun c a w h=>h) ⟨by simp [Region.wanted],fun w' hw=> ?_⟩ ?_
      ·simp [execOp,go_sem,Act.eval,Act.put]
      refine zw (i:=4) (n:=11) (v:= .slice avl h.lines.length cvl) rfl (by kernel_rfl) (fun c a w h=>h) ⟨by simp [Region.wanted],fun w' hw=> ?_⟩ ?_
      ·have hc:w'.cell? ⟨g,O+4,none⟩=some (.slice avl h.lines.length cvl):=hw;simp [execOp,go_sem,Act.eval,Act.put,hc]
      refine zw (i:=5) (n:=10) (v:= .string sx) rfl (by kernel_rfl) (fun c a w h=>h) ⟨by simp [Region.wanted],fun w' hw=> ?_⟩ ?_
      ·simp [execOp,go_sem,Act.eval,Act.put]
      refine zw (i:=6) (n:=9) (v:= .int .u8 (c.toNat:Int)) rfl (by kernel_rfl) (fun c a w h=>h) ⟨by simp [Region.wanted],fun w' hw=> ?_⟩ ?_
      ·have hs0:0<sx.size:=hS00.out;have hs1:(sx[0]'hs0).toNat=c.toNat:=hK0 hs0;simp [execOp,go_sem,Act.eval,Act.put,hs0,hs1]
      refine zw (i:=7) (n:=8) (v:= .string sx) rfl (by kernel_rfl) (fun c a w h=>h) ⟨by simp [Region.wanted],fun w' hw=> ?_⟩ ?_
      ·simp [execOp,go_sem,Act.eval,Act.put]
      refine zw (i:=8) (n:=7) (v:= .string rr) rfl (by kernel_rfl) (fun c a w h=>h) ⟨by simp [Region.wanted],fun w' hw=> ?_⟩ ?_
      ·have hs2: ¬(sx.size:Int)<1:=(by omega);have hs3:sx.extract 1 sx.size=rr:=(by rw [hSz];exact hT1b);simp [execOp,go_sem,Act.eval,Act.put,hs2,hs3]
      refine zE (i:=9) (n:=6) hI0w (by kernel_rfl) ?_
      refine xK rfl rfl 79 _ _ rfl #[.string rr] (by simp [Act.eval,Act.put]) (Uf _ _) (fun v w'=>v= .string rr/\Below W0.heap.size W0.drew w') hcl ?_
      rintro v1 w3 ⟨rfl,hb3⟩
      have hz3:W0.heap.size<=w3.heap.size:=hb3.size
      have hI1w:w3.cell? ⟨g,O+4,none⟩=some (.slice avl h.lines.length cvl):=(hb3.cell (p:=⟨g,O+4,none⟩) hgw).trans hI0w
      have hvl3:w3.ownsRow (S+1) 93 2 (.slice avl h.lines.length cvl) h.lines.length (zg h.lines):=zR (w:=W0.drew) hvl hb3 (fun k e=>(hbk k e).2)
      refine zw (i:=10) (n:=5) (v:= .agg #[.int .u8 (c.toNat:Int),.string rr]) rfl (by kernel_rfl) (fun c a w h=>h) ⟨by simp [Region.wanted],fun w' hw=> ?_⟩ ?_
      ·simp [execOp,go_sem,Act.eval,Act.put]
      refine zE (i:=11) (n:=4) hI1w (by kernel_rfl) ?_
      refine zX (w':=w3.alloc (.cells #[.int .u8 (c.toNat:Int),.string rr] 93)) (v:= .slice (some ⟨w3.heap.size,0,none⟩) 1 1) rfl rfl ?_ ?_
      ·simp [execOp,go_sem,Act.eval,Act.put]
      have hI2w:(w3.alloc (.cells #[.int .u8 (c.toNat:Int),.string rr] 93)).cell? ⟨g,O+4,none⟩=some (.slice avl h.lines.length cvl):=(World.cell?_of_block (Below.heap_alloc w3 _ g (by omega))).trans hI1w
      refine zE (i:=12) (n:=3) hI2w (by kernel_rfl) ?_
      refine xj rfl rfl (.tmp 44) (.tmp 51) 59 rfl (S+1) 93 i0 _ 2 24 underlying59 hi hz0 hz1 hz2 rfl (by decide) (.slice avl h.lines.length cvl) h.lines.length (zg h.lines) (by simp [Act.eval,Act.put]) (hvl3.alloc _) ⟨w3.heap.size,0,none⟩ 1 1 [.int .u8 (c.toNat:Int),.string rr] (by simp [Act.eval,Act.put]) rfl (zt w3 _ _) hone hm1 hm2 (by rw [World.size_alloc];omega) ?_
      intro vl' w4 hown' hgr0
      obtain ⟨hgr,hnew⟩:=qP hgr0
      clear hgr0
      obtain ⟨g',cap',rfl,_,_⟩:=zv hown' (Nat.succ_pos _)
      have hz4:=hgr.size
      rw [World.size_alloc] at hz4
      have e3: ∀k,k<W0.heap.size->some k≠(Value.slice avl h.lines.length cvl).ownBlock->w4.heap[k]? =W0.heap[k]? :=by
       intro k hk hne
       rw [hgr.block k (by rw [World.size_alloc];omega) hne,Below.heap_alloc w3 _ k (by omega)]
       exact hb3.block k hk
      have e1:=e3 g hgw (fun e=>hge e.symm)
      have e2:=e3 S hSw (fun e=>by have:=hbk S e.symm;omega)
      have f4:w4.cell? ⟨g,O+4,none⟩=some (.slice avl h.lines.length cvl):=(World.cell?_of_block (a:=⟨g,O+4,none⟩) e1).trans c4
      have ff: ∀k,w4.frozen? ⟨g,k,none⟩=false:=fun k=>(World.frozen?_of_block (a:=⟨g,k,none⟩) e1).trans (hfz k)
      have hb4:Below S w w4:=((hbe0.drew.trans (hb3.mono (by omega))).alloc (by omega) _).grown hgr (by rw [World.size_alloc];omega) (fun k e=>by have:=hbk k e;omega)
      refine zE (i:=13) (n:=2) f4 (by kernel_rfl) ?_
      refine zX (w':=w4) (v:= .pointer (some ⟨g,O,none⟩)) rfl rfl (by simp [execOp,go_sem,Act.eval,Act.put]) ?_
      refine zE (i:=14) (n:=1) f4 (by kernel_rfl) ?_
      refine zX (w':=w4) (v:= .pointer (some ⟨g,O+4,none⟩)) rfl rfl (by simp [execOp,go_sem,Act.eval,Act.put]) ?_
      refine zE (i:=15) (n:=0) f4 (by kernel_rfl) ?_
      refine xv (w':=w4.setCell ⟨g,O+4,none⟩ (.slice (some ⟨g',0,none⟩) (h.lines.length+1) cap')) rfl rfl ?_ ?_
      ·simp [execOp,go_sem,Act.eval,Act.put,f4,ff]
      have hfin: ∃v' hv',RdM S (lnNext st c r) v' hv' (w4.setCell ⟨g,O+4,none⟩ (.slice (some ⟨g',0,none⟩) (h.lines.length+1) cap')):=by
       refine ⟨.slice (some ⟨g,0,none⟩) (i1.length+1) cap,i1++ [({ h with lines:=h.lines++ [kV c r] },.slice (some ⟨g',0,none⟩) (h.lines.length+1) cap')],?_,?_,?_⟩
       ·rw [hnx2.out]
        show _=some (Obj.cells #[.slice (some ⟨g,0,none⟩) (i1.length+1) cap,.int .i64 (st.en:Int),.int .i64 st.gr,.int .i64 (F2.toNat:Int),.int .i64 (T2.toNat:Int),.bool B2] 88 (0,0))
        rw [hF2.out.1,hF2.out.2]
        exact ((zd _ g S _ _ (by omega)).trans e2).trans hS0
       ·refine .inr ⟨g,cap,by simp,hgb,?_⟩
        have hlen:(i1++ [(({ h with lines:=h.lines++ [kV c r] } :zx),Value.slice (some ⟨g',0,none⟩) (h.lines.length+1) cap')]).length=i1.length+1:=by simp
        rw [hlen]
        refine YA (s:=kV c r) hsv0 (by rw [hls.out];exact hown') e3 ?_ (zc _ _ _ _) ?_
        ·rcases hnew with hn | hn
         ·exact .inl hn
         ·exact .inr fun k e=>by have h1:=hn k e;rw [World.size_alloc] at h1;omega
        intro cu hcu htk
        obtain ⟨cu',k1,k2,k3⟩:=TE (o1:=O+4) (v1:= .slice (some ⟨g',0,none⟩) (h.lines.length+1) cap') hcu ((i1.length+1)*5)
        refine ⟨cu',k1,k2,?_⟩
        obtain ⟨G0,G1,G2,G3,G4⟩:=G.out
        rw [k3,hO,htk,yK G0,yK G1,yK G2,yK G3]
       ·rw [List.map_append,him,hnx2.out]
        rfl
      have hfinH:Hid _:=hfin
      have hbF:=hb4.setCell (p:=⟨g,O+4,none⟩) (by show S<=g;omega) (.slice (some ⟨g',0,none⟩) (h.lines.length+1) cap')
      have hI5w:(w4.setCell ⟨g,O+4,none⟩ (.slice (some ⟨g',0,none⟩) (h.lines.length+1) cap')).heap.size=w4.heap.size:=by simp
      refine ql (by kernel_rfl) (by kernel_rfl) ?_
      clear hfin hsv0 hvl hvl3 hown' hS0
      generalize w4.setCell ⟨g,O+4,none⟩ (.slice (some ⟨g',0,none⟩) (h.lines.length+1) cap')=WF at *
      go_wp2_with fail
      refine bodyPost_ret (v:= .bool true) ?_ rfl ?_
      ·simp [results,results35,go_sem]
      ·first | exact ⟨rfl,hfinH.out,hbF⟩ | exact ⟨rfl,fun st' h=>Option.some.inj h ▸ hfinH.out,hbF⟩
def xS:Rd->List (List UInt8)->Nat->Nat×Option Rd
 | st,[],i=>(i,some st)
 | st,l::r,i=>match rdStep st l with
   | none=>(i,none)
   | some st'=>xS st' r (i+1)
def JX (whole:Bool):Nat×Option Rd->List zx×Nat×Int
 | (i,none)=>([],i,4)
 | (n,some st)=>if (whole && st.endB)=true then (st.hs,0,0) else ([],n,4)
def xP (st:Rd) (t:List UInt8) (i:Nat):List zx×Nat×Int:=JX (yI t).2.isEmpty (xS st (yI t).1 i)
def readA (s:ByteArray):List zx×Nat×Int:=if 20000<s.size then ([],0,1) else xP Rd.start s.data.toList 0
theorem Qe: ∀(l:List UInt8) (acc:List (List UInt8)) (cur:List UInt8),l.foldl xi (acc,cur)=(acc++(l.foldl xi ([],cur)).1,(l.foldl xi ([],cur)).2)
 | [],acc,cur=>by simp
 | c::l,acc,cur=>by
   simp only [List.foldl_cons]
   by_cases hc:c=10
   ·have e1:xi (acc,cur) c=(acc++ [cur],[]):=by simp [xi,hc]
    have e2:xi ([],cur) c=([cur],[]):=by simp [xi,hc]
    rw [e1,e2,Qe l (acc++ [cur]) [],Qe l [cur] []]
    simp
   ·have e1:xi (acc,cur) c=(acc,cur++ [c]):=by simp [xi,hc]
    have e2:xi ([],cur) c=([],cur++ [c]):=by simp [xi,hc]
    rw [e1,e2,Qe l acc (cur++ [c])]
theorem Xu: ∀(l:List UInt8) (cur:List UInt8),(10:UInt8) ∉ l->l.foldl xi ([],cur)=([],cur++l)
 | [],cur,_=>by simp
 | c::l,cur,h=>by
   have hc:c≠10:=fun e=>h (by simp [e])
   have e2:xi ([],cur) c=([],cur++ [c]):=by simp [xi,hc]
   rw [List.foldl_cons,e2,Xu l (cur++ [c]) (fun hm=>h (by simp [hm]))]
   simp
theorem JJ {t:List UInt8} (h:(10:UInt8) ∉ t):yI t=([],t):=by
 unfold yI;rw [Xu t [] h];simp
theorem Gb {a b:List UInt8} (h:(10:UInt8) ∉ a):yI (a++ [10]++b)=(a::(yI b).1,(yI b).2):=by
 unfold yI
 rw [List.foldl_append,List.foldl_append,Xu a [] h]
 have e: [(10:UInt8)].foldl xi ([],[]++a)=([a],[]):=by simp [xi]
 rw [e,Qe b [a] []]
 rfl
theorem cut10 (t:List UInt8):(∃a b,Lib.cut t [10]=(a,b,true)/\t=a++ [10]++b/\(10:UInt8) ∉ a)\/(Lib.cut t [10]=(t,[],false)/\(10:UInt8) ∉ t):=by
 by_cases h:(10:UInt8)∈t
 ·left
  have key: ∀t:List UInt8,(10:UInt8)∈t-> ∃a b,t=a++10::b/\(10:UInt8) ∉ a:=by
   intro t
   induction t with
   | nil=>intro h;simp at h
   | cons c t ih=>
     intro h
     by_cases hc:c=10
     ·exact ⟨[],t,by simp [hc],by simp⟩
     ·rcases List.mem_cons.1 h with e | e
      ·exact absurd e.symm hc
      ·obtain ⟨a,b,e1,e2⟩:=ih e
       refine ⟨c::a,b,by rw [e1];rfl,?_⟩
       rw [List.mem_cons]
       rintro (e | e)
       ·exact hc e.symm
       ·exact e2 e
  obtain ⟨a,b,e,hn⟩:=key t h
  refine ⟨a,b,?_,by rw [e];simp,hn⟩
  have:=UK (a:=a) (b:=b) (sep:= [10]) rfl hn
  rw [e,<-this]
  simp
 ·right
  refine ⟨?_,h⟩
  exact Db (sep:= [10]) rfl h
theorem FZ (st:Rd) (i:Nat):xP st [] i=if st.endB=true then (st.hs,0,0) else ([],i,4):=by
 unfold xP
 rw [JJ (by simp)]
 simp [xS,JX]
theorem GA {t:List UInt8} (st:Rd) (i:Nat) (h0:t≠ []) (h:(10:UInt8) ∉ t):xP st t i=([],i,4):=by
 unfold xP
 rw [JJ h]
 have:t.isEmpty=false:=by cases t with | nil=>exact absurd rfl h0 | cons a t=>rfl
 simp [xS,JX,this]
theorem UY {a b:List UInt8} (st:Rd) (i:Nat) (h:(10:UInt8) ∉ a):xP st (a++ [10]++b) i=match rdStep st a with
 | none=>([],i,4)
 | some st'=>xP st' b (i+1):=by
 unfold xP
 rw [Gb h]
 simp only [xS]
 cases rdStep st a with
 | none=>rfl
 | some st'=>rfl
theorem HSo.zero {base:Nat} {w:World} :HSo base (.slice none 0 0) [] w:= .inl ⟨rfl,rfl⟩
theorem Pj {s:ByteArray} {w:World} (hs4:s.size<=4000000000) (hg:yr w):
 Calls prog 17 #[.string s] w fun e w'=> ∃al cl hv,e= .returned (.tuple #[.agg #[.slice al hv.length cl],.int .i64 ((readA s).2.1:Nat),.int .i64 (readA s).2.2])/\HSo w.heap.size (.slice al hv.length cl) hv w'/\hv.map (·.1)=(readA s).1/\Below w.heap.size w w':=by
 have hP:=heap_alloc_new w (.cells #[.slice none 0 0] 32)
 by_cases hbig:20000<s.size
 ·have hA:readA s=([],0,1):=by unfold readA;rw [if_pos hbig]
  rw [hA]
  have hbI:(20000:Int)<s.size:=by omega
  have p0:(w.alloc (.cells #[.slice none 0 0] 32)).cell? ⟨w.heap.size,0,none⟩=some (.slice none 0 0):=za hP rfl
  have pf: ∀k,(w.alloc (.cells #[.slice none 0 0] 32)).frozen? ⟨w.heap.size,k,none⟩=false:=fun k=>zi hP
  have hb:=(Below.refl w.heap.size w).alloc (Nat.le_refl _) (.cells #[.slice none 0 0] 32)
  clear hA
  go_enter func17,ntmps17
  go_wp2_with fail
  generalize w.alloc (.cells #[.slice none 0 0] 32)=W at *
  refine bodyPost_ret (v:= .tuple #[.agg #[.slice none 0 0],.int .i64 0,.int .i64 1]) ?_ rfl ⟨none,0,[],rfl,HSo.zero,rfl,hb⟩
  simp [results,results17,go_sem,p0]
 ·have hA:readA s=xP Rd.start s.data.toList 0:=by unfold readA;rw [if_neg hbig]
  rw [hA]
  have hb:=((Below.refl w.heap.size w).alloc (Nat.le_refl _) (.cells #[.slice none 0 0] 32)).alloc (by simp) (kh (.slice none 0 0) 0 0 0 0 false)
  have hU:=heap_alloc_new (w.alloc (.cells #[.slice none 0 0] 32)) (kh (.slice none 0 0) 0 0 0 0 false)
  rw [World.size_alloc] at hU
  have hP2:=(Below.heap_alloc (w.alloc (.cells #[.slice none 0 0] 32)) (kh (.slice none 0 0) 0 0 0 0 false) w.heap.size (by simp)).trans hP
  have hR0:RdM (w.heap.size+1) Rd.start (.slice none 0 0) [] ((w.alloc (.cells #[.slice none 0 0] 32)).alloc (kh (.slice none 0 0) 0 0 0 0 false)):=⟨hU,.inl ⟨rfl,rfl⟩,rfl⟩
  have hng: ¬(20000:Int)<(s.size:Int):=by omega
  have hsl:Hid (s=⟨s.data.toList.toArray⟩):=by show _=_;simp
  have hs2:s.data.toList.length<=20000:=by show s.size<=_;omega
  clear hP hU hA
  generalize s.data.toList=L at *
  go_enter func17,ntmps17
  go_wp2_with fail
  generalize (w.alloc (.cells #[.slice none 0 0] 32)).alloc (kh (.slice none 0 0) 0 0 0 0 false)=W at *
  go_loopg [0,6] L.length (fun g t a wr=> ∃(m:Nat) (tx:List UInt8) (st:Rd) (v:Value) (hv:List HV),g=tx.length/\tx.length+m<=20000/\t= .string ⟨tx.toArray⟩/\a= .int .i64 (m:Nat)/\Hid (xP Rd.start L 0=xP st tx m)/\Hid (Bi m st)/\RdM (w.heap.size+1) st v hv wr/\wr.heap[w.heap.size]? =some (.cells #[.slice none 0 0] 32 (0,0))/\Below w.heap.size w wr)
  case atStart=>exact ⟨0,L,Rd.start,_,_,rfl,by omega,congrArg Value.string hsl.out,rfl,rfl,Bi.start,hR0,hP2,hb⟩
  case round=>
   obtain ⟨m,tx,st,v,hv,hgk,hlen,rfl,rfl,hC,hB,hR,hP,hbel⟩:=hrel
   have hG:Hid (_=tx.length):=hgk
   clear hgk hR0 hP2 hb
   have hgw:=hg.below hbel hg.sz hbel.size
   have hsw:=hbel.size
   have hlt:=hR.lt
   have hP0:wr.cell? ⟨w.heap.size,0,none⟩=some (.slice none 0 0):=za hP rfl
   have hPf: ∀k,wr.frozen? ⟨w.heap.size,k,none⟩=false:=fun k=>zi hP
   have hPk:Hid (∀w1,Below wr.heap.size wr w1->w1.heap[w.heap.size]? =some (.cells #[.slice none 0 0] 32 (0,0))/\Below w.heap.size w w1/\w.heap.size+1<w1.heap.size):=fun w1 hb1=>⟨(hb1.block w.heap.size (by omega)).trans hP,hbel.trans (hb1.mono (by omega)),by have:=hb1.size;omega⟩
   by_cases ht:tx= []
   ·subst ht
    have hem:(⟨([]:List UInt8).toArray⟩:ByteArray).toList.isEmpty=true:=by rw [Lib.toList_data];rfl
    have hend:=GZ hR
    obtain ⟨av,cv,hve⟩:=hR.hso.len
    subst hve
    have x0:wr.cell? ⟨w.heap.size+1,0,none⟩=some (.slice av hv.length cv):=za (k:=0) hR.blk rfl
    have hso:=hR.hso
    have hhs:Hid (hv.map (·.1)=st.hs):=hR.hs
    have hCn:Hid (xP Rd.start L 0=if st.endB=true then (st.hs,0,0) else ([],m,4)):=by show _=_;rw [hC.out,FZ]
    have hxk:Hid (∀w1,Below wr.heap.size wr w1->w1.cell? ⟨w.heap.size+1,0,none⟩=some (.slice av hv.length cv)/\HSo (w.heap.size+2) (.slice av hv.length cv) hv w1):=fun w1 hb1=>⟨(hb1.cell (p:=⟨w.heap.size+1,0,none⟩) (by show w.heap.size+1<_;omega)).trans x0,hso.below hb1⟩
    clear hR hC hso x0
    generalize (⟨([]:List UInt8).toArray⟩:ByteArray)=sx at *
    cases hE:st.endB with
    | true=>
      rw [hE] at hend
      have hC2:Hid (xP Rd.start L 0=(st.hs,0,0)):=by show _=_;rw [hCn.out,hE];rfl
      clear hCn hE
      go_wp2_with (go_at_call 36;refine hend.mono ?_;rintro e w1 ⟨rfl,hb1⟩;obtain ⟨hP1,hbw1,hsz1⟩:=hPk.out w1 hb1;obtain ⟨x1,hso1⟩:=hxk.out w1 hb1;have q0:w1.cell? ⟨w.heap.size,0,none⟩=some (.slice none 0 0):=za hP1 rfl;have qf: ∀k,w1.frozen? ⟨w.heap.size,k,none⟩=false:=fun k=>zi hP1)
      refine bodyPost_ret (v:= .tuple #[.agg #[.slice av hv.length cv],.int .i64 0,.int .i64 0]) ?_ rfl ⟨av,cv,hv,by rw [hC2.out]<;>rfl,?_,by rw [hC2.out];exact hhs.out,hbw1.setCell (p:=⟨w.heap.size,0,none⟩) (Nat.le_refl _) _⟩
      ·have hq:(w1.setCell ⟨w.heap.size,0,none⟩ (.slice av hv.length cv)).cell? ⟨w.heap.size,0,none⟩=some (.slice av hv.length cv):=za (zb _ _ _ _ _ _ _ hP1) rfl
       simp [results,results17,go_sem,hq]
      ·exact (hso1.kept (zc w1 w.heap.size 0 (.slice av hv.length cv)) (fun k e=>by cases e;exact .inr ⟨_,_,_,hP1,by decide,by decide⟩)).mono (by omega)
    | false=>
      rw [hE] at hend
      have hC2:Hid (xP Rd.start L 0=([],m,4)):=by show _=_;rw [hCn.out,hE];rfl
      clear hCn hE
      go_wp2_with (go_at_call 36;refine hend.mono ?_;rintro e w1 ⟨rfl,hb1⟩;obtain ⟨hP1,hbw1,hsz1⟩:=hPk.out w1 hb1;have q0:w1.cell? ⟨w.heap.size,0,none⟩=some (.slice none 0 0):=za hP1 rfl;have qf: ∀k,w1.frozen? ⟨w.heap.size,k,none⟩=false:=fun k=>zi hP1)
      refine bodyPost_ret (v:= .tuple #[.agg #[.slice none 0 0],.int .i64 (m:Int),.int .i64 4]) ?_ rfl ⟨none,0,[],by rw [hC2.out]<;>rfl,HSo.zero,by rw [hC2.out]<;>rfl,hbw1.setCell (p:=⟨w.heap.size,0,none⟩) (Nat.le_refl _) _⟩
      have hq:(w1.setCell ⟨w.heap.size,0,none⟩ (.slice none 0 0)).cell? ⟨w.heap.size,0,none⟩=some (.slice none 0 0):=za (zb _ _ _ _ _ _ _ hP1) rfl
      simp [results,results17,go_sem,hq]
   ·have hem:(⟨tx.toArray⟩:ByteArray).toList.isEmpty=false:=by
     rw [Lib.toList_data]
     cases tx with
     | nil=>exact absurd rfl ht
     | cons a l=>rfl
    have hcut:=Jj (a:=tx) (sep:= [10]) (by omega) hgw
    rcases cut10 tx with ⟨a,b,he,htx,hna⟩ | ⟨he,hnt⟩
    ·rw [he] at hcut
     have hla:a.length+b.length+1=tx.length:=by rw [htx];simp;omega
     have hln:Hid (∀w1,Below wr.heap.size wr w1->Calls prog 35 #[.pointer (some ⟨w.heap.size+1,0,none⟩),.string ⟨a.toArray⟩] w1 fun e w'=>e= .returned (.bool (rdStep st a).isSome)/\(∀st',rdStep st a=some st'-> ∃v' hv',RdM (w.heap.size+1) st' v' hv' w')/\w'.heap[w.heap.size]? =some (.cells #[.slice none 0 0] 32 (0,0))/\Below w.heap.size w w'):=by
      intro w1 hb1
      refine (Ur (hR.below hb1) hB.out (by omega) (by omega) (hgw.next hb1)).mono ?_
      rintro e w' ⟨rfl,hr,hb'⟩
      exact ⟨rfl,hr,(hb'.block w.heap.size (by omega)).trans ((hb1.block w.heap.size (by omega)).trans hP),(hbel.trans (hb1.mono (by omega))).trans (hb'.mono (by omega))⟩
     have hCl:Hid (xP Rd.start L 0=match rdStep st a with
      | none=>([],m,4)
      | some st'=>xP st' b (m+1)):=by show _=_;rw [hC.out,htx,UY st m hna]
     have hBl:Hid (∀st',rdStep st a=some st'->Bi (m+1) st'):=fun st' h=>hB.out.step (by omega) h
     have hmes:Hid (b.length<tx.length):=by show _<_;omega
     have hlen2:b.length+(m+1)<=20000:=by omega
     generalize (⟨tx.toArray⟩:ByteArray)=sx at *
     generalize (⟨a.toArray⟩:ByteArray)=sa at *
     clear hR hP0 hPf hC he htx ht hna hla hlen
     cases hq:rdStep st a with
     | none=>
       rw [hq] at hln
       have hC2:Hid (xP Rd.start L 0=([],m,4)):=by show _=_;rw [hCl.out,hq]
       clear hq hCl hBl
       go_wp2_with (first | (go_at_call 34;refine hcut.mono ?_;rintro e w1 ⟨rfl,hb1⟩;have hln1:=hln.out w1 hb1) | (go_at_call 35;refine hln1.mono ?_;rintro e w2 ⟨rfl,hr,hP1,hb2⟩;have q0:w2.cell? ⟨w.heap.size,0,none⟩=some (.slice none 0 0):=za hP1 rfl;have qf: ∀k,w2.frozen? ⟨w.heap.size,k,none⟩=false:=fun k=>zi hP1))
       refine bodyPost_ret (v:= .tuple #[.agg #[.slice none 0 0],.int .i64 (m:Int),.int .i64 4]) ?_ rfl ⟨none,0,[],by rw [hC2.out]<;>rfl,HSo.zero,by rw [hC2.out]<;>rfl,hb2.setCell (p:=⟨w.heap.size,0,none⟩) (Nat.le_refl _) _⟩
       have hq:(w2.setCell ⟨w.heap.size,0,none⟩ (.slice none 0 0)).cell? ⟨w.heap.size,0,none⟩=some (.slice none 0 0):=za (zb _ _ _ _ _ _ _ hP1) rfl
       simp [results,results17,go_sem,hq]
     | some st'=>
       have hC2:Hid (xP Rd.start L 0=xP st' b (m+1)):=by show _=_;rw [hCl.out,hq]
       have hB2:Hid (Bi (m+1) st'):=hBl.out st' hq
       have hln2:Hid (∀w1,Below wr.heap.size wr w1->Calls prog 35 #[.pointer (some ⟨w.heap.size+1,0,none⟩),.string sa] w1 fun e w'=>e= .returned (.bool true)/\(∃v' hv',RdM (w.heap.size+1) st' v' hv' w')/\w'.heap[w.heap.size]? =some (.cells #[.slice none 0 0] 32 (0,0))/\Below w.heap.size w w'):=by
        intro w1 hb1
        refine (hln.out w1 hb1).mono ?_
        rintro e w' ⟨rfl,h1,h2,h3⟩
        exact ⟨by rw [hq]<;>rfl,h1 st' hq,h2,h3⟩
       clear hq hCl hBl hln
       go_wp2_with (first | (go_at_call 34;refine hcut.mono ?_;rintro e w1 ⟨rfl,hb1⟩;have hln1:=hln2.out w1 hb1) | (go_at_call 35;refine hln1.mono ?_;rintro e w2 ⟨rfl,⟨v',hv',hr⟩,hP',hb'⟩))
       go_roundg b.length
       ·exact ⟨m+1,b,st',v',hv',rfl,hlen2,rfl,by go_num,hC2.out,hB2.out,hr,hP',hb'⟩
       ·have:=hG.out;have:=hmes.out;omega
    ·rw [he] at hcut
     have hC2:Hid (xP Rd.start L 0=([],m,4)):=by show _=_;rw [hC.out,GA st m ht hnt]
     generalize (⟨tx.toArray⟩:ByteArray)=sx at *
     clear hR hC he ht hnt
     go_wp2_with (go_at_call 34;refine hcut.mono ?_;rintro e w1 ⟨rfl,hb1⟩;obtain ⟨hP1,hbw1,hsz1⟩:=hPk.out w1 hb1;have q0:w1.cell? ⟨w.heap.size,0,none⟩=some (.slice none 0 0):=za hP1 rfl;have qf: ∀k,w1.frozen? ⟨w.heap.size,k,none⟩=false:=fun k=>zi hP1)
     refine bodyPost_ret (v:= .tuple #[.agg #[.slice none 0 0],.int .i64 (m:Int),.int .i64 4]) ?_ rfl ⟨none,0,[],by rw [hC2.out]<;>rfl,HSo.zero,by rw [hC2.out]<;>rfl,hbw1.setCell (p:=⟨w.heap.size,0,none⟩) (Nat.le_refl _) _⟩
     have hq:(w1.setCell ⟨w.heap.size,0,none⟩ (.slice none 0 0)).cell? ⟨w.heap.size,0,none⟩=some (.slice none 0 0):=za (zb _ _ _ _ _ _ _ hP1) rfl
     simp [results,results17,go_sem,hq]
end Go.Proofs.YtcclgodahlinbaaGreatDoor
