import Derived.Test.YtcclgodahlinbaaGreatDoorA07
namespace Go.Proofs.YtcclgodahlinbaaGreatDoor
set_option maxHeartbeats 16000000
open Tryz Go.RowKit Go
set_option maxRecDepth 100000
def jB (l:List zx) (j:Nat):List zx:=(l.take j).map zV++l.drop j
theorem Kr (l:List zx):jB l 0=l:=by simp [jB]
theorem WN (l:List zx):jB l l.length=l.map zV:=by simp [jB]
theorem qL (l:List zx) (j:Nat):(jB l j).length=l.length:=by simp [jB];omega
theorem WK (l:List zx) (j:Nat) (h:j<l.length):(jB l j)[j]'(by rw [qL];exact h)=l[j]:=by
 simp [jB,Nat.min_eq_left (Nat.le_of_lt h)]
theorem JS (l:List zx) (j:Nat) (h:j<l.length):(jB l j).set j (zV l[j])=jB l (j+1):=by
 apply List.ext_getElem?
 intro t
 unfold jB
 rw [List.getElem?_set]
 by_cases e:j=t
 ·subst e
  rw [if_pos rfl,if_pos (by simp;omega),List.getElem?_append_left (by simp;omega)]
  simp [h]
 ·rw [if_neg e]
  by_cases c:t<j
  ·rw [List.getElem?_append_left (by simp;omega),List.getElem?_append_left (by simp;omega)]
   simp [c,show t<j+1 by omega]
  ·rw [List.getElem?_append_right (by simp;omega),List.getElem?_append_right (by simp;omega)]
   simp only [List.length_map,List.length_take,List.getElem?_drop,Nat.min_eq_left (Nat.le_of_lt h),Nat.min_eq_left (show j+1<=l.length from h)]
   congr 1;omega
theorem Uc {cap:Nat} {a:Option Addr} {L:List zk} {w:World} (c:Nat) (hS:zJ w.heap.size w (.slice a L.length cap) L) (hc:c<=10) (hL:L.length<=1000) (hk: ∀s∈L,s.kind=32\/s.kind=45\/s.kind=43) (hT: ∀s∈L,s.text.size<=281474976710656):
 Calls prog 27 #[.slice a L.length cap,.int .i64 c] w fun e w'=>
  ∃v,e= .returned v/\ ∃hv,HSo w.heap.size v hv w'/\hv.map (·.1)=jj L c/\Below w.heap.size w w':=by
 obtain ⟨i0,hi,hz0,hz1,hz2⟩:=info_parts qk
 have hnr:=Dv (w:=w) c hS hc hL
 generalize hNB:kU L c=NB at hnr
 have hNl:NB.length=L.length:=by rw [<-hNB];simp [kU]
 have hM:Hid (jj L c=(foldH L NB L.length).hs.map zV):=by unfold Hid jj;rw [hNB]
 have hNl':Hid (NB.length=L.length):=hNl
 clear hNB hNl
 go_enter func27,ntmps27
 go_wp2_with (go_at_call 56;refine hnr.mono ?_;rintro e w1 ⟨rfl,hrow1,hb1⟩)
 have hsz1:w.heap.size<w1.heap.size:=(hrow1.lt _ rfl).2
 have hS1:=hS.below hb1
 go_loopg [5,7,8,17] L.length (fun g v t7 t8 t wr=> ∃(k:Nat) (hv:List HV),g=L.length-k/\k<=L.length/\t= .int .i64 k/\t7= .int .i64 (foldH L NB k).og/\t8= .int .i64 (foldH L NB k).fg/\HSo w1.heap.size v hv wr/\hv.map (·.1)=(foldH L NB k).hs/\Below w1.heap.size w1 wr)
 case atStart=>exact ⟨0,[],by omega,by omega,rfl,rfl,rfl,.inl ⟨rfl,rfl⟩,rfl,Below.refl _ _⟩
 case round=>
  obtain ⟨k,hv,hgk,hkl,rfl,rfl,rfl,hso,hmap,hbel⟩:=hrel
  obtain ⟨q1,q2,q3,q4,q5⟩:=qY L NB k
  have hsz:=hbel.size
  by_cases hlt:k<L.length
  ·have hltI:(k:Int)<L.length:=by omega
   obtain ⟨b,rfl,hbB,r0,r1⟩:=(hS1.below (hbel.mono (by omega))).at hlt
   have hbc:=(hbel.cell (p:=⟨w.heap.size,k,none⟩) hsz1).trans (jJ hrow1 (i:=k) (by have:=hNl'.out;omega))
   have hkk:=hk _ (List.getElem_mem hlt)
   have hTT:=hT _ (List.getElem_mem hlt)
   have hfold:=kw (nb:=NB) hlt
   obtain ⟨s,hs⟩: ∃s,L[k]=s:=⟨_,rfl⟩
   rw [hs] at r0 r1 hkk hTT hfold
   clear hs
   have hmap':Hid (hv.map (·.1)=(foldH L NB k).hs):=hmap
   clear hmap
   generalize hF:foldH L NB k=F at *
   have hq5:Hid (0<k->NB.getD (k-1) false=true->hv≠ []):=fun h1 h2 h3=>by
    subst h3
    exact q5 h1 (by omega) h2 (by have:=hmap'.out;simpa using this.symm)
   have hq4:Hid (∀p∈hv,p.1.fc<=1000/\p.1.tc<=1000/\p.1.lines.length<=1000):=by
    intro p hp
    have:=q4 p.1 (by rw [<-hmap'.out];exact List.mem_map_of_mem hp)
    omega
   have hvl:hv.length<=1000:=by
    have:=hmap'.out
    have e:(hv.map (·.1)).length=F.hs.length:=by rw [this]
    rw [List.length_map] at e;omega
   generalize hnb:NB.getD k false=nb at hbc hfold
   have hfold':Hid (foldH L NB (k+1)=_):=hfold
   clear hF hfold hnb q4 q5
   obtain ⟨og,hog⟩: ∃og,F.og=og:=⟨_,rfl⟩
   obtain ⟨fg,hfg⟩: ∃fg,F.fg=fg:=⟨_,rfl⟩
   have hog':Hid (F.og=og/\F.fg=fg):=⟨hog,hfg⟩
   rw [hog] at q1
   rw [hfg] at q2
   rw [hog,hfg]
   clear hog hfg
   have hwr:w.heap.size<wr.heap.size:=by omega
   go_upto_if 25 with fail
   have hso1:=hso.alloc (.cells #[.int .u8 (s.kind:Int),.string s.text] 120)
   have hbel1:=hbel.alloc hsz (.cells #[.int .u8 (s.kind:Int),.string s.text] 120)
   have hBx:=heap_alloc_new wr (.cells #[.int .u8 (s.kind:Int),.string s.text] 120)
   have hzz:(wr.alloc (.cells #[.int .u8 (s.kind:Int),.string s.text] 120)).heap.size=wr.heap.size+1:=by simp
   generalize hB:wr.heap.size=B at *
   generalize wr.alloc (.cells #[.int .u8 (s.kind:Int),.string s.text] 120)=wa at *
   clear hso hbel hB r0 r1 hbc
   go_cut [5,17] from 18 to 59 (fun v' t wc=> ∃hv',t= .int .i64 k/\HSo w1.heap.size v' hv' wc/\hv'.map (·.1)=xQ nb (decide (0<k) && NB.getD (k-1) false) s F/\Below w1.heap.size w1 wc/\wc.heap[B]? =some (.cells #[.int .u8 (s.kind:Int),.string s.text] 120 (0,0)))
   case first=>
    cases nb with
    | false=>
      go_wp2
      go_meet
      case rel=>exact ⟨hv,rfl,hso1,by rw [hmap'.out];simp [xQ],hbel1,hBx⟩
    | true=>
      have hbase1:w1.heap.size<=wa.heap.size:=hbel1.size
      have hadd:Hid (∀(wx:World) (g n cap:Nat) (init:List HV) (h:zx) (vl:Value),HSv w1.heap.size g n cap (init++ [(h,vl)]) wx->w1.heap.size<=g->h.fc<=1000->h.tc<=1000->h.lines.length<=1000->Below w1.heap.size w1 wx->wx.heap[B]? =some (.cells #[.int .u8 (s.kind:Int),.string s.text] 120 (0,0))->
       Calls prog 57 #[.pointer (some ⟨g,init.length*5,none⟩),.agg #[.int .u8 (s.kind:Int),.string s.text]] wx.drew fun e w'=>e= .returned (.tuple #[])/\ ∃hv',HSo w1.heap.size (.slice (some ⟨g,0,none⟩) n cap) hv' w'/\hv'.map (·.1)=init.map (·.1)++ [xp h s]/\Below w1.heap.size w1 w'/\w'.heap[B]? =some (.cells #[.int .u8 (s.kind:Int),.string s.text] 120 (0,0))):=by
       intro wx g n cap init h vl hsv hg f1 f2 f3 hb hB
       refine (UO s (w:=wx.drew) ⟨hsv.len,hsv.row,hsv.lines,hsv.apart⟩ hb.size hg hkk f1 f2 f3 hTT).mono ?_
       rintro e w' ⟨rfl,vl',hs',hb',hk'⟩
       refine ⟨rfl,init++ [(xp h s,vl')],.inr ⟨g,cap,?_,hg,?_⟩,by simp,hb.trans (Below.of_drew hb'),?_⟩
       ·rw [<-hs'.len]
       ·rw [<-hs'.len];exact hs'
       ·rw [<-hB]
        have hlB:B<wx.heap.size:=(Array.getElem?_eq_some_iff.1 hB).1
        refine hk' B hlB ?_ ?_
        ·intro e
         obtain ⟨c1,h1⟩:=ze hsv.row (g:=g) rfl
         rw [<-e,hB] at h1
         cases h1
        ·intro e
         obtain ⟨c1,h1⟩:=ze (hsv.lines (h,vl) (by simp)) e.symm
         rw [hB] at h1
         cases h1
      have hnew:Hid (∀(wx:World) (g' cap':Nat) (ob:Obj),wx.ownsRow w1.heap.size 61 5 (.slice (some ⟨g',0,none⟩) (hv.length+1) cap') (hv.length+1) (hunkCells hv++ [.int .i64 (og:Int),.int .i64 0,.int .i64 (fg:Int),.int .i64 0,.slice none 0 0])->(wa.alloc ob).grownBy wx u5.ownBlock->w1.heap.size<=g'->
        HSv w1.heap.size g' (hv.length+1) cap' (hv++ [(yp og fg,.slice none 0 0)]) wx/\Below w1.heap.size w1 wx/\wx.heap[B]? =some (.cells #[.int .u8 (s.kind:Int),.string s.text] 120 (0,0))):=by
       intro wx g' cap' ob h1 h2 h3
       have hp:=hso1.push (yp og fg) rfl h2 h1
       have hlB:B<wa.heap.size:=by omega
       refine ⟨by simpa using hp,(hbel1.alloc hbase1 ob).grown h2 (by simp;omega) (fun j e=>(hso1.owns.lt j e).1),?_⟩
       rw [h2.block B (by simp;omega) ?_]
       ·exact (Below.heap_alloc wa ob B hlB).trans hBx
       ·intro e
        obtain ⟨c1,h1⟩:=ze hso1.owns e.symm
        rw [hBx] at h1
        cases h1
      have hone: ∀u∈ [Value.int .i64 (og:Int),.int .i64 0,.int .i64 (fg:Int),.int .i64 0,.slice none 0 0],u.oneCell'=true:=by intro u hu;simp at hu;rcases hu with rfl | rfl | rfl | rfl | rfl<;>rfl
      have hm1:hv.length+1<=maxLen:=by unfold maxLen;omega
      have hm2:(hv.length+1)*56<=140737488355328:=by omega
      have hbs: ∀ob,w1.heap.size<=(wa.alloc ob).heap.size:=by intro ob;simp;omega
      have hwv:IntKind.i64.wrap (hv.length:Int)=hv.length:=by rw [IntKind.wrap_i64];omega
      have hix:(hv.length:Int)<((hv.length+1:Nat):Int):=by omega
      have hix2:(hv.length:Int)<(hv.length:Int)+1:=by omega
      have hzz':Hid (wa.heap.size=B+1):=hzz
      have hso2:=hso1.owns
      clear hzz
      by_cases hk0:k=0
      ·subst hk0
       have hst:Hid (xQ true (decide (0<0) && NB.getD (0-1) false) s F=hv.map (·.1)++ [xp (yp og fg) s]):=by
        unfold Hid xQ;rw [hmap'.out,hog'.out.1,hog'.out.2];simp [xG]
       go_wp2_with (at_builtin;refine wpList_append_own _ rfl (.tmp 36) (.tmp 40) 30 rfl w1.heap.size 61 i0 _ 5 56 underlying30 hi hz0 hz1 hz2 rfl (by decide) u5 hv.length (hunkCells hv) rfl (hso2.alloc _) ⟨wa.heap.size,0,none⟩ 1 1 [.int .i64 (og:Int),.int .i64 0,.int .i64 (fg:Int),.int .i64 0,.slice none 0 0] rfl rfl (zt wa _ _) hone hm1 hm2 (hbs _) ?_;intro v' w2 hown' hgrow _;obtain ⟨g',cap',rfl,hg',_⟩:=zv hown' (Nat.succ_pos _))
       obtain ⟨hs2,hb2,hBx2⟩:=hnew.out w2 g' cap' _ hown' hgrow hg'
       have z0:w2.cell? ⟨B,0,none⟩=some (.int .u8 (s.kind:Int)):=za hBx2 rfl
       have z1:w2.cell? ⟨B,1,none⟩=some (.string s.text):=za hBx2 rfl
       have hA:=hadd.out w2 g' (hv.length+1) cap' hv (yp og fg) _ hs2 hg' (by simp [yp]) (by simp [yp]) (by simp [yp]) hb2 hBx2
       refine zK 6 yg (by kernel_rfl) ?_
       simp only [List.take_succ_cons,List.take_zero,List.drop_succ_cons,List.drop_zero]
       repeat still_step
       refine wpStill_nil ?_
       go_wp2_with (go_at_call 57;refine hA.mono ?_;rintro e w3 ⟨rfl,hv3,ho3,hmm3,hb3,hx3⟩)
       go_meet
       case rel=>exact ⟨hv3,rfl,ho3,by rw [hmm3];exact hst.out.symm,hb3,hx3⟩
      ·have hkI:(((k:Nat):Int)==0)=false:=by rw [beq_eq_false_iff_ne];omega
       have hpc:=(hbel1.cell (p:=⟨w.heap.size,k-1,none⟩) hsz1).trans (jJ hrow1 (i:=k-1) (by have:=hNl'.out;omega))
       generalize hpb:NB.getD (k-1) false=pb at hpc
       have hk1:((k:Int)-1)=((k-1:Nat):Int):=by omega
       have hk1b:((k-1:Nat):Int)<L.length:=by omega
       have hk1c:((k:Int)-1).toNat=k-1:=by omega
       have hk1d:((k:Int)-1)<L.length:=by omega
       have hk1e:0<=((k:Int)-1):=by omega
       cases pb with
       | false=>
         have hst:Hid (xQ true (decide (0<k) && NB.getD (k-1) false) s F=hv.map (·.1)++ [xp (yp og fg) s]):=by
          unfold Hid xQ;rw [hpb,hmap'.out,hog'.out.1,hog'.out.2];simp [xG]
         clear hpb
         go_wp2_with (at_builtin;refine wpList_append_own _ rfl (.tmp 36) (.tmp 40) 30 rfl w1.heap.size 61 i0 _ 5 56 underlying30 hi hz0 hz1 hz2 rfl (by decide) u5 hv.length (hunkCells hv) rfl (hso2.alloc _) ⟨wa.heap.size,0,none⟩ 1 1 [.int .i64 (og:Int),.int .i64 0,.int .i64 (fg:Int),.int .i64 0,.slice none 0 0] rfl rfl (zt wa _ _) hone hm1 hm2 (hbs _) ?_;intro v' w2 hown' hgrow _;obtain ⟨g',cap',rfl,hg',_⟩:=zv hown' (Nat.succ_pos _))
         obtain ⟨hs2,hb2,hBx2⟩:=hnew.out w2 g' cap' _ hown' hgrow hg'
         have z0:w2.cell? ⟨B,0,none⟩=some (.int .u8 (s.kind:Int)):=za hBx2 rfl
         have z1:w2.cell? ⟨B,1,none⟩=some (.string s.text):=za hBx2 rfl
         have hA:=hadd.out w2 g' (hv.length+1) cap' hv (yp og fg) _ hs2 hg' (by simp [yp]) (by simp [yp]) (by simp [yp]) hb2 hBx2
         refine zK 6 yg (by kernel_rfl) ?_
         simp only [List.take_succ_cons,List.take_zero,List.drop_succ_cons,List.drop_zero]
         repeat still_step
         refine wpStill_nil ?_
         go_wp2_with (go_at_call 57;refine hA.mono ?_;rintro e w3 ⟨rfl,hv3,ho3,hmm3,hb3,hx3⟩)
         go_meet
         case rel=>exact ⟨hv3,rfl,ho3,by rw [hmm3];exact hst.out.symm,hb3,hx3⟩
       | true=>
         have hne:=hq5.out (by omega) hpb
         have hin: ∃init h vl,hv=init++ [(h,vl)]:=⟨hv.dropLast,(hv.getLast hne).1,(hv.getLast hne).2,(List.dropLast_concat_getLast hne).symm⟩
         obtain ⟨init,h,vl,rfl⟩:=hin
         have hst:Hid (xQ true (decide (0<k) && NB.getD (k-1) false) s F=init.map (·.1)++ [xp h s]):=by
          unfold Hid xQ
          rw [hpb,<-hmap'.out]
          have:decide (0<k)=true:=by simp;omega
          simp [this,xG]
         have hq:=hq4.out (h,vl) (by simp)
         rcases hso1 with ⟨e,_⟩ | ⟨g,cap1,rfl,hg,hsv⟩
         ·simp at e
         ·have hA:=hadd.out wa g _ cap1 init h vl hsv hg hq.1 hq.2.1 hq.2.2 hbel1 hBx
          have z0:wa.cell? ⟨B,0,none⟩=some (.int .u8 (s.kind:Int)):=za hBx rfl
          have z1:wa.cell? ⟨B,1,none⟩=some (.string s.text):=za hBx rfl
          have hil:(init++ [(h,vl)]).length=init.length+1:=by simp
          rw [hil] at hA hvl
          have hwv2:IntKind.i64.wrap (init.length:Int)=init.length:=by rw [IntKind.wrap_i64];omega
          have hix3:(init.length:Int)<((init.length+1:Nat):Int):=by omega
          have hix4:(init.length:Int)<(init.length:Int)+1:=by omega
          clear hwv hix hix2
          clear hpb hq hmap' hq4 hq5 hnew hso2 hsv
          rw [hil]
          go_wp2_with fail
          refine zK 6 yg (by kernel_rfl) ?_
          simp only [List.take_succ_cons,List.take_zero,List.drop_succ_cons,List.drop_zero]
          repeat still_step
          refine wpStill_nil ?_
          go_wp2_with (go_at_call 57;refine hA.mono ?_;rintro e w3 ⟨rfl,hv3,ho3,hmm3,hb3,hx3⟩)
          go_meet
          case rel=>exact ⟨hv3,rfl,ho3,by rw [hmm3];exact hst.out.symm,hb3,hx3⟩
   case rest=>
    obtain ⟨hv',rfl,ho2,hm2,hb2,hx2⟩:=hcut
    have z0:wc.cell? ⟨B,0,none⟩=some (.int .u8 (s.kind:Int)):=za hx2 rfl
    have hfin:Hid (∀(o1 f1:Nat),o1=og+(if s.kind=43 then 0 else 1)->f1=fg+(if s.kind=45 then 0 else 1)->(foldH L NB (k+1)).og=o1/\(foldH L NB (k+1)).fg=f1/\hv'.map (·.1)=(foldH L NB (k+1)).hs):=by
     intro o1 f1 h1 h2
     rw [hfold'.out]
     simp only
     rw [hog'.out.1,hog'.out.2]
     exact ⟨h1.symm,h2.symm,hm2⟩
    clear hso1 hbel1 hBx hm2 hmap' hq4 hq5 hfold'
    rcases hkk with hkk | hkk | hkk
    ·have z1:wc.cell? ⟨B,0,none⟩=some (.int .u8 32):=by rw [z0,hkk];rfl
     clear z0
     have hF:=hfin.out (og+1) (fg+1) (by simp [hkk]) (by simp [hkk])
     have hF':Hid _:=hF
     clear hF hkk hfin
     go_wp2
     go_roundg (L.length-(k+1))
     case measure=>omega
     case rel=>exact ⟨k+1,hv',rfl,by omega,by go_num,by rw [hF'.out.1];go_num,by rw [hF'.out.2.1];go_num,ho2,hF'.out.2.2,hb2⟩
    ·have z1:wc.cell? ⟨B,0,none⟩=some (.int .u8 45):=by rw [z0,hkk];rfl
     clear z0
     have hF:=hfin.out (og+1) fg (by simp [hkk]) (by simp [hkk])
     have hF':Hid _:=hF
     clear hF hkk hfin
     go_wp2
     go_roundg (L.length-(k+1))
     case measure=>omega
     case rel=>exact ⟨k+1,hv',rfl,by omega,by go_num,by rw [hF'.out.1];go_num,by rw [hF'.out.2.1],ho2,hF'.out.2.2,hb2⟩
    ·have z1:wc.cell? ⟨B,0,none⟩=some (.int .u8 43):=by rw [z0,hkk];rfl
     clear z0
     have hF:=hfin.out og (fg+1) (by simp [hkk]) (by simp [hkk])
     have hF':Hid _:=hF
     clear hF hkk hfin
     go_wp2
     go_roundg (L.length-(k+1))
     case measure=>omega
     case rel=>exact ⟨k+1,hv',rfl,by omega,by go_num,by rw [hF'.out.1],by rw [hF'.out.2.1];go_num,ho2,hF'.out.2.2,hb2⟩
  ·have hltI: ¬((k:Int)<L.length):=by omega
   have hkn:k=L.length:=by omega
   have hF:Hid (jj L c=(foldH L NB k).hs.map zV):=by unfold Hid;rw [hkn];exact hM.out
   clear hkn
   generalize foldH L NB k=F at *
   obtain ⟨og,hog⟩: ∃og,F.og=og:=⟨_,rfl⟩
   obtain ⟨fg,hfg⟩: ∃fg,F.fg=fg:=⟨_,rfl⟩
   rw [hog,hfg]
   clear hog hfg hM
   have hq4:Hid (∀h∈F.hs,h.fr<=100000/\h.tr<=100000):=fun h hh=>by have:=q4 h hh;omega
   have hmap':Hid (hv.map (·.1)=F.hs):=hmap
   have hvl:hv.length=F.hs.length:=by rw [<-hmap,List.length_map]
   have hvl':Hid (hv.length=F.hs.length):=hvl
   have hvb:hv.length<=1000:=by omega
   have hsl: ∃a1 c1,u5= .slice a1 hv.length c1:=by
    rcases hso with ⟨rfl,rfl⟩ | ⟨g,c1,rfl,_⟩
    ·exact ⟨_,_,rfl⟩
    ·exact ⟨_,_,rfl⟩
   obtain ⟨a1,c1,rfl⟩:=hsl
   obtain ⟨n,hn⟩: ∃n,hv.length=n:=⟨_,rfl⟩
   rw [hn] at hso hvb hvl' ⊢
   have hn':Hid (hv.length=n):=hn
   clear hmap hvl hn q1 q2 q3 q4 q5
   go_wp2
   go_loopg [62] n (fun g t wr=> ∃(j:Nat) (hv':List HV),g=n-j/\j<=n/\t= .int .i64 j/\HSo w1.heap.size (.slice a1 n c1) hv' wr/\hv'.map (·.1)=jB F.hs j/\Below w1.heap.size w1 wr)
   case atStart=>exact ⟨0,hv,by omega,by omega,rfl,hso,by rw [Kr];exact hmap'.out,hbel⟩
   case round=>
    obtain ⟨j,hv',hgj,hjn,rfl,hso',hmm,hbel'⟩:=hrel
    have hl':hv'.length=n:=by
     have e:(hv'.map (·.1)).length=(jB F.hs j).length:=by rw [hmm]
     rw [List.length_map,qL] at e
     have:=hvl'.out;omega
    have hA:Hid (hv'.map (·.1)=jB F.hs j/\hv'.length=n/\gk=n-j):=⟨hmm,hl',hgj⟩
    clear hmm hgj
    by_cases hlt2:j<n
    ·have hltI2:(j:Int)<n:=by omega
     rcases hso' with ⟨e,_⟩ | ⟨g,cap1,e,hg,hsv⟩
     ·subst e;simp at hl';omega
     ·obtain ⟨rfl,hnn,rfl⟩:a1=some ⟨g,0,none⟩/\n=hv'.length/\c1=cap1:=by cases e;exact ⟨rfl,rfl,rfl⟩
      rw [<-hnn] at hsv
      clear e hnn
      have hj':j<hv'.length:=by omega
      have hx:hv'[j].1=F.hs[j]'(by have:=hvl'.out;omega):=by
       have e1:(hv'.map (·.1))[j]'(by simpa using hj')=(jB F.hs j)[j]'(by rw [qL];have:=hvl'.out;omega):=by simp only [hA.out.1]
       rw [WK _ _ (by have:=hvl'.out;omega)] at e1
       simpa using e1
      have hbd:=hq4.out hv'[j].1 (by rw [hx];exact List.getElem_mem _)
      have hC:=FY hsv (by have:=hbel'.size;omega) hg hj' hbd.1 hbd.2
      have hm2:Hid ((hv'.set j (zV hv'[j].1,hv'[j].2)).map (·.1)=jB F.hs (j+1)):=by
       unfold Hid
       rw [List.map_set,hA.out.1]
       simp only
       rw [hx,JS]
      have hl2:Hid ((hv'.set j (zV hv'[j].1,hv'[j].2)).length=n):=by unfold Hid;rw [List.length_set];exact hA.out.2.1
      generalize hv'.set j (zV hv'[j].1,hv'[j].2)=hv2 at hC hm2 hl2
      clear hx hbd hsv hl'
      go_wp2_with (go_at_call 58;refine hC.mono ?_;rintro e w3 ⟨rfl,hs3,hb3⟩)
      go_roundg (n-(j+1))
      case measure=>have:=hA.out.2.2;omega
      case rel=>
       refine ⟨j+1,hv2,rfl,by omega,by go_num,.inr ⟨g,c1,?_,hg,?_⟩,hm2,hbel'.trans hb3⟩
       ·rw [hl2.out]
       ·rw [hl2.out];exact hs3
    ·have hltI2: ¬((j:Int)<n):=by omega
     have hjn2:j=n:=by omega
     have hfin:Hid (hv'.map (·.1)=jj L c):=by
      unfold Hid
      rw [hA.out.1,hF.out,hjn2,hvl'.out,WN]
     clear hjn2
     go_wp2
     go_ret
     exact ⟨_,rfl,hv',hso'.mono (Nat.le_of_lt hsz1),hfin.out,hb1.trans (hbel'.mono (Nat.le_of_lt hsz1))⟩
theorem VA (sep:ByteArray): ∀(k:Nat) (s t:ByteArray),t∈Lib.splitB sep 0 k s->t.size<=s.size:=by
 intro k
 induction k with
 | zero=>intro s t h;simp [Lib.splitB] at h;rw [h];exact Nat.le_refl _
 | succ k ih=>
   intro s t h
   rw [Lib.splitB] at h
   split at h
   ·simp at h;rw [h];exact Nat.le_refl _
   ·rw [List.mem_cons] at h
    rcases h with h | h
    ·rw [h];simp [ByteArray.size_extract];omega
    ·have:=ih _ _ h;simp [ByteArray.size_extract] at this;omega
theorem Ux (s:ByteArray):(trimB s).size<=s.size:=by
 have e:(trimB s).size=(Lib.trimSuffix s.data.toList [10]).length:=by unfold trimB;rfl
 rw [e]
 unfold Lib.trimSuffix
 split
 ·have:s.data.toList.length=s.size:=rfl
  rw [List.length_take];omega
 ·exact Nat.le_refl _
theorem XP {s t:ByteArray} (h:t∈linesB s):t.size<=s.size:=by
 unfold linesB at h
 split at h
 ·simp at h
 ·exact Nat.le_trans (VA _ _ _ _ h) (Ux s)
theorem FH (t:ByteArray):Lib.countB t nl=Lib.countByte t.data.toList 10:=Lib.count_one _ _
theorem yz {s:ByteArray} (h:yb s=false):(linesB s).length<=201:=by
 unfold yb at h
 simp at h
 by_cases h0:s.toList.isEmpty=true
 ·unfold linesB;rw [if_pos h0];simp
 ·rw [jE s (by simpa using h0),FH]
  have:Lib.countByte (trimB s).data.toList 10<=Lib.countByte s.data.toList 10:=by
   have e:(trimB s).data.toList=Lib.trimSuffix s.data.toList [10]:=by unfold trimB;rfl
   rw [e]
   unfold Lib.trimSuffix
   split
   ·exact List.Sublist.count_le _ (List.take_sublist _ _)
   ·exact Nat.le_refl _
  omega
theorem ZG {s:ByteArray} (h:yb s=false):s.size<=8000:=by
 unfold yb at h
 simp at h
 omega
theorem way_text {o f:List ByteArray} {s:zk} (h:s∈Dn.WT o f):s.text∈o\/s.text∈f:=by
 obtain ⟨a,b,c⟩:=Dn.Sb o f
 rcases c s h with hk | hk | hk
 ·left;rw [<-a];exact List.mem_map.2 ⟨s,List.mem_filter.2 ⟨h,by simp [hk]⟩,rfl⟩
 ·left;rw [<-a];exact List.mem_map.2 ⟨s,List.mem_filter.2 ⟨h,by simp [hk]⟩,rfl⟩
 ·right;rw [<-b];exact List.mem_map.2 ⟨s,List.mem_filter.2 ⟨h,by simp [hk]⟩,rfl⟩
theorem FU (l:List zk):l.length<=(Dn.YK l).length+(Dn.Yx l).length:=by
 induction l with
 | nil=>simp
 | cons s l ih=>
   unfold Dn.YK Dn.Yx at *
   simp only [List.filter_cons,List.length_cons]
   by_cases h:s.kind=43
   ·have h1:(s.kind !=43)=false:=by simp [h]
    have h2:(s.kind !=45)=true:=by simp [h]
    rw [h1,h2];simp at *;omega
   ·have h1:(s.kind !=43)=true:=by simp [h]
    rw [h1]
    by_cases h':s.kind=45
    ·have h2:(s.kind !=45)=false:=by simp [h']
     rw [h2];simp at *;omega
    ·have h2:(s.kind !=45)=true:=by simp [h']
     rw [h2];simp at *;omega
theorem kq (o f:List ByteArray):(Dn.WT o f).length<=o.length+f.length:=by
 obtain ⟨a,b,_⟩:=Dn.Sb o f
 have:=FU (Dn.WT o f)
 rw [a,b] at this
 exact this
theorem qa.mono {B B':Nat} {w:World} {v:Value} {l:List ByteArray} (h:qa B w v l) (hb:B<=B'):qa B' w v l:=by
 rcases h with h | ⟨b,off,cap,e,hB,hc⟩
 ·exact .inl h
 ·exact .inr ⟨b,off,cap,e,by omega,hc⟩
theorem HSo.slice {base:Nat} {v:Value} {hv:List HV} {w:World} (h:HSo base v hv w): ∃a n c,v= .slice a n c:=by
 rcases h with ⟨_,rfl⟩ | ⟨g,cap,rfl,_⟩
 ·exact ⟨_,_,_,rfl⟩
 ·exact ⟨_,_,_,rfl⟩
def diffM (old fresh:ByteArray) (c:Nat):List zx:=jj (Dn.WT (linesB old) (linesB fresh)) c
theorem Pt {old fresh:ByteArray} {c:Nat} {m:Int} {w:World} (hch:checkB old fresh c=0) (h1:old.size<4294967281) (h2:fresh.size<4294967281) (hm:w.cell? ⟨0,0,none⟩=some (.int .i64 m)):
 Calls prog 12 #[.string old,.string fresh,.int .i64 c] w fun e w'=>
  ∃v,e= .returned (.tuple #[.agg #[v],.int .i64 0])/\ ∃hv,HSo w.heap.size v hv w'/\hv.map (·.1)=diffM old fresh c/\Below w.heap.size w w':=by
 have hck:=ZL old fresh c
 rw [hch] at hck
 have hbnd:yd old=true/\yd fresh=true/\yb old=false/\yb fresh=false/\c<=10:=by
  unfold checkB at hch
  split at hch
  ·simp at hch
  ·split at hch
   ·simp at hch
   ·split at hch
    ·simp at hch
    ·rename_i a b d
     simp at a b d
     refine ⟨a.1,a.2,b.1,b.2,by omega⟩
 obtain ⟨_,_,l1,l2,hc⟩:=hbnd
 have n1:=yz l1
 have n2:=yz l2
 have z1:=ZG l1
 have z2:=ZG l2
 have hmlt:=World.block_lt_of_cell? _ _ hm
 have hD:Hid (diffM old fresh c=jj (Dn.WT (linesB old) (linesB fresh)) c):=rfl
 have hmN:0<w.heap.size:=hmlt
 obtain ⟨wa,hwa⟩: ∃wa,w.alloc (.cells #[.slice none 0 0] 32)=wa:=⟨_,rfl⟩
 have hza:wa.heap.size=w.heap.size+1:=by rw [<-hwa];simp
 have hba:Below w.heap.size w wa:=by rw [<-hwa];exact (Below.refl _ _).alloc (Nat.le_refl _) _
 have hBa:wa.heap[w.heap.size]? =some (.cells #[.slice none 0 0] 32 (0,0)):=by rw [<-hwa];exact heap_alloc_new w _
 have hma:wa.cell? ⟨0,0,none⟩=some (.int .i64 m):=(hba.cell (p:=⟨0,0,none⟩) hmN).trans hm
 have hLo:=Xy old m wa h1 hma
 have hLf:Hid (∀w2,Below wa.heap.size wa w2->Calls prog 26 #[.string fresh] w2 fun e w'=> ∃a cap,e= .returned (.slice a (linesB fresh).length cap)/\qa w'.heap.size w' (.slice a (linesB fresh).length cap) (linesB fresh)/\Below w2.heap.size w2 w'):=
  fun w2 hb=>Xy fresh m w2 h2 ((hb.cell (p:=⟨0,0,none⟩) (by show (0:Nat)<wa.heap.size;omega)).trans hma)
 have hFi:Hid (∀(w3:World) ao capo af capf,qa w3.heap.size w3 (.slice ao (linesB old).length capo) (linesB old)->qa w3.heap.size w3 (.slice af (linesB fresh).length capf) (linesB fresh)->
   Calls prog 25 #[.slice ao (linesB old).length capo,.slice af (linesB fresh).length capf] w3 fun e w'=> ∃a cap,e= .returned (.slice a (Dn.WT (linesB old) (linesB fresh)).length cap)/\zJ w'.heap.size w' (.slice a (Dn.WT (linesB old) (linesB fresh)).length cap) (Dn.WT (linesB old) (linesB fresh))/\Below w3.heap.size w3 w'):=by
  intro w3 ao capo af capf s1 s2
  refine (Wz s1 s2 (by omega) (by omega)).mono ?_
  rintro e w' ⟨v,rfl,ho,hb⟩
  have hst:=zJ.of_owns ho
  obtain ⟨a,cap,rfl⟩:=hst.slice
  exact ⟨a,cap,rfl,hst,hb⟩
 have hHu:Hid (∀(w4:World) a cap,zJ w4.heap.size w4 (.slice a (Dn.WT (linesB old) (linesB fresh)).length cap) (Dn.WT (linesB old) (linesB fresh))->
   Calls prog 27 #[.slice a (Dn.WT (linesB old) (linesB fresh)).length cap,.int .i64 c] w4 fun e w'=> ∃v,e= .returned v/\ ∃hv,HSo w4.heap.size v hv w'/\hv.map (·.1)=diffM old fresh c/\Below w4.heap.size w4 w'):=by
  intro w4 a cap hst
  refine (Uc c hst hc (by have:=kq (linesB old) (linesB fresh);omega) (Dn.Sb _ _).2.2 (fun s hs=> ?_))
  rcases way_text hs with h | h
  ·have:=XP h;omega
  ·have:=XP h;omega
 clear hba n1 n2 z1 z2 hch l1 l2 hm hD
 generalize linesB old=Lo at *
 generalize linesB fresh=Lf at *
 generalize Dn.WT Lo Lf=WW at *
 generalize diffM old fresh c=DD at *
 go_enter func12,ntmps12
 go_wp2_with (first | (go_at_call 24;refine (hck _ h1 h2).mono ?_;rintro e w' ⟨rfl,rfl⟩) | (go_at_call 26;refine hLo.mono ?_;clear hLo;rintro e w2 ⟨ao,capo,rfl,so,hb2⟩;have hLf2:=hLf.out w2 hb2) | (go_at_call 26;refine hLf2.mono ?_;clear hLf2;rintro e w3 ⟨af,capf,rfl,sf,hb3⟩;have hFi2:=hFi.out w3 ao capo af capf ((so.below hb3).mono hb3.size) sf) | (go_at_call 25;refine hFi2.mono ?_;clear hFi2;rintro e w4 ⟨a4,cap4,rfl,st4,hb4⟩;have hHu2:=hHu.out w4 a4 cap4 st4) | (go_at_call 27;refine hHu2.mono ?_;clear hHu2;rintro e w5 ⟨v,rfl,hv,hso,hmm,hb5⟩;obtain ⟨a5,n5,c5,rfl⟩:=hso.slice;have hAll:Below wa.heap.size wa w5:=((hb2.trans (hb3.mono hb2.size)).trans (hb4.mono (Nat.le_trans hb2.size hb3.size))).trans (hb5.mono (Nat.le_trans hb2.size (Nat.le_trans hb3.size hb4.size)));have hB5:=(hAll.block w.heap.size (by omega)).trans hBa;have r0:w5.cell? ⟨w.heap.size,0,none⟩=some (.slice none 0 0):=za hB5 rfl;have r1:w5.frozen? ⟨w.heap.size,0,none⟩=false:=zi hB5))
 have hz5:w.heap.size+1<=w4.heap.size:=by have:=hb2.size;have:=hb3.size;have:=hb4.size;omega
 refine bodyPost_ret (v:= .tuple #[.agg #[.slice a5 n5 c5],.int .i64 0]) ?_ rfl ⟨_,rfl,hv,?_,hmm,?_⟩
 ·simp [results,results12,go_sem,r0]
 ·exact (hso.kept (zc w5 w.heap.size 0 _) (fun k e=>by cases e;exact .inr ⟨_,_,_,hB5,by decide,by decide⟩)).mono (by omega)
 ·have hba:Below w.heap.size w wa:=by rw [<-hwa];exact (Below.refl _ _).alloc (Nat.le_refl _) _
  exact (hba.trans (hAll.mono (by omega))).setCell (p:=⟨w.heap.size,0,none⟩) (Nat.le_refl _) _
theorem YJ {w w':World} {r:Option Nat} (h:w.grownBy w' r):w.grownBy w'.drew r:=⟨h.os,h.tape,h.output,h.size,h.block⟩
def placeM (f c:Nat):Nat:=if c=0 then f else f-1
theorem VC (f c:Nat) (w:World) (h1:f<=100000) (h3:min c 1<=f):
 Calls prog 59 #[.int .i64 f,.int .i64 c] w fun e w'=>e= .returned (.int .i64 (placeM f c:Nat))/\w=w':=by
 unfold placeM
 by_cases h:c=0
 ·subst h
  rw [if_pos rfl]
  go_enter func59,ntmps59
  go_wp2
  go_ret
  exact ⟨rfl,rfl⟩
 ·rw [if_neg h]
  have t1:(((c:Nat):Int)==0)=false:=by rw [beq_eq_false_iff_ne];omega
  go_enter func59,ntmps59
  go_wp2
  go_ret
  exact ⟨GK (by omega),rfl⟩
abbrev kp (h:zx) (v:Value):Value:= .agg #[.int .i64 (h.fr:Int),.int .i64 (h.fc:Int),.int .i64 (h.tr:Int),.int .i64 (h.tc:Int),v]
theorem UT (h:zx) (a:Option Addr) (n cap:Nat) (w:World):Calls prog 106 #[kp h (.slice a n cap)] w fun e w'=>
 e= .returned (.agg #[.int .i64 (h.fc:Int),.int .i64 (h.tc:Int),.bool false])/\Below w.heap.size w w':=by
 go_enter func106,ntmps106
 go_wp2
 refine bodyPost_ret (v:= .agg #[.int .i64 (h.fc:Int),.int .i64 (h.tc:Int),.bool false]) (by simp [results,results106,go_sem]) rfl ⟨rfl,?_⟩
 exact ((Below.refl _ _).alloc (Nat.le_refl _) _).alloc (by simp) _
def kf (k:Nat):Nat:=if k=43 then 0 else 1
theorem Vr (b:Bool) (w:World):Calls prog 76 #[.agg #[.int .i64 0,.int .i64 0,.bool b]] w fun e w'=>e= .returned (.bool true)/\Below w.heap.size w w':=by
 go_enter func76,ntmps76
 go_wp2
 go_ret
 exact ⟨rfl,(Below.refl _ _).alloc (Nat.le_refl _) _⟩
theorem Pm (w:World):Calls prog 80 #[.agg #[.int .i64 0,.int .i64 0,.bool true]] w fun e w'=>e= .returned (.bool true)/\Below w.heap.size w w':=by
 have hf:=Vr true (w.alloc (.cells #[.int .i64 0,.int .i64 0,.bool true] 86))
 go_enter func80,ntmps80
 go_wp2_with (go_at_call 76;refine hf.mono ?_;rintro e w' ⟨rfl,hb⟩;have c2:w'.cell? ⟨w.heap.size,2,none⟩=some (.bool true):=(hb.cell (p:=⟨w.heap.size,2,none⟩) (by simp)).trans (za (heap_alloc_new w _) rfl))
 go_ret
 exact ⟨rfl,((Below.refl _ _).alloc (Nat.le_refl _) _).trans (hb.mono (by simp))⟩
theorem zJ.mono {B B':Nat} {w:World} {v:Value} {L:List zk} (h:zJ B w v L) (hb:B<=B'):zJ B' w v L:=by
 rcases h with h | ⟨b,cap,e,hB,hc⟩
 ·exact .inl h
 ·exact .inr ⟨b,cap,e,by omega,hc⟩
theorem Fn {w:World} {base n cap g:Nat} {l:List zk} (h:w.ownsRow base 93 2 (.slice (some ⟨g,0,none⟩) n cap) n (zg l)) {i:Nat} (hi:i<l.length):
 w.cell? ⟨g,i*2,none⟩=some (.int .u8 (l[i].kind:Nat))/\w.cell? ⟨g,i*2+1,none⟩=some (.string l[i].text):=by
 obtain ⟨hl,hr⟩:=h
 rcases hr with ⟨e,_⟩ | ⟨g',cap',cur,e,hb,hg,h1,h2,h3,h4⟩
 ·cases e
 ·cases e
  obtain ⟨a,b⟩:=yR l i hi
  rw [<-h4] at a b
  have f: ∀(j:Nat) (u:Value),(cur.toList.take (n*2))[j]? =some u->cur[j]? =some u:=by
   intro j u hu
   rw [List.getElem?_take] at hu
   split at hu
   ·simpa using hu
   ·cases hu
  exact ⟨za hg (f _ _ a),za hg (f _ _ b)⟩
theorem zJ.of_lines {base:Nat} {w:World} {v:Value} {L:List zk} (h:w.ownsRow base 93 2 v L.length (zg L)):zJ w.heap.size w v L:=by
 by_cases h0:L.length=0
 ·have:L= []:=List.eq_nil_of_length_eq_zero h0
  subst this
  rcases h.2 with ⟨e,_⟩ | ⟨g,cap,cur,e,_⟩
  ·exact .inl ⟨rfl,_,_,e⟩
  ·exact .inl ⟨rfl,_,_,e⟩
 ·obtain ⟨g,cap,rfl,_,hg,_⟩:=zv h (by omega)
  exact .inr ⟨g,cap,rfl,hg,fun i hi=>Fn h hi⟩
def zO (B:Nat) (w:World) (v:Value) (hs:List zx):Prop:=
 (hs= []/\ ∃a c,v= .slice a 0 c)\/ ∃b cap,v= .slice (some ⟨b,0,none⟩) hs.length cap/\b<B/\
  ∀i (h:i<hs.length),∃a c,w.cell? ⟨b,i*5,none⟩=some (.int .i64 (hs[i].fr:Int))/\w.cell? ⟨b,i*5+1,none⟩=some (.int .i64 (hs[i].fc:Int))/\w.cell? ⟨b,i*5+2,none⟩=some (.int .i64 (hs[i].tr:Int))/\
   w.cell? ⟨b,i*5+3,none⟩=some (.int .i64 (hs[i].tc:Int))/\w.cell? ⟨b,i*5+4,none⟩=some (.slice a hs[i].lines.length c)/\zJ B w (.slice a hs[i].lines.length c) hs[i].lines
theorem zO.of_owns {base:Nat} {w:World} {v:Value} {hv:List HV} (h:HSo base v hv w):zO w.heap.size w v (hv.map (·.1)):=by
 rcases h with ⟨rfl,rfl⟩ | ⟨g,cap,rfl,_,hs⟩
 ·exact .inl ⟨rfl,_,_,rfl⟩
 ·refine .inr ⟨g,cap,by simp,(hs.row.lt g rfl).2,fun i hi=> ?_⟩
  have hi':i<hv.length:=by simpa using hi
  obtain ⟨c0,c1,c2,c3,c4⟩:=xN hs.row hi'
  have hl:=zJ.of_lines (hs.lines hv[i] (List.getElem_mem hi'))
  obtain ⟨a,c,e⟩:=hl.slice
  rw [e] at hl c4
  refine ⟨a,c,?_⟩
  simp only [List.getElem_map]
  exact ⟨c0,c1,c2,c3,c4,hl⟩
def Yc (B:Nat) (w:World) (v:Value) (hs:List zx):Prop:= ∃hv:List HV,HSo B v hv w/\hv.map (·.1)=hs
theorem Yc.hunks {B:Nat} {w:World} {v:Value} {hs:List zx} (h:Yc B w v hs):zO w.heap.size w v hs:=by
 obtain ⟨hv,h1,rfl⟩:=h
 exact zO.of_owns h1
theorem zO.below {B:Nat} {w w':World} {v:Value} {hs:List zx} (h:zO B w v hs) (hb:Below B w w'):zO B w' v hs:=by
 rcases h with h | ⟨b,cap,e,hB,hc⟩
 ·exact .inl h
 ·refine .inr ⟨b,cap,e,hB,fun i hi=> ?_⟩
  obtain ⟨a,c,h0,h1,h2,h3,h4,h5⟩:=hc i hi
  exact ⟨a,c,(hb.cell (p:=⟨b,i*5,none⟩) hB).trans h0,(hb.cell (p:=⟨b,i*5+1,none⟩) hB).trans h1,(hb.cell (p:=⟨b,i*5+2,none⟩) hB).trans h2,(hb.cell (p:=⟨b,i*5+3,none⟩) hB).trans h3,(hb.cell (p:=⟨b,i*5+4,none⟩) hB).trans h4,h5.below hb⟩
theorem zO.mono {B B':Nat} {w:World} {v:Value} {hs:List zx} (h:zO B w v hs) (hb:B<=B'):zO B' w v hs:=by
 rcases h with h | ⟨b,cap,e,hB,hc⟩
 ·exact .inl h
 ·refine .inr ⟨b,cap,e,by omega,fun i hi=> ?_⟩
  obtain ⟨a,c,h0,h1,h2,h3,h4,h5⟩:=hc i hi
  exact ⟨a,c,h0,h1,h2,h3,h4,h5.mono hb⟩
theorem zO.at {B n cap:Nat} {w:World} {a:Option Addr} {hs:List zx} (h:zO B w (.slice a n cap) hs) {i:Nat} (hi:i<hs.length):
 ∃b a' c,a=some ⟨b,0,none⟩/\b<B/\w.cell? ⟨b,i*5,none⟩=some (.int .i64 (hs[i].fr:Int))/\w.cell? ⟨b,i*5+1,none⟩=some (.int .i64 (hs[i].fc:Int))/\w.cell? ⟨b,i*5+2,none⟩=some (.int .i64 (hs[i].tr:Int))/\
  w.cell? ⟨b,i*5+3,none⟩=some (.int .i64 (hs[i].tc:Int))/\w.cell? ⟨b,i*5+4,none⟩=some (.slice a' hs[i].lines.length c)/\zJ B w (.slice a' hs[i].lines.length c) hs[i].lines:=by
 rcases h with ⟨rfl,_⟩ | ⟨b,cap,e,hb,hc⟩
 ·simp at hi
 ·cases e
  obtain ⟨a',c,r⟩:=hc i hi
  exact ⟨b,a',c,rfl,hb,r⟩
def zr (l:List zk) (k:Nat):Nat×Nat×Bool:=(l.take k).foldl (fun st s=>if s.kind=32 then (if st.2.2=true then (st.1,st.2.1+1,true) else (st.1+1,st.2.1,false)) else (st.1,0,true)) (0,0,false)
theorem jt (l:List zk) (k:Nat) (h:k<l.length):zr l (k+1)=(if l[k].kind=32 then (if (zr l k).2.2=true then ((zr l k).1,(zr l k).2.1+1,true) else ((zr l k).1+1,(zr l k).2.1,false)) else ((zr l k).1,0,true)):=by
 unfold zr
 rw [List.take_succ_eq_append_getElem h,List.foldl_append]
 rfl
theorem YZ (l:List zk): ∀k,(zr l k).1<=k/\(zr l k).2.1<=k:=by
 intro k
 induction k with
 | zero=>simp [zr]
 | succ k ih=>
   by_cases h:k<l.length
   ·rw [jt l k h]
    split
    ·split<;>simp<;>omega
    ·simp;omega
   ·have:zr l (k+1)=zr l k:=by unfold zr;rw [List.take_of_length_le (by omega),List.take_of_length_le (by omega)]
    rw [this];omega
end Go.Proofs.YtcclgodahlinbaaGreatDoor
