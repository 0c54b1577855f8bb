import Derived.Test.YtcclgodahlinbaaGreatDoorA03
namespace Go.Proofs.YtcclgodahlinbaaGreatDoor
set_option maxHeartbeats 16000000
open Tryz Go.RowKit Go
set_option maxRecDepth 100000
attribute [local go_sem] xC
def qa (B:Nat) (w:World) (v:Value) (l:List ByteArray):Prop:=
 (l= []/\ ∃a c,v= .slice a 0 c)\/ ∃b off cap,v= .slice (some ⟨b,off,none⟩) l.length cap/\b<B/\ ∀i,i<l.length->w.cell? ⟨b,off+i,none⟩=some (.string (l.getD i ByteArray.empty))
theorem qa.at {B n cap:Nat} {w:World} {a:Option Addr} {l:List ByteArray} (h:qa B w (.slice a n cap) l) {i:Nat} (hi:i<l.length):
 ∃b off,a=some ⟨b,off,none⟩/\b<B/\w.cell? ⟨b,off+i,none⟩=some (.string (l.getD i ByteArray.empty)):=by
 rcases h with ⟨rfl,_⟩ | ⟨b,off,cap,e,hb,hc⟩
 ·simp at hi
 ·cases e;exact ⟨b,off,rfl,hb,hc i hi⟩
theorem qa.below {B:Nat} {w w':World} {v:Value} {l:List ByteArray} (h:qa B w v l) (hb:Below B w w'):qa B w' v l:=by
 rcases h with h | ⟨b,off,cap,e,hB,hc⟩
 ·exact .inl h
 ·exact .inr ⟨b,off,cap,e,hB,fun i hi=>(hb.cell (p:=⟨b,off+i,none⟩) hB).trans (hc i hi)⟩
theorem SMv.cons {X:List (Nat×Obj)} {base S B:Nat} {vo vf:Value} {st:Dn.yl} {vop vled:Value} {w:World} {O:Obj} (h:SMv X base S vo vf st vop vled w) (hB:w.heap[B]? =some O) (h1:B≠S) (h2:vop.ownBlock≠some B) (h3:vled.ownBlock≠some B):
 SMv ((B,O)::X) base S vo vf st vop vled w:=
 ⟨h.le,h.blk,h.op,h.led,h.ne1,h.ne2,h.ne3,fun x hx=>by
  rcases List.mem_cons.1 hx with rfl | hx
  ·exact ⟨hB,h1,h2,h3⟩
  ·exact h.fr x hx⟩
theorem SM.tail {X:List (Nat×Obj)} {base S:Nat} {vo vf:Value} {st:Dn.yl} {w:World} {x:Nat×Obj} (h:SM (x::X) base S vo vf st w):SM X base S vo vf st w:=by
 obtain ⟨a,b,h⟩:=h
 exact ⟨a,b,h.le,h.blk,h.op,h.led,h.ne1,h.ne2,h.ne3,fun x hx=>h.fr x (List.mem_cons_of_mem _ hx)⟩
theorem SM.head {X:List (Nat×Obj)} {base S:Nat} {vo vf:Value} {st:Dn.yl} {w:World} {x:Nat×Obj} (h:SM (x::X) base S vo vf st w):w.heap[x.1]? =some x.2:=by
 obtain ⟨a,b,h⟩:=h
 exact (h.fr x (List.mem_cons_self ..)).1
theorem SM.field0 {X:List (Nat×Obj)} {base S:Nat} {vo vf:Value} {st:Dn.yl} {w:World} (h:SM X base S vo vf st w):w.cell? ⟨S,0,none⟩=some vo/\w.cell? ⟨S,1,none⟩=some vf:=by
 obtain ⟨a,b,h⟩:=h
 exact ⟨za h.blk rfl,za h.blk rfl⟩
theorem Below.of_drew {B:Nat} {w w':World} (h:Below B w.drew w'):Below B w w':=⟨h.os,h.tape,h.output,h.size,h.block⟩
theorem Xj {a b:ByteArray} (h: ¬a=b):(a.toList==b.toList)=false:=by
 rw [beq_eq_false_iff_ne]
 intro e
 apply h
 apply ByteArray.ext
 apply Array.toList_inj.1
 simpa [ByteArray.toList_eq] using e
theorem VF (m:Nat) (st:Dn.yl) (p:Dn.Spot) (dx dy k:Nat):(Dn.yG m st p dx dy k).led=st.led:=by unfold Dn.yG;split<;>rfl
theorem JA (m:Nat) (st:Dn.yl) (p:Dn.Spot) (dx dy k:Nat):(Dn.yG m st p dx dy k).turns<=st.turns+1:=by unfold Dn.yG;split<;>simp
theorem Uz (m:Nat) (st:Dn.yl) (p:Dn.Spot) (dx dy k:Nat):(Dn.yG m st p dx dy k).op.length<=st.op.length+1:=by unfold Dn.yG;split<;>simp [Dn.kr]
theorem Fi {o f:List ByteArray} {x y:Nat} (hx:x<o.length) (hy:y<f.length) (h:o.getD x ByteArray.empty=f.getD y ByteArray.empty):Dn.yL o f x y=true:=by
 unfold Dn.yL
 rw [decide_eq_true_eq]
 refine ⟨hx,hy,?_⟩
 simp only [List.getD,List.getElem?_eq_getElem hx,List.getElem?_eq_getElem hy,Option.getD_some] at h ⊢
 rw [h]
theorem Yl {o f:List ByteArray} {x y:Nat} (h: ¬(x<o.length/\y<f.length/\o.getD x ByteArray.empty=f.getD y ByteArray.empty)):Dn.yL o f x y=false:=by
 unfold Dn.yL
 rw [decide_eq_false_iff_not]
 rintro ⟨hx,hy,e⟩
 exact h ⟨hx,hy,by simp only [List.getD];rw [e]⟩
theorem Ep {X:List (Nat×Obj)} {base S capo capf:Nat} {ao af:Option Addr} {o f:List ByteArray} {st:Dn.yl} {w:World} (p:Dn.Spot) (h:SM X base S (.slice ao o.length capo) (.slice af f.length capf) st w)
 (ho:qa base w (.slice ao o.length capo) o) (hf:qa base w (.slice af f.length capf) f)
 (hn:o.length<209) (hm:f.length<209) (hx:p.x<=o.length) (hy:p.y<=f.length) (hlen:st.led.length=(o.length+1)*(f.length+1)) (hfar:p.far<900000) (ht:st.turns<900000) (hb:st.op.length<900000):
 Calls prog 51 #[.pointer (some ⟨S,0,none⟩),.agg #[.complex .f64 (fl p.x) (fl p.y),.int .i64 p.far,.int .i64 p.turn,.int .u8 p.kind]] w fun e w'=>
  e= .returned (.tuple #[])/\SM X base S (.slice ao o.length capo) (.slice af f.length capf) (Dn.Wr o f st p) w'/\Below base w w':=by
 have hl:Dn.idx f.length p.x p.y<st.led.length:=by rw [hlen];exact Dn.EZ hx hy
 have hll:st.led.length<=100000:=by rw [hlen];have:(o.length+1)*(f.length+1)<=209*209:=Nat.mul_le_mul (by omega) (by omega);omega
 have hlen':Hid (st.led.length=(o.length+1)*(f.length+1)):=hlen
 clear hlen
 obtain ⟨vop,vled,hsm⟩:=h
 obtain ⟨g,cap,rfl,hbg,hgw,_⟩:=zv hsm.led (show 0<st.led.length by omega)
 have hS:=hsm.size
 have hSw:S<w.heap.size:=hS.2
 have c0:=za (k:=0) (v:= .slice ao o.length capo) hsm.blk rfl
 have c1:=za (k:=1) (v:= .slice af f.length capf) hsm.blk rfl
 have c4:=za (k:=4) (v:= .slice (some ⟨g,0,none⟩) st.led.length cap) hsm.blk rfl
 have cl:=YU hsm.led hl
 have fl':=qK hsm.led
 have hlI:((Dn.idx f.length p.x p.y:Nat):Int)<st.led.length:=by omega
 have hq:Hid (∀ob k,Calls prog 50 #[.pointer (some ⟨S,0,none⟩),.complex .f64 (fl p.x) (fl p.y)] ((w.alloc ob).drewN k) fun e w''=>e= .returned (.int .i64 (Dn.idx f.length p.x p.y:Nat))/\ ∃k,w''=(w.alloc ob).drewN k):=
  fun ob k=>Zs (w:=w.alloc ob) (za (k:=1) (v:= .slice af f.length capf) (hsm.alloc ob).blk rfl) (by omega) (by omega) (by omega)
 have hq2:Hid (∀k,Calls prog 50 #[.pointer (some ⟨S,0,none⟩),.complex .f64 (fl p.x) (fl p.y)] ((w.alloc (.cells #[.complex .f64 (fl p.x) (fl p.y),.int .i64 p.far,.int .i64 p.turn,.int .u8 p.kind] 112)).drewN k) fun e w''=>e= .returned (.int .i64 (Dn.idx f.length p.x p.y:Nat))/\(w.alloc (.cells #[.complex .f64 (fl p.x) (fl p.y),.int .i64 p.far,.int .i64 p.turn,.int .u8 p.kind] 112)).drewN k=w''):=
  fun k=>Ua S f.length capf p.x p.y af _ (za (k:=1) (v:= .slice af f.length capf) (hsm.alloc _).blk rfl) (by omega) (by omega) (by omega)
 have hq3:Hid (∀k,Calls prog 50 #[.pointer (some ⟨S,0,none⟩),.complex .f64 (fl p.x) (fl p.y)] ((w.alloc (.cells #[.complex .f64 (fl p.x) (fl p.y),.int .i64 p.far,.int .i64 p.turn,.int .u8 p.kind] 112)).drewN k) fun e w''=>e= .returned (.int .i64 (Dn.idx f.length p.x p.y:Nat))/\w''=(w.alloc (.cells #[.complex .f64 (fl p.x) (fl p.y),.int .i64 p.far,.int .i64 p.turn,.int .u8 p.kind] 112)).drewN k):=
  fun k=>(hq2.out k).mono fun _ _ h=>⟨h.1,h.2.symm⟩
 generalize hI:Dn.idx f.length p.x p.y=I at *
 have hat:st.at f.length p.x p.y=st.led.getD I 0:=by unfold Dn.yl.at;rw [hI]
 by_cases h0:st.led.getD I 0=0
 ·have hset:Hid (Dn.Wr o f st p=(if Dn.yL o f p.x p.y=true then { st with led:=st.led.set I p.kind,op:=Dn.jN st.op ⟨p.x+1,p.y+1,p.far,p.turn,32⟩ }
   else if p.y<f.length then Dn.yG f.length (if p.x<o.length then Dn.yG f.length { st with led:=st.led.set I p.kind } p 1 0 45 else { st with led:=st.led.set I p.kind }) p 0 1 43
    else (if p.x<o.length then Dn.yG f.length { st with led:=st.led.set I p.kind } p 1 0 45 else { st with led:=st.led.set I p.kind }))):=by
   unfold Hid Dn.Wr
   rw [if_pos (by rw [hat];exact h0),hI]
  rw [h0] at cl
  clear h0
  have cl':w.cell? ⟨g,I,none⟩=some (.int .u8 0):=cl
  clear cl
  go_enter func51,ntmps51
  go_wp2_with fail
  go_quiet ((go_at_call 50;exact hq.out _ _))
  go_wp2_with fail
  revert nq
  intro nq1
  refine zK 11 yg (by kernel_rfl) ?_
  simp only [List.take_succ_cons,List.take_zero,List.drop_succ_cons,List.drop_zero]
  repeat still_step
  still_call (hq3.out _)
  repeat still_step
  refine wpStill_nil ?_
  have x1:=fun w=>Zj (show p.x<210 by omega) w
  have x2:=fun w=>Zj (show p.y<210 by omega) w
  go_wp2_with fail
  go_quiet (fail)
  go_wp2_with fail
  clear x1 x2 hq hq2 hq3
  have hsmW:=(((hsm.alloc (.cells #[.complex .f64 (fl p.x) (fl p.y),.int .i64 p.far,.int .i64 p.turn,.int .u8 p.kind] 112)).drewN (k:=nq1+1)).setLed rfl I p.kind).drewN (k:=nq)
  have hBW:((((w.alloc (.cells #[.complex .f64 (fl p.x) (fl p.y),.int .i64 p.far,.int .i64 p.turn,.int .u8 p.kind] 112)).drewN (nq1+1)).setCell ⟨g,I,none⟩ (.int .u8 p.kind)).drewN nq).heap[w.heap.size]? =some (.cells #[.complex .f64 (fl p.x) (fl p.y),.int .i64 p.far,.int .i64 p.turn,.int .u8 p.kind] 112 (0,0)):=
   (zd ((w.alloc (.cells #[.complex .f64 (fl p.x) (fl p.y),.int .i64 p.far,.int .i64 p.turn,.int .u8 p.kind] 112)).drewN (nq1+1)) g w.heap.size I _ (by omega)).trans (heap_alloc_new w _)
  have hbelW:Below base w ((((w.alloc (.cells #[.complex .f64 (fl p.x) (fl p.y),.int .i64 p.far,.int .i64 p.turn,.int .u8 p.kind] 112)).drewN (nq1+1)).setCell ⟨g,I,none⟩ (.int .u8 p.kind)).drewN nq):=
   Below.drewN' ((Below.drewN' ((Below.refl base w).alloc (by omega) _)).setCell (p:=⟨g,I,none⟩) hbg _)
  generalize ((((w.alloc (.cells #[.complex .f64 (fl p.x) (fl p.y),.int .i64 p.far,.int .i64 p.turn,.int .u8 p.kind] 112)).drewN (nq1+1)).setCell ⟨g,I,none⟩ (.int .u8 p.kind)).drewN nq)=W at hsmW hBW hbelW ⊢
  clear c0 c1 c4 fl' cl' hat hI
  have hvB:vop.ownBlock≠some w.heap.size:=fun e=>Nat.lt_irrefl _ (hsm.op.lt _ e).2
  have hS1:w.heap.size≠S:=by omega
  have hg1:(Value.slice (some ⟨g,0,none⟩) st.led.length cap).ownBlock≠some w.heap.size:=fun e=>by have:g=w.heap.size:=Option.some.inj e;omega
  have hsmX:=hsmW.cons hBW hS1 hvB hg1
  have hoW:=ho.below hbelW
  have hfW:=hf.below hbelW
  clear ho hf hvB hS1 hg1
  generalize hBB:w.heap.size=B at *
  have d0:=za (k:=0) (v:= .slice ao o.length capo) hsmW.blk rfl
  have d1:=za (k:=1) (v:= .slice af f.length capf) hsmW.blk rfl
  have b0:=za (k:=0) hBW rfl
  have b1:=za (k:=1) hBW rfl
  have b2:=za (k:=2) hBW rfl
  have b3:=za (k:=3) hBW rfl
  have hll1:(st.led.set I p.kind).length=st.led.length:=List.length_set
  by_cases hxn:p.x<o.length
  ·have hxI:(p.x:Int)<o.length:=by omega
   obtain ⟨bo,oo,rfl,_,ro⟩:=hoW.at hxn
   by_cases hym:p.y<f.length
   ·have hyI:(p.y:Int)<f.length:=by omega
    obtain ⟨bf,of',rfl,_,rf⟩:=hfW.at hym
    generalize hta:o.getD p.x ByteArray.empty=ta at ro
    generalize htb:f.getD p.y ByteArray.empty=tb at rf
    by_cases hab:ta=tb
    ·subst hab
     have hsame:=Fi hxn hym (hta.trans htb.symm)
     have hfin:=hset.out
     rw [if_pos hsame] at hfin
     have hfin':Hid _:=hfin
     clear hset hfin hsame hta htb
     have hk:=fun w=>Ef (show p.x<210 by omega) (show p.y<210 by omega) w
     go_quiet (fail)
     go_wp2_with fail
     have hP:=Jk (st:= { st with led:=st.led.set I p.kind }) ⟨p.x+1,p.y+1,p.far,p.turn,32⟩ ⟨_,_,(hsmX.drewN (k:=nq)).drew⟩ (show st.op.length<1000000 by omega)
     refine zK 13 yg (by kernel_rfl) ?_
     simp only [List.take_succ_cons,List.take_zero,List.drop_succ_cons,List.drop_zero]
     repeat still_step
     refine wpStill_nil ?_
     go_wp2_with (go_at_call 49;refine hP.mono ?_;rintro e w' ⟨rfl,hs2,hb2⟩)
     refine bodyPost_ret (results_none rfl _ _ _) rfl ⟨rfl,?_,hbelW.trans (Below.of_drewN (Below.of_drew hb2))⟩
     rw [hfin'.out];exact hs2.tail
    ·have hsame:=Yl (o:=o) (f:=f) (x:=p.x) (y:=p.y) (fun h=>hab (hta.symm.trans (h.2.2.trans htb)))
     have hab1:=Xj hab
     have hfin:=hset.out
     rw [if_neg (by rw [hsame];simp),if_pos hym,if_pos hxn] at hfin
     have hfin':Hid (Dn.Wr o f st p=Dn.yG f.length (Dn.yG f.length { st with led:=st.led.set I p.kind } p 1 0 45) p 0 1 43):=hfin
     clear hset hfin hsame hta htb
     go_quiet (fail)
     have hC:=Zl (st:= { st with led:=st.led.set I p.kind }) p 1 0 45 4607182418800017408 0 ⟨_,_,hsmX.drewN (k:=nq)⟩ (fun w=>JO (by omega) (by omega) w) (by omega) (by omega) (by omega) (by show _<(st.led.set I p.kind).length;rw [List.length_set,hlen'.out];exact Dn.EZ (by omega) (by omega)) (by show (st.led.set I p.kind).length<=_;rw [List.length_set];exact hll) (by omega) (by show st.turns<_;omega) (by show st.op.length<_;omega)
     have hD:Hid (∀w1,SM ((B,(.cells #[.complex .f64 (fl p.x) (fl p.y),.int .i64 p.far,.int .i64 p.turn,.int .u8 p.kind] 112 (0,0)))::X) base S (.slice (some ⟨bo,oo,none⟩) o.length capo) (.slice (some ⟨bf,of',none⟩) f.length capf) (Dn.yG f.length { st with led:=st.led.set I p.kind } p 1 0 45) w1->
         Calls prog 97 #[.pointer (some ⟨S,0,none⟩),.agg #[.complex .f64 (fl p.x) (fl p.y),.int .i64 p.far,.int .i64 p.turn,.int .u8 p.kind],.complex .f64 0 4607182418800017408,.int .u8 43] w1 fun e w'=>
          e= .returned (.tuple #[])/\SM ((B,(.cells #[.complex .f64 (fl p.x) (fl p.y),.int .i64 p.far,.int .i64 p.turn,.int .u8 p.kind] 112 (0,0)))::X) base S (.slice (some ⟨bo,oo,none⟩) o.length capo) (.slice (some ⟨bf,of',none⟩) f.length capf) (Dn.yG f.length (Dn.yG f.length { st with led:=st.led.set I p.kind } p 1 0 45) p 0 1 43) w'/\Below base w1 w'):=by
      intro w1 hs1
      have k1:=VF f.length { st with led:=st.led.set I p.kind } p 1 0 45
      have k2:=JA f.length { st with led:=st.led.set I p.kind } p 1 0 45
      have k3:=Uz f.length { st with led:=st.led.set I p.kind } p 1 0 45
      exact Zl p 0 1 43 0 4607182418800017408 hs1 (fun w=>WM (by omega) (by omega) w) (by omega) (by omega) (by omega) (by rw [k1,List.length_set,hlen'.out];exact Dn.EZ (by omega) (by omega)) (by rw [k1,List.length_set];exact hll) (by omega) (by simp only at k2;omega) (by simp only at k3;omega)
     go_wp2_with (first | (go_at_call 97;refine hC.mono ?_;clear hC;rintro e w1 ⟨rfl,hs1,hb1⟩;have e0:=hs1.field0.1;have e1:=hs1.field0.2;have a0:=za (k:=0) hs1.head rfl;have a1:=za (k:=1) hs1.head rfl;have a2:=za (k:=2) hs1.head rfl;have a3:=za (k:=3) hs1.head rfl;have hD1:=hD.out w1 hs1;clear hD) | (go_at_call 97;refine hD1.mono ?_;clear hD1;rintro e w2 ⟨rfl,hs2,hb2⟩))
     go_end0
     refine ⟨rfl,?_,(hbelW.trans (Below.of_drewN hb1)).trans hb2⟩
     rw [hfin'.out];exact hs2.tail
   ·have hsame:=Yl (o:=o) (f:=f) (x:=p.x) (y:=p.y) (fun h=>hym h.2.1)
    have hyI:decide ((p.y:Int)<(f.length:Int))=false:=decide_eq_false (by omega)
    have hyI': ¬((p.y:Int)<(f.length:Int)):=by omega
    have hfin:=hset.out
    rw [if_neg (by rw [hsame];simp),if_neg hym,if_pos hxn] at hfin
    have hfin':Hid (Dn.Wr o f st p=Dn.yG f.length { st with led:=st.led.set I p.kind } p 1 0 45):=hfin
    clear hset hfin hsame
    go_quiet (fail)
    have hC:=Zl (st:= { st with led:=st.led.set I p.kind }) p 1 0 45 4607182418800017408 0 ⟨_,_,hsmX.drewN (k:=nq)⟩ (fun w=>JO (by omega) (by omega) w) (by omega) (by omega) (by omega) (by show _<(st.led.set I p.kind).length;rw [List.length_set,hlen'.out];exact Dn.EZ (by omega) (by omega)) (by show (st.led.set I p.kind).length<=_;rw [List.length_set];exact hll) (by omega) (by show st.turns<_;omega) (by show st.op.length<_;omega)
    go_wp2_with (go_at_call 97;refine hC.mono ?_;clear hC;rintro e w1 ⟨rfl,hs1,hb1⟩;have e0:=hs1.field0.1;have e1:=hs1.field0.2)
    go_end0
    refine ⟨rfl,?_,hbelW.trans (Below.of_drewN hb1)⟩
    rw [hfin'.out];exact hs1.tail
  ·have hsame:=Yl (o:=o) (f:=f) (x:=p.x) (y:=p.y) (fun h=>hxn h.1)
   have hxI:decide ((p.x:Int)<(o.length:Int))=false:=decide_eq_false (by omega)
   have hxI': ¬((p.x:Int)<(o.length:Int)):=by omega
   by_cases hym:p.y<f.length
   ·have hyI:(p.y:Int)<f.length:=by omega
    have hfin:=hset.out
    rw [if_neg (by rw [hsame];simp),if_pos hym,if_neg hxn] at hfin
    have hfin':Hid (Dn.Wr o f st p=Dn.yG f.length { st with led:=st.led.set I p.kind } p 0 1 43):=hfin
    clear hset hfin hsame
    go_quiet (fail)
    have hC:=Zl (st:= { st with led:=st.led.set I p.kind }) p 0 1 43 0 4607182418800017408 ⟨_,_,hsmX.drewN (k:=nq)⟩ (fun w=>WM (by omega) (by omega) w) (by omega) (by omega) (by omega) (by show _<(st.led.set I p.kind).length;rw [List.length_set,hlen'.out];exact Dn.EZ (by omega) (by omega)) (by show (st.led.set I p.kind).length<=_;rw [List.length_set];exact hll) (by omega) (by show st.turns<_;omega) (by show st.op.length<_;omega)
    go_wp2_with (go_at_call 97;refine hC.mono ?_;clear hC;rintro e w1 ⟨rfl,hs1,hb1⟩)
    go_end0
    refine ⟨rfl,?_,hbelW.trans (Below.of_drewN hb1)⟩
    rw [hfin'.out];exact hs1.tail
   ·have hyI: ¬((p.y:Int)<f.length):=by omega
    have hfin:=hset.out
    rw [if_neg (by rw [hsame];simp),if_neg hym,if_neg hxn] at hfin
    have hfin':Hid (Dn.Wr o f st p= { st with led:=st.led.set I p.kind }):=hfin
    clear hset hfin hsame
    go_quiet (fail)
    go_wp2_with fail
    go_end0
    refine ⟨rfl,?_,Below.drewN' hbelW⟩
    rw [hfin'.out];exact ⟨_,_,hsmW.drewN⟩
 ·have hset:Dn.Wr o f st p=st:=by unfold Dn.Wr;rw [if_neg (by rw [hat];exact h0)]
  rw [hset]
  clear hset hat hI
  generalize st.led.getD I 0=K at *
  have hb1:(((K:Nat):Int)==0)=false:=by simpa using h0
  have hb2:(((K:Nat):Int) !=0)=true:=by simpa using h0
  clear h0
  go_enter func51,ntmps51
  go_wp2_with fail
  go_quiet ((go_at_call 50;exact hq.out _ _))
  go_wp2_with fail
  exact bodyPost_ret (results_none rfl _ _ _) rfl ⟨rfl,⟨_,_,(hsm.alloc _).drewN⟩,Below.drewN' ((Below.refl _ _).alloc (by omega) _)⟩
end Go.Proofs.YtcclgodahlinbaaGreatDoor
namespace Go.Proofs.YtcclgodahlinbaaGreatDoor
set_option maxHeartbeats 16000000
open Tryz Go.RowKit Go
set_option maxRecDepth 100000
theorem US:(List.range 210).all (fun k=>(FloatKind.f64.format.order (fl k) 0==some .eq)==decide (k=0))=true:=by kernel_rfl
theorem Pp {k:Nat} (h:k<210):(FloatKind.f64.format.order (fl k) 0==some .eq)=decide (k=0):=by
 have:=List.all_eq_true.1 US k (List.mem_range.2 h)
 exact eq_of_beq this
theorem FL (S b off n cap x y:Nat) (t:ByteArray) (w:World) (hc:w.cell? ⟨S,1,none⟩=some (.slice (some ⟨b,off,none⟩) n cap)) (hy:y<n) (hn:n<210) (ht:w.cell? ⟨b,off+y,none⟩=some (.string t)):
 Calls prog 99 #[.pointer (some ⟨S,0,none⟩),.complex .f64 (fl x) (fl y),.int .u8 43] w fun e w'=>e= .returned (.string t)/\w=w':=by
 have h2:=fun w=>Zj (show y<210 by omega) w
 have hyI:(y:Int)<n:=by omega
 go_enter func99,ntmps99
 go_wp2
 go_ret
 exact ⟨rfl,rfl⟩
theorem JW (S b off n cap x y k:Nat) (t:ByteArray) (w:World) (hc:w.cell? ⟨S,0,none⟩=some (.slice (some ⟨b,off,none⟩) n cap)) (hx:x<n) (hn:n<210) (ht:w.cell? ⟨b,off+x,none⟩=some (.string t)) (hk:k=32\/k=45):
 Calls prog 99 #[.pointer (some ⟨S,0,none⟩),.complex .f64 (fl x) (fl y),.int .u8 (k:Nat)] w fun e w'=>e= .returned (.string t)/\w=w':=by
 have h2:=fun w=>Zj (show x<210 by omega) w
 have hxI:(x:Int)<n:=by omega
 have hk':(((k:Nat):Int)==43)=false:=by simp;omega
 clear hk
 go_enter func99,ntmps99
 go_wp2
 go_ret
 exact ⟨rfl,rfl⟩
abbrev zk:=Dn.ZS ByteArray
def zg (l:List zk):List Value:=l.flatMap fun s=> [.int .u8 (s.kind:Nat),.string s.text]
theorem xe (s:zk) (l:List zk):zg (s::l)= .int .u8 (s.kind:Nat):: .string s.text::zg l:=rfl
theorem zB (a b:List zk):zg (a++b)=zg a++zg b:=by simp [zg]
theorem zG (l:List zk):(zg l).length=l.length*2:=by
 induction l with
 | nil=>rfl
 | cons s l ih=>rw [xe];simp [ih];omega
theorem yR (l:List zk): ∀(i:Nat) (h:i<l.length),(zg l)[i*2]? =some (.int .u8 (l[i].kind:Nat))/\(zg l)[i*2+1]? =some (.string l[i].text):=by
 induction l with
 | nil=>intro i h;simp at h
 | cons s l ih=>
   intro i h
   cases i with
   | zero=>simp [xe]
   | succ i=>
     have:=ih i (by simpa using h)
     rw [xe,show (i+1)*2=i*2+1+1 by omega]
     simpa using this
theorem Jr (l:List zk) (s:zk): ∀(i:Nat),i<l.length->((zg l).set (i*2) (.int .u8 (s.kind:Nat))).set (i*2+1) (.string s.text)=zg (l.set i s):=by
 induction l with
 | nil=>intro i h;simp at h
 | cons t l ih=>
   intro i h
   cases i with
   | zero=>simp [xe]
   | succ i=>
     have:=ih i (by simpa using h)
     rw [List.set_cons_succ,xe,xe,<-this,show (i+1)*2=i*2+1+1 by omega]
     simp
theorem Xl {w:World} {base n cap g:Nat} {l:List zk} (h:w.ownsRow base 120 2 (.slice (some ⟨g,0,none⟩) n cap) n (zg l)) {i:Nat} (hi:i<l.length):
 w.cell? ⟨g,i*2,none⟩=some (.int .u8 (l[i].kind:Nat))/\w.cell? ⟨g,i*2+1,none⟩=some (.string l[i].text):=by
 obtain ⟨hl,hr⟩:=h
 rcases hr with ⟨e,_⟩ | ⟨g',cap',cur,e,hb,hg,h1,h2,h3,h4⟩
 ·cases e
 ·cases e
  obtain ⟨a,b⟩:=yR l i hi
  rw [<-h4] at a b
  have f: ∀(j:Nat) (u:Value),(cur.toList.take (n*2))[j]? =some u->cur[j]? =some u:=by
   intro j u hu
   rw [List.getElem?_take] at hu
   split at hu
   ·simpa using hu
   ·cases hu
  exact ⟨za hg (f _ _ a),za hg (f _ _ b)⟩
def Wf (w:World) (g i:Nat) (s:zk):World:=(w.setCell ⟨g,i*2,none⟩ (.int .u8 (s.kind:Nat))).setCell ⟨g,i*2+1,none⟩ (.string s.text)
theorem kC (w:World) (g i:Nat) (s:zk):w.grownBy (Wf w g i s) (some g):=zh (zc _ _ _ _) (zc _ _ _ _)
theorem XT {w:World} {base g n cap i:Nat} {l:List zk} (s:zk) (hn:n=l.length) (hi:i<l.length)
 (h:w.ownsRow base 120 2 (.slice (some ⟨g,0,none⟩) n cap) n (zg l)):
 (Wf w g i s).ownsRow base 120 2 (.slice (some ⟨g,0,none⟩) n cap) n (zg (l.set i s)):=by
 subst hn
 obtain ⟨hl,hr⟩:=h
 rcases hr with ⟨e,_⟩ | ⟨g',cap',cur,e,hb,hg,h1,h2,h3,h4⟩
 ·cases e
 ·cases e
  refine ⟨by rw [zG];simp,.inr ⟨g,cap,_,rfl,hb,zb _ _ _ _ _ _ _ (zb _ _ _ _ _ _ _ hg),h1,h2,by simpa using h3,?_⟩⟩
  rw [<-Jr l s i hi,<-h4]
  simp [List.take_set]
def QL (l l':List zk) (i:Nat):Prop:=l'.length=l.length/\ ∀t,t<l.length->l'[t]? =if t<i\/l.length-i<=t then l[l.length-1-t]? else l[t]?
theorem We (l:List zk):QL l l 0:=⟨rfl,fun t ht=>by rw [if_neg (by omega)]⟩
theorem Uv {l l':List zk} {i:Nat} (h:QL l l' i) (hi:l.length<=2*i+1):l'=l.reverse:=by
 apply List.ext_getElem?
 intro t
 by_cases ht:t<l.length
 ·rw [h.2 t ht,List.getElem?_reverse ht]
  split
  ·rfl
  ·congr 1;omega
 ·rw [List.getElem?_eq_none (by rw [h.1];omega),List.getElem?_eq_none (by simp;omega)]
theorem Vd {l l':List zk} {i:Nat} (h:QL l l' i) (hi:2*i+1<l.length) (a b:zk) (ha:l'[i]? =some a) (hb:l'[l.length-1-i]? =some b):
 QL l ((l'.set i b).set (l.length-1-i) a) (i+1):=by
 obtain ⟨h1,h2⟩:=h
 have e1:=h2 i (by omega)
 rw [if_neg (by omega),ha] at e1
 have e2:=h2 (l.length-1-i) (by omega)
 rw [if_neg (by omega),hb] at e2
 refine ⟨by simp [h1],fun t ht=> ?_⟩
 rw [List.getElem?_set,List.getElem?_set]
 by_cases c1:l.length-1-i=t
 ·subst c1
  rw [if_pos rfl,if_pos (by simp [h1];omega),if_pos (by omega),show l.length-1-(l.length-1-i)=i by omega]
  exact e1
 ·rw [if_neg c1]
  by_cases c2:i=t
  ·subst c2
   rw [if_pos rfl,if_pos (by rw [h1];omega),if_pos (by omega)]
   exact e2
  ·rw [if_neg c2,h2 t ht]
   by_cases c3:t<i\/l.length-i<=t
   ·rw [if_pos c3,if_pos (by omega)]
   ·rw [if_neg c3,if_neg (by omega)]
theorem WG {base g n cap:Nat} {l:List zk} {w:World} (h:w.ownsRow base 120 2 (.slice (some ⟨g,0,none⟩) n cap) n (zg l)) (hn:n=l.length) (hb:n<1000000) (hbase:base<=g) (hbw:base<=w.heap.size):
 Calls prog 100 #[.slice (some ⟨g,0,none⟩) n cap] w fun e w'=>
  e= .returned (.tuple #[])/\w'.ownsRow base 120 2 (.slice (some ⟨g,0,none⟩) n cap) n (zg l.reverse)/\Below base w w':=by
 have hn':Hid (n=l.length):=hn
 clear hn
 go_enter func100,ntmps100
 go_wp2
 go_loopw [2,3] (fun ti tj wr=> ∃(i:Nat) (l':List zk),ti= .int .i64 i/\tj= .int .i64 ((n:Int)-1-i)/\2*i<=n+1/\Hid (QL l l' i)/\wr.ownsRow base 120 2 (.slice (some ⟨g,0,none⟩) n cap) n (zg l')/\Below base w wr) (fun ti _ _=>n-(intOf ti).toNat)
 case atStart=>exact ⟨0,l,rfl,by simp,by omega,We l,h,Below.refl _ _⟩
 case round=>
  obtain ⟨i,l',rfl,rfl,hi,hT,hrow,hbel⟩:=hrel
  by_cases hend:2*i+1<n
  ·have hl':l'.length=n:=by have:=hT.out.1;have:=hn'.out;omega
   have p1:=Xl hrow (i:=i) (by omega)
   have p2:=Xl hrow (i:=n-1-i) (by omega)
   obtain ⟨a,ha⟩: ∃a,l'[i]'(by omega)=a:=⟨_,rfl⟩
   obtain ⟨b,hb'⟩: ∃b,l'[n-1-i]'(by omega)=b:=⟨_,rfl⟩
   rw [ha] at p1
   rw [hb'] at p2
   obtain ⟨j,hj⟩: ∃j,n-1-i=j:=⟨_,rfl⟩
   have hji:(n:Int)-1-i=j:=by omega
   have ha':Hid (l'[i]? =some a):=by unfold Hid;rw [<-ha];exact List.getElem?_eq_getElem _
   have hb2:Hid (l'[n-1-i]? =some b):=by unfold Hid;rw [<-hb'];exact List.getElem?_eq_getElem _
   clear ha hb'
   rw [hj] at p2
   have hjn:Hid (n-1-i=j):=hj
   clear hj
   obtain ⟨q0,q1⟩:=p1
   obtain ⟨r0,r1⟩:=p2
   have hf:=qK hrow
   have hij: ¬i=j:=by omega
   have hij': ¬j=i:=by omega
   have c1:(i:Int)<(j:Int):=by omega
   have c2:(i:Int)<(n:Int):=by omega
   have c3:(j:Int)<(n:Int):=by omega
   rw [hji]
   have hl2:Hid (l'.length=n):=hl'
   clear hl'
   go_wp2_with fail
   go_region
   go_wp2_with fail
   have h1:=XT (i:=i) b hl2.out.symm (by have:=hl2.out;omega) hrow
   have h2:=XT (l:=l'.set i b) (i:=j) a (by rw [List.length_set];exact hl2.out.symm) (by rw [List.length_set];have:=hl2.out;omega) h1
   have hg:=zh (kC wr g i b) (kC (Wf wr g i b) g j a)
   have h3:=hbel.grown hg (by have:=hbel.size;omega) (fun k e=>by cases e;exact hbase)
   have hT2:=Vd hT.out (by have:=hn'.out;omega) a b ha'.out (by have:=hb2.out;rw [<-hn'.out];exact this)
   rw [<-hn'.out,hjn.out] at hT2
   go_roundw
   case rel=>exact ⟨i+1,_,by go_num,by go_num,by omega,hT2,h2,h3.drew⟩
   case measure=>simp [intOf];omega
  ·have c1: ¬((i:Int)<(n:Int)-1-i):=by omega
   go_wp2_with fail
   go_end0
   have:=Uv hT.out (by have:=hn'.out;omega)
   subst this
   exact ⟨rfl,hrow,hbel⟩
end Go.Proofs.YtcclgodahlinbaaGreatDoor
