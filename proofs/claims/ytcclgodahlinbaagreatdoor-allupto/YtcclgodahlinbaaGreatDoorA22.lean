import Derived.Test.YtcclgodahlinbaaGreatDoorA15
import Derived.Test.YtcclgodahlinbaaGreatDoorA17
import Derived.Test.YtcclgodahlinbaaGreatDoorA21
namespace Go.Proofs.YtcclgodahlinbaaGreatDoor
set_option maxHeartbeats 16000000
open Tryz Go.RowKit Go
set_option maxRecDepth 100000
def GI (s:zk):Prop:=(s.kind=32\/s.kind=45\/s.kind=43)/\s.text.size<=1048576
theorem YS {ops:Array Oper} {rest:List Oper} {o:Oper} {a:Act} {w:World} {Q:Exit->Act->World->Prop} (hgd:o.guard=none) (s x:Operand)
 (ho:o.op= .call { callee:= .builtin .append,args:= #[s,x],argTypes:= #[59,59] }) {base:Nat} {v:Value} {A B:List zk} (hs:a.eval s=v) (hA:w.ownsRow base 93 2 v A.length (zg A))
 {vx:Value} (hx:a.eval x=vx) (hX:w.ownsRow base 93 2 vx B.length (zg B)) (hn:A.length+B.length<=4000000) (hb:base<=w.heap.size)
 (h: ∀v' w',w'.ownsRow base 93 2 v' (A.length+B.length) (zg (A++B))->w.grownBy w' v.ownBlock->(v'.ownBlock=v.ownBlock\/ ∀g,v'.ownBlock=some g->w.heap.size<=g)->
  wpList prog ops Q rest (a.put o.dst v') w'):wpList prog ops Q (o::rest) a w:=by
 obtain ⟨i0,hi,hz0,hz1,hz2⟩:=info_parts yJ
 rcases hX.2 with ⟨rfl,h0⟩ | ⟨g,cap,cur,rfl,hbg,hg,hnc,hcm,hcs,htake⟩
 ·obtain rfl:B= []:=List.eq_nil_of_length_eq_zero h0
  refine wpList_append_own_none hgd s x 59 ho base 93 i0 2 underlying59 hi v A.length (zg A) hs hA hx ?_
  exact h v w (by simpa using hA) ⟨rfl,rfl,rfl,Nat.le_refl _,fun _ _ _=>rfl⟩ (.inl rfl)
 ·refine zm hgd s x 59 ho base 93 i0 _ 2 24 underlying59 hi hz0 hz1 hz2 rfl (by decide) v A.length (zg A) hs hA ⟨g,0,none⟩ B.length cap (zg B) hx hX.1 (fun j u hu=>hX.cells (g:=g) rfl j u hu) (Ve B) (by unfold maxLen;omega) (by omega) hb ?_
  intro v' w' h1 h2 h3
  exact h v' w' (by rw [zB];exact h1) h2 h3
theorem Wl {L:List zk} {a:Option Addr} {cap:Nat} {w:World} (hS:zJ w.heap.size w (.slice a L.length cap) L) (hL:L.length<=1048576) (hK: ∀s∈L,GI s):
 Calls prog 70 #[.slice a L.length cap] w fun e w'=> ∃v,e= .returned v/\w'.ownsRow w.heap.size 93 2 v (yX L).length (zg (yX L))/\Below w.heap.size w w':=by
 obtain ⟨i0,hi,hz0,hz1,hz2⟩:=info_parts yJ
 obtain ⟨W0,hmk,hM,hgm⟩:=run_makeSlice_owned (P:=prog) (w:=w) w.heap.size 59 93 i0 _ 2 underlying59 hi hz0 hz1 .i64 .i64 L.length (by omega) (by rw [hz2];omega) (by unfold maxLen;omega) (Nat.le_refl _)
 have hb0:Below w.heap.size w W0:=(Below.refl _ _).grown hgm (Nat.le_refl _) (fun k e=>by cases e)
 have hTw0:Two w.heap.size (.slice (some ⟨w.heap.size,0,none⟩) 0 L.length) (.slice none 0 0) (revF (L.take 0)) W0:=⟨hM,World.ownsRow_nil _ _ _ _,.inl rfl⟩
 clear hM hgm
 go_enter func70,ntmps70
 go_wp2_with fail
 clear hmk
 go_loopg [3,4,13] L.length (fun g vt va t wr=> ∃k:Nat,g=L.length-k/\k<=L.length/\t= .int .i64 k/\Two w.heap.size vt va (revF (L.take k)) wr/\Below w.heap.size w wr)
 case atStart=>exact ⟨0,by omega,by omega,rfl,hTw0,hb0⟩
 case round=>
  obtain ⟨k,hgk,hkl,rfl,hTw,hbel⟩:=hrel
  have hG:Hid (gk=L.length-k):=hgk
  clear hgk hTw0 hb0
  have hsw:=hbel.size
  have hrl:=Qh (L.take k)
  rw [List.length_take,Nat.min_eq_left hkl] at hrl
  have hrl':(revF (L.take k)).1.length+(revF (L.take k)).2.length<=1048576:=by omega
  clear hrl
  by_cases hk:k<L.length
  ·have hkI:(k:Int)<L.length:=by omega
   obtain ⟨bb,rfl,hbB,r0,r1⟩:=(hS.below hbel).at hk
   have hF:=hK _ (List.getElem_mem hk)
   have hrt:Hid (revF (L.take (k+1))=xZ (revF (L.take k)) L[k]):=Zw hk
   generalize L[k]=s at *
   generalize revF (L.take k)=R at *
   have hB1:=heap_alloc_new wr (.cells #[.int .u8 (s.kind:Int),.string s.text] 93)
   have hT1:=hTw.alloc (.cells #[.int .u8 (s.kind:Int),.string s.text] 93)
   have hb1:=hbel.alloc hsw (.cells #[.int .u8 (s.kind:Int),.string s.text] 93)
   have hz1':(wr.alloc (.cells #[.int .u8 (s.kind:Int),.string s.text] 93)).heap.size=wr.heap.size+1:=by simp
   have y0:(wr.alloc (.cells #[.int .u8 (s.kind:Int),.string s.text] 93)).cell? ⟨wr.heap.size,0,none⟩=some (.int .u8 (s.kind:Int)):=za hB1 rfl
   have y1:(wr.alloc (.cells #[.int .u8 (s.kind:Int),.string s.text] 93)).cell? ⟨wr.heap.size,1,none⟩=some (.string s.text):=za hB1 rfl
   go_wp2_with fail
   generalize wr.alloc (.cells #[.int .u8 (s.kind:Int),.string s.text] 93)=W1 at *
   refine (Xo s.text W1 (by have:=hF.2;omega)).mono ?_
   rintro e W2 ⟨rfl,b2⟩
   have hT2:=hT1.below b2
   have hb2:=hb1.trans (b2.mono (by omega))
   have hsz2:=hb2.size
   have y0':W2.cell? ⟨wr.heap.size,0,none⟩=some (.int .u8 (s.kind:Int)):=(b2.cell (p:=⟨wr.heap.size,0,none⟩) (by show wr.heap.size<_;omega)).trans y0
   clear hTw hT1 hB1 y0 y1 hb1
   have hone: ∀(kk:Int),∀u∈ [Value.int .u8 kk,Value.string s.text],u.oneCell'=true:=by intro kk u hu;simp at hu;rcases hu with rfl | rfl<;>rfl
   obtain ⟨aT,cT,rfl⟩:=zn hT2.t
   obtain ⟨aA,cA,rfl⟩:=zn hT2.a
   rcases hF.1 with hk32 | hk45 | hk43
   ·rw [hk32] at y0'
    have hrt2:Hid (revF (L.take (k+1))=(R.1++R.2++ [⟨32,s.text⟩],[])):=by unfold Hid;rw [hrt.out];unfold xZ;rw [if_neg (by omega),if_neg (by omega)]
    clear hrt hk32
    have hcut:=fun w=>Dj (a:=aA) (n:=R.2.length) (c:=cA) w
    go_wp2_with (first | (at_builtin;refine YS rfl (.tmp 22) (.tmp 23) rfl rfl hT2.t rfl hT2.a (by omega) hsz2 ?_;intro v3 w3 hown3 hgr3 hnew3;have hT3:=hT2.newT (T:=R.1++R.2) (by rw [List.length_append];exact hown3) hgr3 hnew3;obtain ⟨a3,c3,rfl⟩:=zn hown3;have hsz3:=hgr3.size) | (at_builtin;refine zm rfl (.tmp 27) (.tmp 30) 59 rfl w.heap.size 93 i0 _ 2 24 underlying59 hi hz0 hz1 hz2 rfl (by decide) (.slice a3 (R.1.length+R.2.length) c3) (R.1.length+R.2.length) (zg (R.1++R.2)) rfl (hown3.alloc _) ⟨w3.heap.size,0,none⟩ 1 1 [.int .u8 32,.string s.text] rfl rfl (zt w3 [.int .u8 32,.string s.text] 93) (hone 32) (by unfold maxLen;omega) (by omega) (by simp;omega) ?_;intro v' w4 hown4 hgr hnew))
    have hT3c:Two w.heap.size (.slice a3 (R.1.length+R.2.length) c3) (.slice aA 0 cA) (R.1++R.2,[]) w3:=⟨hT3.t,Ft hT3.a,by rw [Wn aA 0 R.2.length cA];exact hT3.ap⟩
    go_roundg (L.length-(k+1))
    ·refine ⟨k+1,rfl,by omega,by push_cast;rfl,?_,?_⟩
     ·rw [hrt2.out]
      exact (hT3c.alloc _).newT (T:=R.1++R.2++ [⟨32,s.text⟩]) (by rw [List.length_append,List.length_append,zB];exact hown4) hgr hnew
     ·exact ((hb2.grown hgr3 hsz2 (fun j e=>(hT2.t.lt j e).1)).alloc (by omega) _).grown hgr (by simp;omega) (fun j e=>(hown3.lt j e).1)
    ·have:=hG.out;omega
   ·rw [hk45] at y0'
    have hrt2:Hid (revF (L.take (k+1))=(R.1,R.2++ [⟨43,s.text⟩])):=by unfold Hid;rw [hrt.out];unfold xZ;rw [if_pos hk45]
    clear hrt hk45
    go_wp2_with (at_builtin;refine zm rfl (.tmp 34) (.tmp 37) 59 rfl w.heap.size 93 i0 _ 2 24 underlying59 hi hz0 hz1 hz2 rfl (by decide) (.slice aA R.2.length cA) R.2.length (zg R.2) rfl (hT2.a.alloc _) ⟨W2.heap.size,0,none⟩ 1 1 [.int .u8 43,.string s.text] rfl rfl (zt W2 [.int .u8 43,.string s.text] 93) (hone 43) (by unfold maxLen;omega) (by omega) (by simp;omega) ?_;intro v' w3 hown3 hgr hnew)
    go_roundg (L.length-(k+1))
    ·refine ⟨k+1,rfl,by omega,by push_cast;rfl,?_,?_⟩
     ·rw [hrt2.out]
      exact (hT2.alloc _).newA (by rw [List.length_append,zB];exact hown3) hgr hnew
     ·exact (hb2.alloc hsz2 _).grown hgr (by simp;omega) (fun j e=>(hT2.a.lt j e).1)
    ·have:=hG.out;omega
   ·rw [hk43] at y0'
    have hrt2:Hid (revF (L.take (k+1))=(R.1++ [⟨45,s.text⟩],R.2)):=by unfold Hid;rw [hrt.out];unfold xZ;rw [if_neg (by omega),if_pos hk43]
    clear hrt hk43
    go_wp2_with (at_builtin;refine zm rfl (.tmp 41) (.tmp 44) 59 rfl w.heap.size 93 i0 _ 2 24 underlying59 hi hz0 hz1 hz2 rfl (by decide) (.slice aT R.1.length cT) R.1.length (zg R.1) rfl (hT2.t.alloc _) ⟨W2.heap.size,0,none⟩ 1 1 [.int .u8 45,.string s.text] rfl rfl (zt W2 [.int .u8 45,.string s.text] 93) (hone 45) (by unfold maxLen;omega) (by omega) (by simp;omega) ?_;intro v' w3 hown3 hgr hnew)
    go_roundg (L.length-(k+1))
    ·refine ⟨k+1,rfl,by omega,by push_cast;rfl,?_,?_⟩
     ·rw [hrt2.out]
      exact (hT2.alloc _).newT (by rw [List.length_append,zB];exact hown3) hgr hnew
     ·exact (hb2.alloc hsz2 _).grown hgr (by simp;omega) (fun j e=>(hT2.t.lt j e).1)
    ·have:=hG.out;omega
  ·obtain rfl:k=L.length:=by omega
   rw [List.take_length] at hTw hrl'
   obtain ⟨aT,cT,rfl⟩:=zn hTw.t
   obtain ⟨aA,cA,rfl⟩:=zn hTw.a
   have hRL:Hid (yX L=(revF L).1++(revF L).2):=rfl
   generalize revF L=R at *
   go_wp2_with (at_builtin;refine YS rfl (.tmp 47) (.tmp 48) rfl rfl hTw.t rfl hTw.a (by omega) hsw ?_;intro v3 w3 hown3 hgr3 hnew3;obtain ⟨a3,c3,rfl⟩:=zn hown3)
   go_ret
   exact ⟨_,rfl,by rw [hRL.out,List.length_append];exact hown3,hbel.grown hgr3 hsw (fun j e=>(hTw.t.lt j e).1)⟩
theorem Wk {h:zx} {a:Option Addr} {cap:Nat} {w:World} (hS:zJ w.heap.size w (.slice a h.lines.length cap) h.lines) (hL:h.lines.length<=1048576) (hK: ∀s∈h.lines,GI s):
 Calls prog 32 #[kp h (.slice a h.lines.length cap)] w fun e w'=> ∃v,e= .returned (kp (qE h) v)/\w'.ownsRow w.heap.size 93 2 v (yX h.lines).length (zg (yX h.lines))/\Below w.heap.size w w':=by
 have hb1:=(Below.refl w.heap.size w).alloc (Nat.le_refl _) (.cells #[.int .i64 (h.fr:Int),.int .i64 (h.fc:Int),.int .i64 (h.tr:Int),.int .i64 (h.tc:Int),.slice a h.lines.length cap] 61)
 have hB1:=heap_alloc_new w (.cells #[.int .i64 (h.fr:Int),.int .i64 (h.fc:Int),.int .i64 (h.tr:Int),.int .i64 (h.tc:Int),.slice a h.lines.length cap] 61)
 have hz1:(w.alloc (.cells #[.int .i64 (h.fr:Int),.int .i64 (h.fc:Int),.int .i64 (h.tr:Int),.int .i64 (h.tc:Int),.slice a h.lines.length cap] 61)).heap.size=w.heap.size+1:=by simp
 generalize hW1:w.alloc (.cells #[.int .i64 (h.fr:Int),.int .i64 (h.fc:Int),.int .i64 (h.tr:Int),.int .i64 (h.tc:Int),.slice a h.lines.length cap] 61)=W1 at *
 have hb2:=hb1.alloc (by omega) jQ
 have hB2:=heap_alloc_new W1 jQ
 rw [hz1] at hB2
 have hB1':=(Below.heap_alloc W1 jQ w.heap.size (by omega)).trans hB1
 have hz2:(W1.alloc jQ).heap.size=w.heap.size+2:=by simp;omega
 have hWW:Hid (w.alloc (.cells #[.int .i64 (h.fr:Int),.int .i64 (h.fc:Int),.int .i64 (h.tr:Int),.int .i64 (h.tc:Int),.slice a h.lines.length cap] 61)=W1):=hW1
 clear hB1 hb1
 subst hW1
 go_enter func32,ntmps32
 go_wp2_with fail
 generalize (w.alloc (.cells #[.int .i64 (h.fr:Int),.int .i64 (h.fc:Int),.int .i64 (h.tr:Int),.int .i64 (h.tc:Int),.slice a h.lines.length cap] 61)).alloc jQ=W at *
 have hrl:Calls prog 70 #[.slice a h.lines.length cap] W.drew fun e w'=> ∃v,e= .returned v/\((∃al cl,v= .slice al (yX h.lines).length cl)/\w'.ownsRow W.heap.size 93 2 v (yX h.lines).length (zg (yX h.lines))/\Below W.heap.size W.drew w'):=by
  refine (Wl (w:=W.drew) ((hS.below hb2.drew).mono hb2.size) hL hK).mono ?_
  rintro e w' ⟨v,rfl,ho,hb⟩
  exact ⟨v,rfl,zn ho,ho,hb⟩
 have hX:Hid (∀w1,Below W.heap.size W.drew w1->w1.heap[w.heap.size]? =W.heap[w.heap.size]? /\w1.heap[w.heap.size+1]? =some jQ/\Below w.heap.size w w1/\w.heap.size+2<=w1.heap.size):=by
  intro w1 hb
  have hz:=hb.size
  have e:W.drew.heap.size=W.heap.size:=rfl
  exact ⟨hb.block w.heap.size (by omega),(hb.block (w.heap.size+1) (by omega)).trans hB2,hb2.drew.trans (hb.mono (by omega)),by omega⟩
 have x0:W.cell? ⟨w.heap.size,0,none⟩=some (.int .i64 (h.fr:Int)):=za hB1' rfl
 have x1:W.cell? ⟨w.heap.size,1,none⟩=some (.int .i64 (h.fc:Int)):=za hB1' rfl
 have x2:W.cell? ⟨w.heap.size,2,none⟩=some (.int .i64 (h.tr:Int)):=za hB1' rfl
 have x3:W.cell? ⟨w.heap.size,3,none⟩=some (.int .i64 (h.tc:Int)):=za hB1' rfl
 have x4:W.cell? ⟨w.heap.size,4,none⟩=some (.slice a h.lines.length cap):=za hB1' rfl
 have hln:Hid (yX h.lines=yX h.lines):=rfl
 generalize hRL:yX h.lines=RL at *
 have hRLH:Hid (yX h.lines=RL):=hRL
 have hWz:w.heap.size<=W.heap.size:=by omega
 clear hRL hz2 hWW hln hb2 hB2 hz1
 have hI:W.drew.heap[w.heap.size]? =some (.cells #[.int .i64 (h.fr:Int),.int .i64 (h.fc:Int),.int .i64 (h.tr:Int),.int .i64 (h.tc:Int),.slice a h.lines.length cap] 61 (0,0)):=hB1'
 refine wp_region_any yg (yS.any (I:=fun w'=>w'.heap[w.heap.size]? =some (.cells #[.int .i64 (h.fr:Int),.int .i64 (h.fc:Int),.int .i64 (h.tr:Int),.int .i64 (h.tc:Int),.slice a h.lines.length cap] 61 (0,0))) ?_)
 refine zp (i:=0) (n:=12) (v:= .pointer (some ⟨w.heap.size,2,none⟩)) rfl (by kernel_rfl) (fun c a w h=>h) ⟨by simp [Region.wanted],fun w' hw=> ?_⟩ ?_
 ·simp [execOp,go_sem,Act.eval]
 refine zp (i:=1) (n:=11) (v:= .int .i64 (h.tr:Int)) rfl (by kernel_rfl) (fun c a w h=>h) ⟨by simp [Region.wanted],fun w' hw=> ?_⟩ ?_
 ·have hc:w'.cell? ⟨w.heap.size,2,none⟩=some (.int .i64 (h.tr:Int)):=za (k:=2) hw rfl
  simp [execOp,go_sem,Act.eval,Act.put,hc]
 refine zp (i:=2) (n:=10) (v:= .pointer (some ⟨w.heap.size,3,none⟩)) rfl (by kernel_rfl) (fun c a w h=>h) ⟨by simp [Region.wanted],fun w' hw=> ?_⟩ ?_
 ·simp [execOp,go_sem,Act.eval,Act.put]
 refine zp (i:=3) (n:=9) (v:= .int .i64 (h.tc:Int)) rfl (by kernel_rfl) (fun c a w h=>h) ⟨by simp [Region.wanted],fun w' hw=> ?_⟩ ?_
 ·have hc:w'.cell? ⟨w.heap.size,3,none⟩=some (.int .i64 (h.tc:Int)):=za (k:=3) hw rfl
  simp [execOp,go_sem,Act.eval,Act.put,hc]
 refine zp (i:=4) (n:=8) (v:= .pointer (some ⟨w.heap.size,0,none⟩)) rfl (by kernel_rfl) (fun c a w h=>h) ⟨by simp [Region.wanted],fun w' hw=> ?_⟩ ?_
 ·simp [execOp,go_sem,Act.eval,Act.put]
 refine zp (i:=5) (n:=7) (v:= .int .i64 (h.fr:Int)) rfl (by kernel_rfl) (fun c a w h=>h) ⟨by simp [Region.wanted],fun w' hw=> ?_⟩ ?_
 ·have hc:w'.cell? ⟨w.heap.size,0,none⟩=some (.int .i64 (h.fr:Int)):=za (k:=0) hw rfl
  simp [execOp,go_sem,Act.eval,Act.put,hc]
 refine zp (i:=6) (n:=6) (v:= .pointer (some ⟨w.heap.size,1,none⟩)) rfl (by kernel_rfl) (fun c a w h=>h) ⟨by simp [Region.wanted],fun w' hw=> ?_⟩ ?_
 ·simp [execOp,go_sem,Act.eval,Act.put]
 refine zp (i:=7) (n:=5) (v:= .int .i64 (h.fc:Int)) rfl (by kernel_rfl) (fun c a w h=>h) ⟨by simp [Region.wanted],fun w' hw=> ?_⟩ ?_
 ·have hc:w'.cell? ⟨w.heap.size,1,none⟩=some (.int .i64 (h.fc:Int)):=za (k:=1) hw rfl
  simp [execOp,go_sem,Act.eval,Act.put,hc]
 refine zp (i:=8) (n:=4) (v:= .pointer (some ⟨w.heap.size,4,none⟩)) rfl (by kernel_rfl) (fun c a w h=>h) ⟨by simp [Region.wanted],fun w' hw=> ?_⟩ ?_
 ·simp [execOp,go_sem,Act.eval,Act.put]
 refine zp (i:=9) (n:=3) (v:= .slice a h.lines.length cap) rfl (by kernel_rfl) (fun c a w h=>h) ⟨by simp [Region.wanted],fun w' hw=> ?_⟩ ?_
 ·have hc:w'.cell? ⟨w.heap.size,4,none⟩=some (.slice a h.lines.length cap):=za (k:=4) hw rfl
  simp [execOp,go_sem,Act.eval,Act.put,hc]
 refine yy (i:=10) (n:=2) hI (by kernel_rfl) ?_
 refine xK rfl rfl 70 _ _ rfl #[.slice a h.lines.length cap] (by simp [Act.eval,Act.put]) (KT _ _) (fun v w'=>(∃al cl,v= .slice al RL.length cl)/\w'.ownsRow W.heap.size 93 2 v RL.length (zg RL)/\Below W.heap.size W.drew w') hrl ?_
 rintro v w1 ⟨⟨al,cl,rfl⟩,hown,hbw⟩
 obtain ⟨e1,e2,e3,e4⟩:=hX.out w1 hbw
 have hI1:w1.heap[w.heap.size]? =some (.cells #[.int .i64 (h.fr:Int),.int .i64 (h.fc:Int),.int .i64 (h.tr:Int),.int .i64 (h.tc:Int),.slice a h.lines.length cap] 61 (0,0)):=e1.trans hB1'
 refine zp (i:=11) (n:=1) (v:= .agg #[.int .i64 (h.tr:Int),.int .i64 (h.tc:Int),.int .i64 (h.fr:Int),.int .i64 (h.fc:Int),.slice al RL.length cl]) rfl (by kernel_rfl) (fun c a w h=>h) ⟨by simp [Region.wanted],fun w' hw=> ?_⟩ ?_
 ·simp [execOp,go_sem,Act.eval,Act.put]
 refine yy (i:=12) (n:=0) hI1 (by kernel_rfl) ?_
 have r0:w1.cell? ⟨w.heap.size+1,0,none⟩=some (.int .i64 0):=za e2 rfl
 have r1:w1.cell? ⟨w.heap.size+1,1,none⟩=some (.int .i64 0):=za e2 rfl
 have r2:w1.cell? ⟨w.heap.size+1,2,none⟩=some (.int .i64 0):=za e2 rfl
 have r3:w1.cell? ⟨w.heap.size+1,3,none⟩=some (.int .i64 0):=za e2 rfl
 have r4:w1.cell? ⟨w.heap.size+1,4,none⟩=some (.slice none 0 0):=za e2 rfl
 have rf: ∀k,w1.frozen? ⟨w.heap.size+1,k,none⟩=false:=fun k=>zi e2
 refine xv (w':=((((w1.setCell ⟨w.heap.size+1,0,none⟩ (.int .i64 (h.tr:Int))).setCell ⟨w.heap.size+1,1,none⟩ (.int .i64 (h.tc:Int))).setCell ⟨w.heap.size+1,2,none⟩ (.int .i64 (h.fr:Int))).setCell ⟨w.heap.size+1,3,none⟩ (.int .i64 (h.fc:Int))).setCell ⟨w.heap.size+1,4,none⟩ (.slice al RL.length cl)) rfl rfl ?_ ?_
 ·simp [execOp,go_sem,Act.eval,Act.put,r0,r1,r2,r3,r4,rf]
 have hF:=Sd e2 (.int .i64 (h.tr:Int)) (.int .i64 (h.tc:Int)) (.int .i64 (h.fr:Int)) (.int .i64 (h.fc:Int)) (.slice al RL.length cl)
 have hbF:=((((e3.setCell (p:=⟨w.heap.size+1,0,none⟩) (Nat.le_succ _) (.int .i64 (h.tr:Int))).setCell (p:=⟨w.heap.size+1,1,none⟩) (Nat.le_succ _) (.int .i64 (h.tc:Int))).setCell (p:=⟨w.heap.size+1,2,none⟩) (Nat.le_succ _) (.int .i64 (h.fr:Int))).setCell (p:=⟨w.heap.size+1,3,none⟩) (Nat.le_succ _) (.int .i64 (h.fc:Int))).setCell (p:=⟨w.heap.size+1,4,none⟩) (Nat.le_succ _) (.slice al RL.length cl)
 have hoF:((((((w1.setCell ⟨w.heap.size+1,0,none⟩ (.int .i64 (h.tr:Int))).setCell ⟨w.heap.size+1,1,none⟩ (.int .i64 (h.tc:Int))).setCell ⟨w.heap.size+1,2,none⟩ (.int .i64 (h.fr:Int))).setCell ⟨w.heap.size+1,3,none⟩ (.int .i64 (h.fc:Int))).setCell ⟨w.heap.size+1,4,none⟩ (.slice al RL.length cl))).ownsRow W.heap.size 93 2 (.slice al RL.length cl) RL.length (zg RL):=
  hown.kept (zh (zh (zh (zh (zc _ _ _ _) (zc _ _ _ _)) (zc _ _ _ _)) (zc _ _ _ _)) (zc _ _ _ _)) (.inr (zT hown e2 (by decide)))
 refine qi ?_ (by kernel_rfl) ?_
 ·show _=_
  rw [zd _ _ _ _ _ (by omega),zd _ _ _ _ _ (by omega),zd _ _ _ _ _ (by omega),zd _ _ _ _ _ (by omega),zd _ _ _ _ _ (by omega)]
  exact hI1
 generalize ((((w1.setCell ⟨w.heap.size+1,0,none⟩ (.int .i64 (h.tr:Int))).setCell ⟨w.heap.size+1,1,none⟩ (.int .i64 (h.tc:Int))).setCell ⟨w.heap.size+1,2,none⟩ (.int .i64 (h.fr:Int))).setCell ⟨w.heap.size+1,3,none⟩ (.int .i64 (h.fc:Int))).setCell ⟨w.heap.size+1,4,none⟩ (.slice al RL.length cl)=WF at *
 have s0:WF.cell? ⟨w.heap.size+1,0,none⟩=some (.int .i64 (h.tr:Int)):=za (k:=0) hF rfl
 have s1:WF.cell? ⟨w.heap.size+1,1,none⟩=some (.int .i64 (h.tc:Int)):=za (k:=1) hF rfl
 have s2:WF.cell? ⟨w.heap.size+1,2,none⟩=some (.int .i64 (h.fr:Int)):=za (k:=2) hF rfl
 have s3:WF.cell? ⟨w.heap.size+1,3,none⟩=some (.int .i64 (h.fc:Int)):=za (k:=3) hF rfl
 have s4:WF.cell? ⟨w.heap.size+1,4,none⟩=some (.slice al RL.length cl):=za (k:=4) hF rfl
 go_wp2_with fail
 refine bodyPost_ret (v:= .agg #[.int .i64 (h.tr:Int),.int .i64 (h.tc:Int),.int .i64 (h.fr:Int),.int .i64 (h.fc:Int),.slice al RL.length cl]) ?_ rfl ⟨_,rfl,?_,hbF⟩
 ·simp [results,results32,go_sem,s0,s1,s2,s3,s4]
 ·rw [hRLH.out]
  exact qe hoF (by omega)
theorem Jq {hs:List zx} {a:Option Addr} {cap:Nat} {w:World} (hH:zO w.heap.size w (.slice a hs.length cap) hs) (hok:zQ 0 0 (hs.map HI.ofM)=true) (hLim:Lim (hs.map HI.ofM)) (hL:hs.length<=300000) (hsm: ∀h∈hs,h.lines.length<=1048576/\ ∀s∈h.lines,GI s):
 Calls prog 15 #[.agg #[.slice a hs.length cap]] w fun e w'=> ∃al cl hv,e= .returned (.tuple #[.agg #[.slice al hv.length cl],.int .i64 0])/\HSo w.heap.size (.slice al hv.length cl) hv w'/\hv.map (·.1)=hs.map qE/\Below w.heap.size w w':=by
 obtain ⟨i0,hi,hz0,hz1,hz2⟩:=info_parts qk
 have hb0:=((Below.refl w.heap.size w).alloc (Nat.le_refl _) (.cells #[.slice a hs.length cap] 32)).alloc (by simp) (.cells #[.slice none 0 0] 32)
 have hP1:=heap_alloc_new w (.cells #[.slice a hs.length cap] 32)
 have hP2:=heap_alloc_new (w.alloc (.cells #[.slice a hs.length cap] 32)) (.cells #[.slice none 0 0] 32)
 rw [World.size_alloc] at hP2
 have hP1':=(Below.heap_alloc (w.alloc (.cells #[.slice a hs.length cap] 32)) (.cells #[.slice none 0 0] 32) w.heap.size (by simp)).trans hP1
 have hz:((w.alloc (.cells #[.slice a hs.length cap] 32)).alloc (.cells #[.slice none 0 0] 32)).heap.size=w.heap.size+2:=by simp
 go_enter func15,ntmps15
 go_wp2_with fail
 generalize (w.alloc (.cells #[.slice a hs.length cap] 32)).alloc (.cells #[.slice none 0 0] 32)=W0 at *
 have hir:=js (hs:=hs.map HI.ofM) (a:=a) (cap:=cap) (w:=W0) (by rw [List.length_map];exact yH.of_hunks ((hH.below hb0).mono hb0.size)) hLim
 rw [List.length_map,hok] at hir
 refine hir.mono ?_
 rintro e W1 ⟨rfl,b1⟩
 have hbW1:=hb0.trans (b1.mono (by omega))
 have hsz1:=b1.size
 have hQ1:=(b1.block w.heap.size (by omega)).trans hP1'
 have hQ2:=(b1.block (w.heap.size+1) (by omega)).trans hP2
 have y0:W1.cell? ⟨w.heap.size,0,none⟩=some (.slice a hs.length cap):=za hQ1 rfl
 clear hP1 hP2 hP1' hQ1
 go_wp2_with fail
 go_loopg [4,14] hs.length (fun g v t wr=> ∃(k:Nat) (hv:List HV),g=hs.length-k/\k<=hs.length/\t= .int .i64 k/\HSo (w.heap.size+2) v hv wr/\hv.map (·.1)=(hs.take k).map qE/\wr.heap[w.heap.size+1]? =some (.cells #[.slice none 0 0] 32 (0,0))/\Below w.heap.size w wr)
 case atStart=>exact ⟨0,[],by omega,by omega,rfl,.inl ⟨rfl,rfl⟩,rfl,hQ2,hbW1⟩
 case round=>
  obtain ⟨k,hv,hgk,hkl,rfl,hso,hmap,hQ,hbel⟩:=hrel
  have hG:Hid (gk=hs.length-k):=hgk
  clear hgk hQ2 hbW1
  have hsw:=hbel.size
  have hltQ:w.heap.size+1<wr.heap.size:=(Array.getElem?_eq_some_iff.1 hQ).1
  have hvlH:Hid (hv.length=k):=by unfold Hid;have:=congrArg List.length hmap;simp at this;omega
  have hvl':hv.length<=300000:=by have:=hvlH.out;omega
  by_cases hk:k<hs.length
  ·have hkI:(k:Int)<hs.length:=by omega
   obtain ⟨b,a',c',rfl,hbB,r0,r1,r2,r3,r4,hst⟩:=(hH.below hbel).at hk
   obtain ⟨l1,l2⟩:=hsm _ (List.getElem_mem hk)
   have hmk:Hid ((hs.take (k+1)).map qE=(hs.take k).map qE++ [qE hs[k]]):=by unfold Hid;rw [List.take_succ_eq_append_getElem hk,List.map_append];rfl
   generalize hs[k]=h at *
   have hB1:=heap_alloc_new wr (.cells #[.int .i64 (h.fr:Int),.int .i64 (h.fc:Int),.int .i64 (h.tr:Int),.int .i64 (h.tc:Int),.slice a' h.lines.length c'] 61)
   have hso1:=hso.alloc (.cells #[.int .i64 (h.fr:Int),.int .i64 (h.fc:Int),.int .i64 (h.tr:Int),.int .i64 (h.tc:Int),.slice a' h.lines.length c'] 61)
   have hbl1:=hbel.alloc hsw (.cells #[.int .i64 (h.fr:Int),.int .i64 (h.fc:Int),.int .i64 (h.tr:Int),.int .i64 (h.tc:Int),.slice a' h.lines.length c'] 61)
   have hbr1:=(Below.refl w.heap.size wr).alloc hsw (.cells #[.int .i64 (h.fr:Int),.int .i64 (h.fc:Int),.int .i64 (h.tr:Int),.int .i64 (h.tc:Int),.slice a' h.lines.length c'] 61)
   have hz1':(wr.alloc (.cells #[.int .i64 (h.fr:Int),.int .i64 (h.fc:Int),.int .i64 (h.tr:Int),.int .i64 (h.tc:Int),.slice a' h.lines.length c'] 61)).heap.size=wr.heap.size+1:=by simp
   have hQ1:=(Below.heap_alloc wr (.cells #[.int .i64 (h.fr:Int),.int .i64 (h.fc:Int),.int .i64 (h.tr:Int),.int .i64 (h.tc:Int),.slice a' h.lines.length c'] 61) (w.heap.size+1) hltQ).trans hQ
   have y0:=za (k:=0) hB1 rfl
   have y1:=za (k:=1) hB1 rfl
   have y2:=za (k:=2) hB1 rfl
   have y3:=za (k:=3) hB1 rfl
   have y4:=za (k:=4) hB1 rfl
   go_wp2_with fail
   generalize wr.alloc (.cells #[.int .i64 (h.fr:Int),.int .i64 (h.fc:Int),.int .i64 (h.tr:Int),.int .i64 (h.tc:Int),.slice a' h.lines.length c'] 61)=W2 at *
   refine (Wk ((hst.below hbr1).mono (by omega)) l1 l2).mono ?_
   rintro e W3 ⟨vl,rfl,hvo,b3⟩
   have hsz3:=b3.size
   obtain ⟨avl,cvl,rfl⟩:=zn hvo
   have hso3:=hso1.below b3
   obtain ⟨av,cv,rfl⟩:=hso3.len
   have hown3:=hso3.owns
   have hone: ∀u∈ [Value.int .i64 ((qE h).fr:Int),.int .i64 ((qE h).fc:Int),.int .i64 ((qE h).tr:Int),.int .i64 ((qE h).tc:Int),.slice avl (yX h.lines).length cvl],u.oneCell'=true:=by intro u hu;simp at hu;rcases hu with rfl | rfl | rfl | rfl | rfl<;>rfl
   have hps:Hid (∀ob w4 g cap,w4.ownsRow (w.heap.size+2) 61 5 (.slice (some ⟨g,0,none⟩) (hv.length+1) cap) (hv.length+1) (hunkCells hv++xo (qE h,.slice avl (yX h.lines).length cvl))->(W3.alloc ob).grownBy w4 (Value.slice av hv.length cv).ownBlock->
    HSo (w.heap.size+2) (.slice (some ⟨g,0,none⟩) (hv.length+1) cap) (hv++ [(qE h,.slice avl (yX h.lines).length cvl)]) w4/\w4.heap[w.heap.size+1]? =some (.cells #[.slice none 0 0] 32 (0,0))/\Below w.heap.size w w4):=by
    intro ob w4 g cap ho hg
    have hvb: ∀j,(Value.slice av hv.length cv).ownBlock=some j->w.heap.size+2<=j:=fun j e=>(hown3.lt j e).1
    refine ⟨hso1.push2 (qE h) b3 hvo (by omega) hg ho,?_,?_⟩
    ·refine (hg.block (w.heap.size+1) (by simp;omega) (fun e=>by have:=hvb _ e.symm;omega)).trans ((Below.heap_alloc W3 ob (w.heap.size+1) (by omega)).trans ((b3.block (w.heap.size+1) (by omega)).trans hQ1))
    ·exact ((hbl1.trans (b3.mono (by omega))).alloc (by omega) ob).grown hg (by simp;omega) (fun j e=>by have:=hvb j e;omega)
   go_wp2_with (at_builtin;refine zm rfl (.tmp 18) (.tmp 21) 30 rfl (w.heap.size+2) 61 i0 _ 5 56 underlying30 hi hz0 hz1 hz2 rfl (by decide) (.slice av hv.length cv) hv.length (hunkCells hv) rfl (hown3.alloc _) ⟨W3.heap.size,0,none⟩ 1 1 [.int .i64 ((qE h).fr:Int),.int .i64 ((qE h).fc:Int),.int .i64 ((qE h).tr:Int),.int .i64 ((qE h).tc:Int),.slice avl (yX h.lines).length cvl] rfl rfl (zt W3 _ _) hone (by unfold maxLen;omega) (by omega) (by simp;omega) ?_;intro v' w4 hown4 hgr4 _;obtain ⟨g',cap',rfl,hg',_⟩:=zv hown4 (Nat.succ_pos _);obtain ⟨p1,p2,p3⟩:=hps.out _ w4 g' cap' hown4 hgr4)
   go_roundg (hs.length-(k+1))
   ·exact ⟨k+1,_,rfl,by omega,by push_cast;rfl,p1,by rw [hmk.out,List.map_append,hmap];rfl,p2,p3⟩
   ·have:=hG.out;omega
  ·obtain rfl:k=hs.length:=by omega
   rw [List.take_length] at hmap
   obtain ⟨av,cv,rfl⟩:=hso.len
   have q0:wr.cell? ⟨w.heap.size+1,0,none⟩=some (.slice none 0 0):=za hQ rfl
   have qf: ∀k,wr.frozen? ⟨w.heap.size+1,k,none⟩=false:=fun k=>zi hQ
   go_wp2_with fail
   refine bodyPost_ret (v:= .tuple #[.agg #[.slice av hv.length cv],.int .i64 0]) ?_ rfl ⟨av,cv,hv,rfl,?_,hmap,?_⟩
   ·have hq:(wr.setCell ⟨w.heap.size+1,0,none⟩ (.slice av hv.length cv)).cell? ⟨w.heap.size+1,0,none⟩=some (.slice av hv.length cv):=za (zb _ _ _ _ _ _ _ hQ) rfl
    simp [results,results15,go_sem,hq]
   ·exact (hso.kept (zc wr (w.heap.size+1) 0 (.slice av hv.length cv)) (fun k e=>by cases e;exact .inr ⟨_,_,_,hQ,by decide,by decide⟩)).mono (by omega)
   ·exact hbel.setCell (p:=⟨w.heap.size+1,0,none⟩) (Nat.le_succ _) _
def HI.toM (h:HI):zx:=⟨h.fr.toNat,h.fc.toNat,h.tr.toNat,h.tc.toNat,h.lines⟩
theorem TN {h:HI} (h1:numOk h.fr h.fc=true) (h2:numOk h.tr h.tc=true):HI.ofM h.toM=h:=by
 rw [zH] at h1 h2
 unfold HI.ofM HI.toM
 obtain ⟨fr,fc,tr,tc,l⟩:=h
 simp only at h1 h2 ⊢
 simp only [HI.mk.injEq,and_true]
 exact ⟨by omega,by omega,by omega,by omega⟩
theorem Xv {hs:List HI} (h:zQ 0 0 hs=true):(hs.map HI.toM).map HI.ofM=hs:=by
 have ha:=xL h
 rw [List.map_map]
 conv=>rhs;rw [<-List.map_id hs]
 refine List.map_congr_left fun x hx=> ?_
 exact TN (ha x hx).1 (ha x hx).2.1
theorem Kh {h:HI} (hb:yw h=true) (hl: ∀s∈h.lines,s.kind<256/\s.text.size<=1048576): ∀s∈h.lines,GI s:=by
 intro s hs
 unfold yw at hb
 simp only [Bool.and_eq_true] at hb
 have h1:=List.all_eq_true.1 hb.1.1.1 s hs
 unfold qQ yn at h1
 simp only [Bool.and_eq_true,Bool.or_eq_true,beq_iff_eq] at h1
 exact ⟨by omega,(hl s hs).2⟩
def revA (hs:List HI):List zx×Int:=if zQ 0 0 hs=true then (hs.map fun h=>qE h.toM,0) else ([],4)
def KC (B:Nat) (w:World) (v:Value) (hs:List HI):Prop:=yH B w v hs/\ ∀ms:List zx,ms.map HI.ofM=hs->zO B w v ms
theorem Vn {hs:List HI} {a:Option Addr} {cap:Nat} {w:World} (hH:KC w.heap.size w (.slice a hs.length cap) hs) (hL:Lim hs):
 Calls prog 15 #[.agg #[.slice a hs.length cap]] w fun e w'=> ∃al cl hv,e= .returned (.tuple #[.agg #[.slice al hv.length cl],.int .i64 (revA hs).2])/\HSo w.heap.size (.slice al hv.length cl) hv w'/\hv.map (·.1)=(revA hs).1/\Below w.heap.size w w':=by
 cases hr:zQ 0 0 hs with
 | true=>
   have hA:revA hs=(hs.map fun h=>qE h.toM,0):=by unfold revA;rw [hr];rfl
   rw [hA]
   have hof:=Xv hr
   have hal:=xL hr
   have h1:=hH.2 (hs.map HI.toM) hof
   have hlen:(hs.map HI.toM).length=hs.length:=List.length_map ..
   rw [<-hlen] at h1 ⊢
   have h2:=Jq (hs:=hs.map HI.toM) h1 (by rw [hof];exact hr) (by rw [hof];exact hL) (by rw [hlen];exact hL.1) (by
    intro x hx
    obtain ⟨y,hy,rfl⟩:=List.mem_map.1 hx
    exact ⟨(hL.2 y hy).1,Kh (hal y hy).2.2 (hL.2 y hy).2.2.2.2.2⟩)
   refine h2.mono ?_
   rintro e w' ⟨al,cl,hv,rfl,h3,h4,h5⟩
   refine ⟨al,cl,hv,rfl,h3,?_,h5⟩
   rw [h4,List.map_map]
   rfl
 | false=>
   have hA:revA hs=([],4):=by unfold revA;rw [hr];rfl
   rw [hA]
   have hb0:=((Below.refl w.heap.size w).alloc (Nat.le_refl _) (.cells #[.slice a hs.length cap] 32)).alloc (by simp) (.cells #[.slice none 0 0] 32)
   have hP2:=heap_alloc_new (w.alloc (.cells #[.slice a hs.length cap] 32)) (.cells #[.slice none 0 0] 32)
   rw [World.size_alloc] at hP2
   have hz:((w.alloc (.cells #[.slice a hs.length cap] 32)).alloc (.cells #[.slice none 0 0] 32)).heap.size=w.heap.size+2:=by simp
   have hir:=js ((hH.1.below hb0).mono hb0.size) hL
   rw [hr] at hir
   clear hA hr
   go_enter func15,ntmps15
   go_wp2_with fail
   generalize (w.alloc (.cells #[.slice a hs.length cap] 32)).alloc (.cells #[.slice none 0 0] 32)=W0 at *
   refine hir.mono ?_
   rintro e W1 ⟨rfl,b1⟩
   have hQ2:=(b1.block (w.heap.size+1) (by omega)).trans hP2
   have q0:W1.cell? ⟨w.heap.size+1,0,none⟩=some (.slice none 0 0):=za hQ2 rfl
   have qf: ∀k,W1.frozen? ⟨w.heap.size+1,k,none⟩=false:=fun k=>zi hQ2
   go_wp2_with fail
   refine bodyPost_ret (v:= .tuple #[.agg #[.slice none 0 0],.int .i64 4]) ?_ rfl ⟨none,0,[],rfl,.inl ⟨rfl,rfl⟩,rfl,?_⟩
   ·have hq:(W1.setCell ⟨w.heap.size+1,0,none⟩ (.slice none 0 0)).cell? ⟨w.heap.size+1,0,none⟩=some (.slice none 0 0):=za (zb _ _ _ _ _ _ _ hQ2) rfl
    simp [results,results15,go_sem,hq]
   ·exact (hb0.trans (b1.mono (by omega))).setCell (p:=⟨w.heap.size+1,0,none⟩) (Nat.le_succ _) _
end Go.Proofs.YtcclgodahlinbaaGreatDoor
