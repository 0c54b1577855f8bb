import Derived.Test.YtcclgodahlinbaaGreatDoorA10
import Derived.BigQuiet
namespace Go.Proofs.YtcclgodahlinbaaGreatDoor.V
set_option maxHeartbeats 16000000
open Tryz Go.RowKit Go Go.Shelf
attribute [local go_sem] Oper.semAt_some
set_option maxRecDepth 100000
theorem El {L:List zk} {a:Option Addr} {cap:Nat} {w:World} (hS:zJ w.heap.size w (.slice a L.length cap) L) (hL:L.length<=1048576):
 Calls prog 61 #[.slice a L.length cap] w fun e w'=>e= .returned (.tuple #[.int .i64 ((zr L L.length).1:Nat),.int .i64 ((zr L L.length).2.1:Nat)])/\Below w.heap.size w w':=by
 go_enter func61,ntmps61
 go_wp2
 go_loopg [2,3,4,9] L.length (fun g t2 t3 t4 t wr=> ∃k:Nat,g=L.length-k/\k<=L.length/\t= .int .i64 k/\t2= .int .i64 ((zr L k).1:Nat)/\t3= .int .i64 ((zr L k).2.1:Nat)/\t4= .bool (zr L k).2.2/\Below w.heap.size w wr)
 case atStart=>exact ⟨0,by omega,by omega,rfl,rfl,rfl,rfl,Below.refl _ _⟩
 case round=>
  obtain ⟨k,hgk,hkl,rfl,rfl,rfl,rfl,hbel⟩:=hrel
  have hsz:=hbel.size
  by_cases hk:k<L.length
  ·have hkI:(k:Int)<L.length:=by omega
   obtain ⟨b,rfl,hbB,r0,r1⟩:=(hS.below hbel).at hk
   have hsu:=jt L k hk
   have hle:=YZ L k
   have hA:Hid (gk=L.length-k):=hgk
   clear hgk
   generalize L[k]=s at r0 r1 hsu
   generalize hK:zr L k=K at *
   obtain ⟨x,y,z⟩:=K
   simp only at hsu hle ⊢
   have hbx:=hbel.alloc hsz (.cells #[.int .u8 (s.kind:Int),.string s.text] 93)
   by_cases h32:s.kind=32
   ·have r0':wr.cell? ⟨b,k*2,none⟩=some (.int .u8 32):=by rw [r0,h32];rfl
    rw [if_pos h32] at hsu
    rw [h32] at hbx
    cases z
    ·have hs2:Hid (zr L (k+1)=(x+1,y,false)):=hsu
     clear hsu r0 h32 hK
     go_wp2
     go_roundg (L.length-(k+1))
     case measure=>have:=hA.out;omega
     case rel=>exact ⟨k+1,rfl,by omega,by go_num,by rw [hs2.out];go_num,by rw [hs2.out],by rw [hs2.out],hbx⟩
    ·have hs2:Hid (zr L (k+1)=(x,y+1,true)):=hsu
     clear hsu r0 h32 hK
     go_wp2
     go_roundg (L.length-(k+1))
     case measure=>have:=hA.out;omega
     case rel=>exact ⟨k+1,rfl,by omega,by go_num,by rw [hs2.out],by rw [hs2.out];go_num,by rw [hs2.out],hbx⟩
   ·rw [if_neg h32] at hsu
    have hs2:Hid (zr L (k+1)=(x,0,true)):=hsu
    have hne:(((s.kind:Nat):Int)==32)=false:=by rw [beq_eq_false_iff_ne];omega
    have hne2:(((s.kind:Nat):Int) !=32)=true:=by simp only [bne,hne];rfl
    clear hsu h32 hK
    go_wp2
    go_roundg (L.length-(k+1))
    case measure=>have:=hA.out;omega
    case rel=>exact ⟨k+1,rfl,by omega,by go_num,by rw [hs2.out],by rw [hs2.out];rfl,by rw [hs2.out],hbx⟩
  ·have hkI: ¬((k:Int)<L.length):=by omega
   have hkn:k=L.length:=by omega
   subst hkn
   go_wp2
   go_ret2
   exact ⟨rfl,hbel⟩
theorem VK {L:List zk} {a:Option Addr} {cap:Nat} {w:World} (hS:zJ w.heap.size w (.slice a L.length cap) L) (hL:L.length<=1048576) (hk: ∀s∈L,s.kind=32\/s.kind=45\/s.kind=43):
 Calls prog 60 #[.slice a L.length cap] w fun e w'=> ∃vo vf,e= .returned (.agg #[vo,vf])/\w'.ownsRow w.heap.size 9 1 vo (Dn.YK L).length (zz (Dn.YK L))/\w'.ownsRow w.heap.size 9 1 vf (Dn.Yx L).length (zz (Dn.Yx L))/\Below w.heap.size w w':=by
 obtain ⟨i0,hi,hz0,hz1,hz2⟩:=info_parts qM
 have hw0:Below w.heap.size w ((w.alloc (.cells #[.slice none 0 0,.slice none 0 0] 125)).alloc (.cells #[.slice none 0 0,.slice none 0 0] 125)):=((Below.refl _ _).alloc (Nat.le_refl _) _).alloc (by simp) _
 have hR0:((w.alloc (.cells #[.slice none 0 0,.slice none 0 0] 125)).alloc (.cells #[.slice none 0 0,.slice none 0 0] 125)).heap[w.heap.size]? =some (.cells #[.slice none 0 0,.slice none 0 0] 125 (0,0)):=by
  rw [Below.heap_alloc _ _ _ (by simp)];exact heap_alloc_new w _
 have hP0:=heap_alloc_new (w.alloc (.cells #[.slice none 0 0,.slice none 0 0] 125)) (.cells #[.slice none 0 0,.slice none 0 0] 125)
 rw [World.size_alloc] at hP0
 go_enter func60,ntmps60
 go_wp2
 go_loopg [8] L.length (fun g t wr=> ∃(k:Nat) (vo vf:Value),g=L.length-k/\k<=L.length/\t= .int .i64 k/\PM w.heap.size (w.heap.size+1) vo vf (Dn.YK (L.take k)) (Dn.Yx (L.take k)) wr/\wr.heap[w.heap.size]? =some (.cells #[.slice none 0 0,.slice none 0 0] 125 (0,0))/\Below w.heap.size w wr)
 case atStart=>exact ⟨0,.slice none 0 0,.slice none 0 0,by omega,by omega,rfl,⟨by omega,hP0,World.ownsRow_nil _ _ _ _,World.ownsRow_nil _ _ _ _,.inl rfl⟩,hR0,hw0⟩
 case round=>
  obtain ⟨k,vo,vf,hgk,hkl,rfl,hpm0,hR,hbel⟩:=hrel
  clear hw0 hR0 hP0
  have hsz:=hbel.size
  have hPw:w.heap.size+1<wr.heap.size:=(Array.getElem?_eq_some_iff.1 hpm0.blk).1
  obtain ⟨ao,co,rfl⟩:=zn hpm0.o
  obtain ⟨af,cf,rfl⟩:=zn hpm0.f
  have g0:wr.cell? ⟨w.heap.size+1,0,none⟩=some (.slice ao (Dn.YK (L.take k)).length co):=za hpm0.blk rfl
  have g1:wr.cell? ⟨w.heap.size+1,1,none⟩=some (.slice af (Dn.Yx (L.take k)).length cf):=za hpm0.blk rfl
  have hf0: ∀k,wr.frozen? ⟨w.heap.size+1,k,none⟩=false:=fun k=>zi hpm0.blk
  by_cases hkk:k<L.length
  ·have hkI:(k:Int)<L.length:=by omega
   obtain ⟨b,rfl,hbB,r0,r1⟩:=(hS.below hbel).at hkk
   have hkind:=hk _ (List.getElem_mem hkk)
   have ho:=qG L k hkk
   have hn:=Ye L k hkk
   have l1:(Dn.YK (L.take k)).length<=1048576:=by have:=ZB (L.take k);have:=List.length_take_le k L;omega
   have l2:(Dn.Yx (L.take k)).length<=1048576:=by have:=Zt (L.take k);have:=List.length_take_le k L;omega
   generalize Dn.YK (L.take k)=lo at *
   generalize Dn.Yx (L.take k)=lf at *
   generalize L[k]=s at r0 r1 hkind ho hn
   have hA:Hid (gk=L.length-k):=hgk
   clear hgk hk
   have hone: ∀u∈ [Value.string s.text],u.oneCell'=true:=by intro u hu;simp at hu;subst hu;rfl
   have hm1:lo.length+1<=maxLen:=by unfold maxLen;omega
   have hm2:(lo.length+1)*16<=140737488355328:=by omega
   have hm3:lf.length+1<=maxLen:=by unfold maxLen;omega
   have hm4:(lf.length+1)*16<=140737488355328:=by omega
   have hB:=heap_alloc_new wr (.cells #[.int .u8 (s.kind:Int),.string s.text] 93)
   have hpm:=hpm0.alloc (.cells #[.int .u8 (s.kind:Int),.string s.text] 93)
   have hRb:=(Below.heap_alloc wr (.cells #[.int .u8 (s.kind:Int),.string s.text] 93) w.heap.size (by omega)).trans hR
   have hbel1:=hbel.alloc hsz (.cells #[.int .u8 (s.kind:Int),.string s.text] 93)
   have hnews: ∀(j:Nat) u,[Value.string s.text][j]? =some u->(((wr.alloc (.cells #[.int .u8 (s.kind:Int),.string s.text] 93)).alloc (.cells #[.string s.text] 9)).cell? (Addr.add ⟨wr.heap.size+1,0,none⟩ j))=some u:=by
    have:=zt (wr.alloc (.cells #[.int .u8 (s.kind:Int),.string s.text] 93)) [.string s.text] 9
    rw [World.size_alloc] at this
    exact this
   rcases hkind with hk | hk | hk<;>rw [hk] at r0 hB hpm hRb hbel1 hnews ho hn
   ·go_wp2_with (first | (at_builtin;refine zm rfl (.tmp 16) (.tmp 19) 27 rfl w.heap.size 9 i0 _ 1 16 underlying27 hi hz0 hz1 hz2 rfl (by decide) (.slice ao lo.length co) lo.length (zz lo) rfl (hpm.o.alloc _) ⟨wr.heap.size+1,0,none⟩ 1 1 [.string s.text] rfl rfl hnews hone hm1 hm2 (by simp;omega) ?_;intro vo' w1 hown1 hgr1 hnew1;obtain ⟨g1,cap1,rfl,hgg1,_⟩:=zv hown1 (Nat.succ_pos _);have kP:=ZU hgr1 hpm.o hpm.blk (by decide);have kB:=ZU hgr1 hpm.o hB (by decide);have kR:=ZU hgr1 hpm.o hRb (by decide);have p1:w1.cell? ⟨w.heap.size+1,1,none⟩=some (.slice af lf.length cf):=za kP rfl;have p0:w1.cell? ⟨w.heap.size+1,0,none⟩=some (.slice ao lo.length co):=za kP rfl;have pf: ∀k,w1.frozen? ⟨w.heap.size+1,k,none⟩=false:=fun k=>zi kP;have q0:w1.cell? ⟨wr.heap.size,0,none⟩=some (.int .u8 32):=za kB rfl;have q1:w1.cell? ⟨wr.heap.size,1,none⟩=some (.string s.text):=za kB rfl;have hb1:Below w.heap.size w w1:=(hbel1.alloc (by simp;omega) _).grown hgr1 (by simp;omega) (fun k e=>(hpm.o.lt k e).1);have hz:=hb1.size;have hpm2:=hpm.addO hown1 hgr1 hnew1;have kR2:=(zd w1 (w.heap.size+1) w.heap.size 0 (.slice (some ⟨g1,0,none⟩) (lo.length+1) cap1) (by omega)).trans kR) | (at_builtin;go_loud (refine zm rfl (.tmp 26) (.tmp 29) 27 rfl w.heap.size 9 i0 _ 1 16 underlying27 hi hz0 hz1 hz2 rfl (by decide) (.slice af lf.length cf) lf.length (zz lf) rfl (hpm2.f.alloc _) ⟨w1.heap.size,0,none⟩ 1 1 [.string s.text] rfl rfl (Ji (W:=w1.setCell ⟨w.heap.size+1,0,none⟩ (.slice (some ⟨g1,0,none⟩) (lo.length+1) cap1)) (by simp) [.string s.text] 9) hone hm3 hm4 (by simp;omega) ?_);intro vf' w2 hown2 hgr2 hnew2;obtain ⟨g2,cap2,rfl,hgg2,_⟩:=zv hown2 (Nat.succ_pos _);have jP:=ZU hgr2 hpm2.f hpm2.blk (by decide);have jR:=ZU hgr2 hpm2.f kR2 (by decide);have j1:w2.cell? ⟨w.heap.size+1,1,none⟩=some (.slice af lf.length cf):=za jP rfl;have jf: ∀k,w2.frozen? ⟨w.heap.size+1,k,none⟩=false:=fun k=>zi jP;have hb2:Below w.heap.size w w2:=((hb1.setCell (p:=⟨w.heap.size+1,0,none⟩) (Nat.le_succ w.heap.size) _).alloc (by simp;omega) _).grown hgr2 (by simp;omega) (fun k e=>(hpm2.f.lt k e).1)))
    go_roundg (L.length-(k+1))
    ·exact ⟨k+1,_,_,rfl,by omega,by push_cast;rfl,by rw [ho,hn];exact hpm2.addF hown2 hgr2 hnew2,(zd _ _ _ _ _ (by omega)).trans jR,hb2.setCell (p:=⟨w.heap.size+1,1,none⟩) (Nat.le_succ w.heap.size) _⟩
    ·have:=hA.out;omega
   ·go_wp2_with (at_builtin;refine zm rfl (.tmp 16) (.tmp 19) 27 rfl w.heap.size 9 i0 _ 1 16 underlying27 hi hz0 hz1 hz2 rfl (by decide) (.slice ao lo.length co) lo.length (zz lo) rfl (hpm.o.alloc _) ⟨wr.heap.size+1,0,none⟩ 1 1 [.string s.text] rfl rfl hnews hone hm1 hm2 (by simp;omega) ?_;intro vo' w1 hown1 hgr1 hnew1;obtain ⟨g1,cap1,rfl,hgg1,_⟩:=zv hown1 (Nat.succ_pos _);have kP:=ZU hgr1 hpm.o hpm.blk (by decide);have kB:=ZU hgr1 hpm.o hB (by decide);have kR:=ZU hgr1 hpm.o hRb (by decide);have p1:w1.cell? ⟨w.heap.size+1,1,none⟩=some (.slice af lf.length cf):=za kP rfl;have p0:w1.cell? ⟨w.heap.size+1,0,none⟩=some (.slice ao lo.length co):=za kP rfl;have pf: ∀k,w1.frozen? ⟨w.heap.size+1,k,none⟩=false:=fun k=>zi kP;have q0:w1.cell? ⟨wr.heap.size,0,none⟩=some (.int .u8 45):=za kB rfl;have q1:w1.cell? ⟨wr.heap.size,1,none⟩=some (.string s.text):=za kB rfl;have hb1:Below w.heap.size w w1:=(hbel1.alloc (by simp;omega) _).grown hgr1 (by simp;omega) (fun k e=>(hpm.o.lt k e).1);have hz:=hb1.size;have hpm2:=hpm.addO hown1 hgr1 hnew1;have kR2:=(zd w1 (w.heap.size+1) w.heap.size 0 (.slice (some ⟨g1,0,none⟩) (lo.length+1) cap1) (by omega)).trans kR)
    go_roundg (L.length-(k+1))
    ·exact ⟨k+1,_,_,rfl,by omega,by push_cast;rfl,by rw [ho,hn];simpa using hpm2,kR2,hb1.setCell (p:=⟨w.heap.size+1,0,none⟩) (Nat.le_succ w.heap.size) _⟩
    ·have:=hA.out;omega
   ·go_wp2_with (at_builtin;refine zm rfl (.tmp 26) (.tmp 29) 27 rfl w.heap.size 9 i0 _ 1 16 underlying27 hi hz0 hz1 hz2 rfl (by decide) (.slice af lf.length cf) lf.length (zz lf) rfl (hpm.f.alloc _) ⟨wr.heap.size+1,0,none⟩ 1 1 [.string s.text] rfl rfl hnews hone hm3 hm4 (by simp;omega) ?_;intro vf' w2 hown2 hgr2 hnew2;obtain ⟨g2,cap2,rfl,hgg2,_⟩:=zv hown2 (Nat.succ_pos _);have jP:=ZU hgr2 hpm.f hpm.blk (by decide);have jR:=ZU hgr2 hpm.f hRb (by decide);have j1:w2.cell? ⟨w.heap.size+1,1,none⟩=some (.slice af lf.length cf):=za jP rfl;have jf: ∀k,w2.frozen? ⟨w.heap.size+1,k,none⟩=false:=fun k=>zi jP;have hb2:Below w.heap.size w w2:=(hbel1.alloc (by simp;omega) _).grown hgr2 (by simp;omega) (fun k e=>(hpm.f.lt k e).1))
    go_roundg (L.length-(k+1))
    ·exact ⟨k+1,_,_,rfl,by omega,by push_cast;rfl,by rw [ho,hn];simpa using hpm.addF hown2 hgr2 hnew2,(zd _ _ _ _ _ (by omega)).trans jR,hb2.setCell (p:=⟨w.heap.size+1,1,none⟩) (Nat.le_succ w.heap.size) _⟩
    ·have:=hA.out;omega
  ·obtain rfl:k=L.length:=by omega
   rw [List.take_length] at hpm0 g0 g1
   have f0:wr.frozen? ⟨w.heap.size,0,none⟩=false:=zi hR
   have f1:wr.frozen? ⟨w.heap.size,1,none⟩=false:=zi hR
   have hR0:wr.cell? ⟨w.heap.size,0,none⟩=some (.slice none 0 0):=za hR rfl
   have hR1:wr.cell? ⟨w.heap.size,1,none⟩=some (.slice none 0 0):=za hR rfl
   go_wp2
   have hw':=(hbel.setCell (p:=⟨w.heap.size,0,none⟩) (Nat.le_refl _) (.slice ao (Dn.YK L).length co)).setCell (p:=⟨w.heap.size,1,none⟩) (Nat.le_refl _) (.slice af (Dn.Yx L).length cf)
   have hg2:=zh (zc wr w.heap.size 0 (.slice ao (Dn.YK L).length co)) (zc _ w.heap.size 1 (.slice af (Dn.Yx L).length cf))
   have ko:=hpm0.o.kept hg2 (.inr (zT hpm0.o hR (by decide)))
   have kf:=hpm0.f.kept hg2 (.inr (zT hpm0.f hR (by decide)))
   have hF:=zb _ w.heap.size 1 (.slice af (Dn.Yx L).length cf) _ _ _ (zb wr w.heap.size 0 (.slice ao (Dn.YK L).length co) _ _ _ hR)
   have c0:=za (k:=0) (v:= .slice ao (Dn.YK L).length co) hF rfl
   have c1:=za (k:=1) (v:= .slice af (Dn.Yx L).length cf) hF rfl
   refine bodyPost_ret (v:= .agg #[.slice ao (Dn.YK L).length co,.slice af (Dn.Yx L).length cf]) (by simp [results,results60,go_sem,c0,c1]) rfl ⟨_,_,rfl,ko,kf,hw'⟩
theorem YY {S:Nat} {vl:Value} {t:List UInt8} {en mv:Int} {w:World} {a:Option Addr} {c:Nat} {L:List ByteArray} (h:yE S vl t en mv w) (hR:yq w (.slice a L.length c) L)
 (hlen:t.length+(zy L).length<=10000000000000):
 Calls prog 66 #[.pointer (some ⟨S,0,none⟩),.slice a L.length c] w fun e w'=>e= .returned (.tuple #[])/\yE S vl (t++zy L) en mv w'/\Below S w w'/\Lib.OthersKept 5 (some S) w w':=by
 obtain ⟨cs0,hS0⟩: ∃cs,w.heap[S]? =some (.cells cs 76 (0,0)):=let ⟨_,_,h⟩:=h;⟨_,h.blk⟩
 have hLl:=Xh L
 go_enter func66,ntmps66
 go_wp2
 go_loopg [8] L.length (fun g x wr=> ∃k:Nat,g=L.length-k/\k<=L.length/\x= .int .i64 k/\yE S vl (t++zy (L.take k)) en mv wr/\Below S w wr/\Lib.OthersKept 5 (some S) w wr)
 case atStart=>exact ⟨0,by omega,by omega,rfl,by simpa [zy] using h,Below.refl _ _,Lib.OthersKept.refl _ _ _⟩
 case round=>
  obtain ⟨k,hgk,hkl,rfl,⟨ad,vb,hsm⟩,hbel,hoth⟩:=hrel
  by_cases hkk:k<L.length
  ·have hkI:(k:Int)<L.length:=by omega
   have hk2:IntKind.i64.wrap ((k:Int)+1)=(k:Int)+1:=by rw [IntKind.wrap_i64];omega
   have hk3:L.length<=10000000000000:=by omega
   obtain ⟨b,off,rfl,hc⟩:=(hR.kept hS0 hoth).at hkk
   have htk:=Qm L k hkk
   have hle:=ZN L (k+1)
   generalize L.getD k ByteArray.empty=s at hc htk
   rw [htk] at hle
   have hsz:s.data.toList.length=s.size:=rfl
   simp only [List.length_append,List.length_cons,List.length_nil] at hle
   have hl1:(Lib.byteCells (t++zy (L.take k))).length+s.size<=140737488355328:=by rw [Lib.byteCells_length,List.length_append];omega
   have hl2:(Lib.byteCells (t++zy (L.take k))++Lib.strCells s).length+1<=140737488355328:=by rw [List.length_append,Lib.byteCells_length,List.length_append,Lib.strCells_length];omega
   have hA:Hid (gk=L.length-k):=hgk
   clear hgk
   go_wp2_with (first | (go_at_call 71;refine (Qa s hsm hl1).mono ?_;rintro e w1 ⟨rfl,vb1,hs1,hb1,hk1⟩) | (go_at_call 74;refine (Ju 10 hs1 hl2).mono ?_;rintro e w2 ⟨rfl,vb2,hs2,hb2,hk2⟩))
   go_roundg (L.length-(k+1))
   ·have e:Lib.byteCells (t++(zy (L.take k)++(s.data.toList++ [10])))=Lib.byteCells (t++zy (L.take k))++Lib.strCells s++ [.int .u8 10]:=by
     rw [Lib.strCells_eq];simp [Lib.byteCells_append];rfl
    exact ⟨k+1,rfl,by omega,by push_cast;rfl,⟨_,vb2,by rw [htk,e];exact hs2⟩,(hbel.trans hb1).trans hb2,(hoth.trans hk1).trans hk2⟩
   ·have:=hA.out;omega
  ·obtain rfl:k=L.length:=by omega
   rw [List.take_length] at hsm
   go_wp2
   go_end0
   exact ⟨rfl,⟨_,_,hsm⟩,hbel,hoth⟩
theorem Pr {S:Nat} {t:List UInt8} {en mv:Int} {ei at':Nat} {w:World} {al ao af:Option Addr} {cl co cf:Nat} {L lo lf:List ByteArray}
 (h:yE S (.slice al L.length cl) t en mv w) (hL:yq w (.slice al L.length cl) L) (hf:yq w (.slice af lf.length cf) lf) (he:en=ei) (h1:ei<=at') (h2:at'<=L.length)
 (hlo:lo.length<=1048576) (hcl:L.length<=100000) (hlen:t.length+(zy L).length+(zy lf).length<=5000000000000):
 Calls prog 65 #[.pointer (some ⟨S,0,none⟩),.agg #[.slice ao lo.length co,.slice af lf.length cf],.int .i64 (at':Int)] w fun e w'=>
  e= .returned (.tuple #[])/\yE S (.slice al L.length cl) (t++zy ((L.drop ei).take (at'-ei))++zy lf) (at'+lo.length:Nat) mv w'/\Below S w w'/\Lib.OthersKept 5 (some S) w w':=by
 subst he
 obtain ⟨_,hcc⟩:L.length<=cl/\True:=by obtain ⟨_,_,e,hc⟩:=hL.slice;cases e;exact ⟨hc,trivial⟩
 have hlt:=h.lt
 have hsub:=hL.sub h1 h2
 have hrun:=fun w=>Vp (n:=L.length) h1 (by omega:at'<=cl) rfl (a:=al) w
 obtain ⟨a2,c2,e2,_⟩:=hsub.slice
 rw [e2] at hrun hsub
 have hle:(zy ((L.drop ei).take (at'-ei))).length<=(zy L).length:=by
  conv=>rhs;rw [<-List.take_append_drop ei L,yt,List.length_append,<-List.take_append_drop (at'-ei) (L.drop ei),yt,List.length_append]
  omega
 generalize (L.drop ei).take (at'-ei)=M at *
 have w0h:=h.alloc (.cells #[.slice ao lo.length co,.slice af lf.length cf] 125)
 have w0f:=hf.alloc (.cells #[.slice ao lo.length co,.slice af lf.length cf] 125)
 have w0s:=hsub.alloc (.cells #[.slice ao lo.length co,.slice af lf.length cf] 125)
 have hB0:=heap_alloc_new w (.cells #[.slice ao lo.length co,.slice af lf.length cf] 125)
 have hbel0:Below S w (w.alloc (.cells #[.slice ao lo.length co,.slice af lf.length cf] 125)):=(Below.refl _ _).alloc (by omega) _
 have hoth0:=(Lib.OthersKept.refl 5 (some S) w).alloc (.cells #[.slice ao lo.length co,.slice af lf.length cf] 125)
 obtain ⟨s0,s3,s4,sf⟩:=w0h.cells
 have hW1:=YY w0h.drew (w0s:yq (w.alloc (.cells #[.slice ao lo.length co,.slice af lf.length cf] 125)).drew (.slice a2 M.length c2) M) (by omega)
 have p0:(w.alloc (.cells #[.slice ao lo.length co,.slice af lf.length cf] 125)).cell? ⟨w.heap.size,0,none⟩=some (.slice ao lo.length co):=za hB0 rfl
 have p1:(w.alloc (.cells #[.slice ao lo.length co,.slice af lf.length cf] 125)).cell? ⟨w.heap.size,1,none⟩=some (.slice af lf.length cf):=za hB0 rfl
 go_enter func65,ntmps65
 go_wp2_with fail
 generalize w.alloc (.cells #[.slice ao lo.length co,.slice af lf.length cf] 125)=W0 at *
 refine zK 11 yg (by kernel_rfl) ?_
 simp only [List.take_succ_cons,List.take_zero,List.drop_succ_cons,List.drop_zero]
 repeat still_step
 refine wpStill_nil ?_
 obtain ⟨cs0,hcs0⟩:=w0h.tag
 have hpk:Hid (∀w1:World,Lib.OthersKept 5 (some S) W0.drew w1->w1.heap[w.heap.size]? =some (.cells #[.slice ao lo.length co,.slice af lf.length cf] 125 (0,0))):=fun w1 hk=>hk _ _ hB0 (by intro e;cases e;omega) (by intro c z e;injection e with _ e;exact absurd e (by decide))
 have hsum:IntKind.i64.wrap ((at':Int)+lo.length)=(at':Int)+lo.length:=by rw [IntKind.wrap_i64];omega
 go_wp2_with (first | (go_at_call 66;refine hW1.mono ?_;clear hW1;rintro e w1 ⟨rfl,h1',b1,k1⟩;have q1:w1.cell? ⟨w.heap.size,1,none⟩=some (.slice af lf.length cf):=za (hpk.out _ k1) rfl;have hr1:=yq.kept (w:=W0.drew) w0f hcs0 k1;have hW2:=YY h1' hr1 (by rw [List.length_append];omega)) | (go_at_call 66;refine hW2.mono ?_;rintro e w2 ⟨rfl,h2',b2,k2⟩;have q0:w2.cell? ⟨w.heap.size,0,none⟩=some (.slice ao lo.length co):=za (hpk.out _ (k1.trans k2)) rfl;obtain ⟨s0',s3',s4',sf'⟩:=h2'.cells))
 go_end0
 refine ⟨rfl,?_,(hbel0.drew.trans (b1.trans b2)).setCell (p:=⟨S,3,none⟩) (Nat.le_refl _) _,(hoth0.drew.trans (k1.trans k2)).setCell ⟨S,3,none⟩ rfl _⟩
 have:=h2'.set3 ((at':Int)+lo.length)
 rwa [Int.natCast_add]
theorem Vj {S:Nat} {t:List UInt8} {en mv:Int} {ei:Nat} {w:World} {al:Option Addr} {cl:Nat} {L:List ByteArray}
 (h:yE S (.slice al L.length cl) t en mv w) (hL:yq w (.slice al L.length cl) L) (he:en=ei) (h1:ei<=L.length) (hlen:t.length+(zy L).length<=5000000000000):
 Calls prog 30 #[.pointer (some ⟨S,0,none⟩)] w fun e w'=>e= .returned (.string ⟨(t++zy (L.drop ei)).toArray⟩)/\Below S w w'/\Lib.OthersKept 5 (some S) w w':=by
 subst he
 have hsub:=hL.sub h1 (Nat.le_refl _)
 have hrun:=fun w=>JE (n:=L.length) (c:=cl) h1 (a:=al) w
 have e0:(L.drop ei).take (L.length-ei)=L.drop ei:=List.take_of_length_le (by rw [List.length_drop];omega)
 rw [e0] at hsub
 obtain ⟨a2,c2,e2,_⟩:=hsub.slice
 rw [e2] at hrun hsub
 have hle:(zy (L.drop ei)).length<=(zy L).length:=by
  conv=>rhs;rw [<-List.take_append_drop ei L,yt,List.length_append]
  omega
 generalize L.drop ei=M at *
 clear e0 e2
 obtain ⟨s0,s3,s4,sf⟩:=h.cells
 have hW1:=YY h.drew (hsub:yq w.drew (.slice a2 M.length c2) M) (by omega)
 go_enter func30,ntmps30
 go_wp2_with fail
 refine zK 10 yg (by kernel_rfl) ?_
 simp only [List.take_succ_cons,List.take_zero,List.drop_succ_cons,List.drop_zero]
 repeat still_step
 refine wpStill_nil ?_
 go_wp2_with (first | (go_at_call 66;refine hW1.mono ?_;rintro e w1 ⟨rfl,h1',b1,k1⟩) | (go_at_call 67;refine (Vv h1').mono ?_;rintro e w2 ⟨rfl,b2,k2⟩))
 go_ret
 exact ⟨rfl,(Below.refl S w).drew.trans (b1.trans b2),(Lib.OthersKept.refl _ _ w).drew.trans (k1.trans k2)⟩
theorem Ul {w:World} {a1 a2:Option Addr} {c1 c2:Nat} {xs ys:List ByteArray} (h1:yq w (.slice a1 xs.length c1) xs) (h2:yq w (.slice a2 ys.length c2) ys) (hx:xs.length<=2000000) (hy:ys.length<=2000000):
 Calls prog 104 #[.slice a1 xs.length c1,.slice a2 ys.length c2] w fun e w'=>e= .returned (.bool (decide (xs=ys)))/\ ∃q,w'=w.drewN q:=by
 by_cases hl:xs.length=ys.length
 ·by_cases h0:xs.length=0
  ·have ex:xs= []:=List.eq_nil_of_length_eq_zero h0
   have ey:ys= []:=List.eq_nil_of_length_eq_zero (by omega)
   subst ex;subst ey
   refine (Tryz.slices_Equal_string_empty a1 a2 c1 0 c2 w (by decide)).mono ?_
   rintro e w' ⟨rfl,rfl⟩
   exact ⟨rfl,0,rfl⟩
  ·obtain ⟨b1,o1,rfl,_⟩:=h1.at (i:=0) (by omega)
   obtain ⟨b2,o2,rfl,_⟩:=h2.at (i:=0) (by omega)
   refine (Tryz.slices_Equal_string b1 o1 xs.length c1 b2 o2 ys.length c2 xs ys w (Nat.le_refl _) (Nat.le_refl _) (by omega) (by omega) (fun j hj=> ?_) (fun j hj=> ?_)).mono ?_
   ·obtain ⟨_,_,e,hc⟩:=h1.at hj
    cases e;exact hc
   ·obtain ⟨_,_,e,hc⟩:=h2.at hj
    cases e;exact hc
   ·rintro e w' ⟨rfl,q,rfl⟩
    rw [List.take_length,List.take_length]
    exact ⟨rfl,q,rfl⟩
 ·have hne:decide (xs=ys)=false:=decide_eq_false fun e=>hl (by rw [e])
  rw [hne]
  refine (Tryz.slices_Equal_string_lens a1 a2 _ c1 _ c2 w hl).mono ?_
  rintro e w' ⟨rfl,rfl⟩
  exact ⟨rfl,0,rfl⟩
theorem VG {w:World} {ao af:Option Addr} {co cf f l:Nat} {lo lf:List ByteArray} (ho:yq w (.slice ao lo.length co) lo) (hf:yq w (.slice af lf.length cf) lf) (h1:f+l<=lo.length) (h2:f+l<=lf.length) (hb1:lo.length<=1048576) (hb2:lf.length<=1048576):
 Calls prog 62 #[.agg #[.slice ao lo.length co,.slice af lf.length cf],.int .i64 (f:Int),.int .i64 (l:Int)] w fun e w'=>
  ∃ao' co' af' cf',e= .returned (.agg #[.slice ao' ((lo.drop f).take (lo.length-l-f)).length co',.slice af' ((lf.drop f).take (lf.length-l-f)).length cf'])/\yq w' (.slice ao' ((lo.drop f).take (lo.length-l-f)).length co') ((lo.drop f).take (lo.length-l-f))/\
   yq w' (.slice af' ((lf.drop f).take (lf.length-l-f)).length cf') ((lf.drop f).take (lf.length-l-f))/\Below w.heap.size w w':=by
 obtain ⟨_,hc1⟩:lo.length<=co/\True:=by obtain ⟨_,_,e,hc⟩:=ho.slice;cases e;exact ⟨hc,trivial⟩
 obtain ⟨_,hc2⟩:lf.length<=cf/\True:=by obtain ⟨_,_,e,hc⟩:=hf.slice;cases e;exact ⟨hc,trivial⟩
 have so:=ho.sub (lo:=f) (hi:=lo.length-l) (by omega) (by omega)
 have sf:=hf.sub (lo:=f) (hi:=lf.length-l) (by omega) (by omega)
 have r1:=fun w=>VW (a:=ao) (n:=lo.length) (c:=co) (lo:=f) (hi:=(lo.length:Int)-l) (k:=lo.length-l) (by omega) (by omega) (by omega) rfl w
 have r2:=fun w=>VW (a:=af) (n:=lf.length) (c:=cf) (lo:=f) (hi:=(lf.length:Int)-l) (k:=lf.length-l) (by omega) (by omega) (by omega) rfl w
 obtain ⟨a3,c3,e3,_⟩:=so.slice
 obtain ⟨a4,c4,e4,_⟩:=sf.slice
 rw [e3] at r1 so
 rw [e4] at r2 sf
 clear e3 e4
 generalize (lo.drop f).take (lo.length-l-f)=M at *
 generalize (lf.drop f).take (lf.length-l-f)=N at *
 have x1:IntKind.i64.wrap ((lo.length:Int)-l)=(lo.length:Int)-l:=by rw [IntKind.wrap_i64];omega
 have x2:IntKind.i64.wrap ((lf.length:Int)-l)=(lf.length:Int)-l:=by rw [IntKind.wrap_i64];omega
 have hB0:=heap_alloc_new w (.cells #[.slice ao lo.length co,.slice af lf.length cf] 125)
 have hB1:=(Below.heap_alloc (w.alloc (.cells #[.slice ao lo.length co,.slice af lf.length cf] 125)) (.cells #[.slice none 0 0,.slice none 0 0] 125) w.heap.size (by simp)).trans hB0
 have hR:=heap_alloc_new (w.alloc (.cells #[.slice ao lo.length co,.slice af lf.length cf] 125)) (.cells #[.slice none 0 0,.slice none 0 0] 125)
 rw [World.size_alloc] at hR
 have hbel:Below w.heap.size w ((w.alloc (.cells #[.slice ao lo.length co,.slice af lf.length cf] 125)).alloc (.cells #[.slice none 0 0,.slice none 0 0] 125)):=((Below.refl _ _).alloc (Nat.le_refl _) _).alloc (by simp) _
 clear hB0
 go_enter func62,ntmps62
 go_wp2_with fail
 generalize (w.alloc (.cells #[.slice ao lo.length co,.slice af lf.length cf] 125)).alloc (.cells #[.slice none 0 0,.slice none 0 0] 125)=W0 at *
 have p0:W0.cell? ⟨w.heap.size,0,none⟩=some (.slice ao lo.length co):=za hB1 rfl
 have p1:W0.cell? ⟨w.heap.size,1,none⟩=some (.slice af lf.length cf):=za hB1 rfl
 have f0:W0.frozen? ⟨w.heap.size+1,0,none⟩=false:=zi hR
 have f1:W0.frozen? ⟨w.heap.size+1,1,none⟩=false:=zi hR
 have q0:W0.cell? ⟨w.heap.size+1,0,none⟩=some (.slice none 0 0):=za hR rfl
 have q1:W0.cell? ⟨w.heap.size+1,1,none⟩=some (.slice none 0 0):=za hR rfl
 refine zK 19 yg (by kernel_rfl) ?_
 simp only [List.take_succ_cons,List.take_zero,List.drop_succ_cons,List.drop_zero]
 repeat still_step
 refine wpStill_nil ?_
 go_wp2_with fail
 have hF:=zb _ (w.heap.size+1) 1 (.slice a4 N.length c4) _ _ _ (zb W0 (w.heap.size+1) 0 (.slice a3 M.length c3) _ _ _ hR)
 have d0:=za (k:=0) (v:= .slice a3 M.length c3) hF rfl
 have d1:=za (k:=1) (v:= .slice a4 N.length c4) hF rfl
 have hw':=(hbel.setCell (p:=⟨w.heap.size+1,0,none⟩) (Nat.le_succ _) (.slice a3 M.length c3)).setCell (p:=⟨w.heap.size+1,1,none⟩) (Nat.le_succ _) (.slice a4 N.length c4)
 generalize (W0.setCell ⟨w.heap.size+1,0,none⟩ (.slice a3 M.length c3)).setCell ⟨w.heap.size+1,1,none⟩ (.slice a4 N.length c4)=WF at *
 refine bodyPost_ret (v:= .agg #[.slice a3 M.length c3,.slice a4 N.length c4]) (by simp [results,results62,go_sem,d0,d1]) rfl ⟨a3,c3,a4,c4,rfl,so.below hw'.drew,sf.below hw'.drew,hw'.drew⟩
theorem Wa {S:Nat} {t:List UInt8} {en mv:Int} {ei:Nat} {at':Int} {w:World} {al ao:Option Addr} {vf:Value} {cl co:Nat} {L lo:List ByteArray}
 (h:yE S (.slice al L.length cl) t en mv w) (hL:yq w (.slice al L.length cl) L) (ho:yq w (.slice ao lo.length co) lo) (he:en=ei) (hvf: ∃a n c,vf= .slice a n c)
 (hb2:lo.length<=1048576) (ha: -100000000<=at'/\at'<=100000000):
 Calls prog 64 #[.pointer (some ⟨S,0,none⟩),.agg #[.slice ao lo.length co,vf],.int .i64 at'] w fun e w'=>e= .returned (.bool (standM L ei lo at'))/\Below w.heap.size w w':=by
 subst he
 obtain ⟨a9,n9,c9,rfl⟩:=hvf
 obtain ⟨_,hcc⟩:L.length<=cl/\True:=by obtain ⟨_,_,e,hc⟩:=hL.slice;cases e;exact ⟨hc,trivial⟩
 have hlt:=h.lt
 have w0h:=h.alloc (.cells #[.slice ao lo.length co,.slice a9 n9 c9] 125)
 have w0L:=hL.alloc (.cells #[.slice ao lo.length co,.slice a9 n9 c9] 125)
 have w0o:=ho.alloc (.cells #[.slice ao lo.length co,.slice a9 n9 c9] 125)
 have hB0:=heap_alloc_new w (.cells #[.slice ao lo.length co,.slice a9 n9 c9] 125)
 have hbel0:Below w.heap.size w (w.alloc (.cells #[.slice ao lo.length co,.slice a9 n9 c9] 125)):=(Below.refl _ _).alloc (Nat.le_refl _) _
 obtain ⟨s0,s3,s4,sf⟩:=w0h.cells
 have p0:(w.alloc (.cells #[.slice ao lo.length co,.slice a9 n9 c9] 125)).cell? ⟨w.heap.size,0,none⟩=some (.slice ao lo.length co):=za hB0 rfl
 have x1:IntKind.i64.wrap (at'+lo.length)=at'+lo.length:=by rw [IntKind.wrap_i64];omega
 by_cases g1:at'<(ei:Int)
 ·have hr:standM L ei lo at'=false:=decide_eq_false (by omega)
  rw [hr]
  have g1':decide (at'<(ei:Int))=true:=decide_eq_true g1
  go_enter func64,ntmps64
  go_wp2_with fail
  generalize w.alloc (.cells #[.slice ao lo.length co,.slice a9 n9 c9] 125)=W0 at *
  go_quiet (fail)
  go_wp2_with fail
  go_ret
  exact ⟨rfl,Below.drewN' hbel0⟩
 ·have g1':decide (at'<(ei:Int))=false:=decide_eq_false g1
  by_cases g2:(L.length:Int)<at'+lo.length
  ·have hr:standM L ei lo at'=false:=decide_eq_false (by omega)
   rw [hr]
   have g2':decide ((L.length:Int)<at'+lo.length)=true:=decide_eq_true g2
   go_enter func64,ntmps64
   go_wp2_with fail
   generalize w.alloc (.cells #[.slice ao lo.length co,.slice a9 n9 c9] 125)=W0 at *
   go_quiet (fail)
   go_wp2_with fail
   go_ret
   exact ⟨rfl,Below.drewN' hbel0⟩
  ·have g2':decide ((L.length:Int)<at'+lo.length)=false:=decide_eq_false g2
   obtain ⟨k,hk⟩: ∃k:Nat,at'=k:=⟨at'.toNat,by omega⟩
   have hr:standM L ei lo at'=decide ((L.drop k).take lo.length=lo):=by
    subst hk
    unfold standM
    congr 1
    apply propext
    constructor
    ·exact fun hh=>hh.2.2
    ·exact fun hh=>⟨by omega,by omega,hh⟩
   rw [hr]
   have hsub:=w0L.sub (lo:=k) (hi:=k+lo.length) (by omega) (by omega)
   rw [Nat.add_sub_cancel_left] at hsub
   have r1:=fun w=>EF (a:=al) (n:=L.length) (c:=cl) (lo:=at') (hi:=at'+lo.length) (j:=k) (k:=k+lo.length) hk (by omega) (by omega) (by omega) rfl w
   have hml:=jX L k lo.length (by omega)
   obtain ⟨a3,c3,e3,_⟩:=hsub.slice
   rw [e3] at r1 hsub
   clear e3
   generalize (L.drop k).take lo.length=M at *
   have hE:Hid (∀W:World,yq W (.slice a3 M.length c3) M->yq W (.slice ao lo.length co) lo->Calls prog 104 #[.slice a3 M.length c3,.slice ao lo.length co] W fun e w'=>e= .returned (.bool (decide (M=lo)))/\ ∃q,w'=W.drewN q):=fun W h1 h2=>Ul h1 h2 (by omega) (by omega)
   clear hml hr hk
   go_enter func64,ntmps64
   go_wp2_with fail
   generalize w.alloc (.cells #[.slice ao lo.length co,.slice a9 n9 c9] 125)=W0 at *
   go_quiet (fail)
   go_wp2_with fail
   refine zK 13 yg (by kernel_rfl) ?_
   simp only [List.take_succ_cons,List.take_zero,List.drop_succ_cons,List.drop_zero]
   repeat still_step
   refine wpStill_nil ?_
   go_wp2_with (go_at_call 104;refine (hE.out _ (hsub.of_heap (fun b cur fr h=>by simpa using h)) (w0o.of_heap (fun b cur fr h=>by simpa using h))).mono ?_;rintro e w1 ⟨rfl,q,rfl⟩)
   go_ret
   exact ⟨rfl,Below.drewN' hbel0⟩
abbrev Pl:= { x:Int // -10000000<=x/\x<=10000000 }
def kK (l:List Pl):List Int:=l.map (·.1)
theorem qN (a b:List Pl):kK (a++b)=kK a++kK b:=List.map_append
theorem WO (a:List Pl):(kK a).length=a.length:=List.length_map _
theorem UZ (n:Nat) (hn:1<=n) (l B1 B2 n₀ far:Nat) (p:Int) (hp: -3000000<=p/\p<=3000000) (hfar:far<=100000) (h1:B1<n₀) (h2:B2<n₀) (J Jx:List Pl->World->Prop)
 (hY: ∀pre (x:Pl) W,J pre W->pre.length<2*far+1->YieldAt Fence.wide (n-1) prog l #[.int .i64 x.1] W fun e W'=>
  (e= .returned (.bool true)/\J (pre++ [x]) W'/\Below n₀ W W')\/(e= .returned (.bool false)/\Jx (pre++ [x]) W'))
 (W:World) (hB1:W.cell? ⟨B1,0,none⟩=some (.int .i64 p)) (hB2:W.cell? ⟨B2,0,none⟩=some (.int .i64 (far:Int))) (h0:J [] W):
 CallsIn Fence.wide n prog 103 #[.func (.yield l) #[] #[],.pointer (some ⟨B1,0,none⟩),.pointer (some ⟨B2,0,none⟩)] W fun e W'=>(∃v,e= .returned v)/\
  ((∃ys:List Pl,kK ys=yB p far/\J ys W')\/(∃pre:List Pl,kK pre<+:yB p far/\Jx pre W')):=by
 refine callsIn_of_wp func103 rfl trivial ?_ rfl
 simp only [ntmps103,List.size_toArray,List.length_cons,List.length_nil,Nat.reduceAdd,Nat.reduceSub,Array.replicate_succ,Array.replicate_zero,List.push_toArray,List.append_toArray,List.nil_append,List.cons_append]
 obtain ⟨fn,tmps,assign,body,hy,hR⟩:=hY [] ⟨p,by omega,by omega⟩ W h0 (by simp)
 dsimp only at hy
 gi_wp2
 refine hR.mono ?_
 rintro e W3 (⟨rfl,hJ3,hk3⟩ | ⟨rfl,hJx3⟩)
 ·gi_wp2
  gi_loopw [4] (fun i wr=> ∃(k:Nat) (pre:List Pl),k<=far/\i= .int .i64 ((k:Int)+1)/\kK pre=yB p k/\J pre wr/\Below n₀ W wr)
   (fun i _=>far+1-(intOf i).toNat)
  case atStart=>exact ⟨0,_,Nat.zero_le _,rfl,rfl,hJ3,hk3⟩
  case round=>
   obtain ⟨k,pre,hk,rfl,hpre,hJs,hnx⟩:=hrel
   have c1:wr.cell? ⟨B1,0,none⟩=some (.int .i64 p):=(hnx.cell (p:=⟨B1,0,none⟩) h1).trans hB1
   have c2:wr.cell? ⟨B2,0,none⟩=some (.int .i64 (far:Int)):=(hnx.cell (p:=⟨B2,0,none⟩) h2).trans hB2
   have hlen:pre.length=2*k+1:=by rw [<-jg p k,<-hpre,WO]
   have x1:IntKind.i64.wrap (p+((k:Int)+1))=p+((k:Int)+1):=by rw [IntKind.wrap_i64];omega
   have x2:IntKind.i64.wrap (p-((k:Int)+1))=p-((k:Int)+1):=by rw [IntKind.wrap_i64];omega
   have x3:IntKind.i64.wrap ((k:Int)+1+1)=(k:Int)+1+1:=by rw [IntKind.wrap_i64];omega
   by_cases hlt:k<far
   ·have hle:(k:Int)+1<=far:=by omega
    obtain ⟨fn,tmps,assign,body,hy,hR⟩:=hY pre ⟨p+((k:Int)+1),by omega,by omega⟩ wr hJs (by omega)
    dsimp only at hy
    gi_wp2
    refine hR.mono ?_
    rintro e W4 (⟨rfl,hJ4,hk4⟩ | ⟨rfl,hJx4⟩)
    ·have c1':W4.cell? ⟨B1,0,none⟩=some (.int .i64 p):=(hk4.cell (p:=⟨B1,0,none⟩) h1).trans c1
     obtain ⟨fn,tmps,assign,body,hy,hR⟩:=hY _ ⟨p-((k:Int)+1),by omega,by omega⟩ W4 hJ4 (by rw [List.length_append,List.length_singleton];omega)
     dsimp only at hy
     gi_wp2
     refine hR.mono ?_
     have hall:kK ((pre++ [⟨p+((k:Int)+1),by omega,by omega⟩])++ [⟨p-((k:Int)+1),by omega,by omega⟩])=yB p (k+1):=by
      rw [qN,qN,hpre];simp [yB,kK]
     rintro e W5 (⟨rfl,hJ5,hk5⟩ | ⟨rfl,hJx5⟩)
     ·gi_wp2
      go_roundw
      case rel=>exact ⟨k+1,_,by omega,by push_cast;rfl,hall,hJ5,(hnx.trans hk4).trans hk5⟩
      case measure=>simp [intOf];omega
     ·gi_wp2
      refine bodyPost_ret (results_none rfl _ _ _) rfl ?_
      exact ⟨⟨_,rfl⟩,.inr ⟨_,by rw [hall];exact jk p (by omega),hJx5⟩⟩
    ·gi_wp2
     refine ⟨fun _ h=>(by cases h),?_⟩
     gi_wp2
     refine bodyPost_ret (results_none rfl _ _ _) rfl ?_
     refine ⟨⟨_,rfl⟩,.inr ⟨_,?_,hJx4⟩⟩
     rw [qN,hpre]
     refine List.IsPrefix.trans ?_ (jk p (show k+1<=far by omega))
     exact ⟨[p-((k:Int)+1)],by simp [yB,kK]⟩
   ·have hle: ¬((k:Int)+1<=far):=by omega
    obtain rfl:k=far:=by omega
    gi_wp2
    go_end0
    exact ⟨⟨_,rfl⟩,.inl ⟨_,hpre,hJs⟩⟩
 ·gi_wp2
  refine bodyPost_ret (results_none rfl _ _ _) rfl ?_
  exact ⟨⟨_,rfl⟩,.inr ⟨[⟨p,by omega,by omega⟩],by exact jk p (Nat.zero_le far),hJx3⟩⟩
theorem KB (n:Nat) (hn:1<=n) (B1 B2 n₀ far:Nat) (p:Int) (hp: -3000000<=p/\p<=3000000) (hfar:far<=100000) (h1:B1<n₀) (h2:B2<n₀) (w:World) (hn₀ :n₀ <=w.heap.size)
 (hB1:w.cell? ⟨B1,0,none⟩=some (.int .i64 p)) (hB2:w.cell? ⟨B2,0,none⟩=some (.int .i64 (far:Int))):
 SeqStopsK Fence.wide n prog 103 #[.pointer (some ⟨B1,0,none⟩),.pointer (some ⟨B2,0,none⟩)] (fun x:Pl=> #[Value.int .i64 x.1]) (Below n₀) (fun ys=>kK ys=yB p far) (fun pre=>kK pre<+:yB p far) (2*far+1) w:=
 fun l J Jx W hW _ _ hY h0=>UZ n hn l B1 B2 n₀ far p hp hfar h1 h2 J Jx hY W ((hW.cell (p:=⟨B1,0,none⟩) (by show B1<_;omega)).trans hB1) ((hW.cell (p:=⟨B2,0,none⟩) (by show B2<_;omega)).trans hB2) h0
theorem Pu {S:Nat} {s:qu} {w:World} {al:Option Addr} {cl:Nat} {T:List ByteArray} {h:zx} {a:Option Addr} {c fz:Nat}
 (hs:yE S (.slice al T.length cl) s.t (s.en:Nat) s.mv w) (hT:yq w (.slice al T.length cl) T) (hl:zJ w.heap.size w (.slice a h.lines.length c) h.lines)
 (hk: ∀x∈h.lines,x.kind=32\/x.kind=45\/x.kind=43) (hL:h.lines.length<=1048576) (hfr:h.fr<=100000) (hfc:min h.fc 1<=h.fr) (hTl:T.length<=40000) (hmv: -2000000<=s.mv/\s.mv<=2000000)
 (hlen:s.t.length+(zy T).length+(zy (Dn.Yx h.lines)).length<=5000000000000) (hfz:fz<=1000):
 Calls prog 29 #[.pointer (some ⟨S,0,none⟩),kp h (.slice a h.lines.length c),.int .i64 (fz:Int)] w fun e w'=>
  e= .returned (.agg #[.bool (xD T s h fz).2.done,.int .i64 (xD T s h fz).2.at',.int .i64 (xD T s h fz).2.fz])/\yE S (.slice al T.length cl) (xD T s h fz).1.t ((xD T s h fz).1.en:Nat) (xD T s h fz).1.mv w'/\Below S w w'/\Lib.OthersKept 5 (some S) w w':=by
 have hp:=fun w=>VC h.fr h.fc w (by omega) hfc
 refine (callsIn_wide (n:=9)).1 (callsIn_of_wp_marks func29 rfl trivial (wpIn_wide.2 ?_) rfl)
 simp only [ntmps29,List.size_toArray,List.length_cons,List.length_nil,Nat.reduceAdd,Nat.reduceSub,Array.replicate_succ,Array.replicate_zero,List.push_toArray,List.append_toArray,List.nil_append,List.cons_append]
 go_wp2_with (go_at_call 59;refine (hp _).mono ?_;rintro e w' ⟨rfl,rfl⟩)
 obtain ⟨z1,b1,k3,k4,k6,k7⟩:=TP w (.cells #[.pointer (some ⟨S,0,none⟩)] 123) (.cells #[.int .i64 (h.fr:Int),.int .i64 (h.fc:Int),.int .i64 (h.tr:Int),.int .i64 (h.tc:Int),.slice a h.lines.length c] 61) (.cells #[.bool false,.int .i64 0,.int .i64 0] 63) (.cells #[.int .i64 (placeM h.fr h.fc:Nat)] 3)
 generalize (((w.alloc (.cells #[.pointer (some ⟨S,0,none⟩)] 123)).alloc (.cells #[.int .i64 (h.fr:Int),.int .i64 (h.fc:Int),.int .i64 (h.tr:Int),.int .i64 (h.tc:Int),.slice a h.lines.length c] 61)).alloc (.cells #[.bool false,.int .i64 0,.int .i64 0] 63)).alloc (.cells #[.int .i64 (placeM h.fr h.fc:Nat)] 3)=W1 at z1 b1 k3 k4 k6 k7 ⊢
 have hl1:zJ W1.heap.size W1 (.slice a h.lines.length c) h.lines:=(hl.below b1).mono b1.size
 refine (VK hl1 hL hk).mono ?_
 rintro e w2 ⟨vo,vf,rfl,ho,hf,b2⟩
 have hz2:=b2.size
 obtain ⟨ao,co,rfl⟩:=zn ho
 obtain ⟨af,cf,rfl⟩:=zn hf
 have hro:=yq.of_owns ho
 have hrf:=yq.of_owns hf
 clear ho hf
 have c4:w2.cell? ⟨w.heap.size+1,4,none⟩=some (.slice a h.lines.length c):=(b2.cell (p:=⟨w.heap.size+1,4,none⟩) (by show w.heap.size+1<_;omega)).trans (za k4 rfl)
 have hne1:w.heap.size+1<w2.heap.size:=by omega
 have c4':=fun ob=>(World.cell?_of_block (a:=⟨w.heap.size+1,4,none⟩) (Below.heap_alloc w2 ob (w.heap.size+1) hne1)).trans c4
 go_wp2_with fail
 have hW2b:=b2.alloc b2.size (.cells #[.slice ao (Dn.YK h.lines).length co,.slice af (Dn.Yx h.lines).length cf] 125)
 have k8:=heap_alloc_new w2 (.cells #[.slice ao (Dn.YK h.lines).length co,.slice af (Dn.Yx h.lines).length cf] 125)
 have hro2:=hro.alloc (.cells #[.slice ao (Dn.YK h.lines).length co,.slice af (Dn.Yx h.lines).length cf] 125)
 have hrf2:=hrf.alloc (.cells #[.slice ao (Dn.YK h.lines).length co,.slice af (Dn.Yx h.lines).length cf] 125)
 have z2:(w2.alloc (.cells #[.slice ao (Dn.YK h.lines).length co,.slice af (Dn.Yx h.lines).length cf] 125)).heap.size=w2.heap.size+1:=by simp
 generalize w2.alloc (.cells #[.slice ao (Dn.YK h.lines).length co,.slice af (Dn.Yx h.lines).length cf] 125)=W2 at hW2b k8 hro2 hrf2 z2 ⊢
 have hl2:zJ W2.heap.size W2 (.slice a h.lines.length c) h.lines:=(hl1.below hW2b).mono hW2b.size
 refine (El hl2 hL).mono ?_
 rintro e w3 ⟨rfl,b3⟩
 have hz3:=b3.size
 obtain ⟨hks1,hks2⟩:=Js h.lines
 have hkl:=YZ h.lines h.lines.length
 have hB8:w2.heap.size<W2.heap.size:=by omega
 have hb03:Below W1.heap.size W1 w3:=hW2b.trans (b3.mono (by omega))
 have k3':=(hb03.block w.heap.size (by omega)).trans k3
 have k6':=(hb03.block (w.heap.size+2) (by omega)).trans k6
 have k7':=(hb03.block (w.heap.size+3) (by omega)).trans k7
 have k8':=(b3.block w2.heap.size hB8).trans k8
 have hro3:=hro2.below b3
 have hrf3:=hrf2.below b3
 have hbw:Below w.heap.size w w3:=b1.trans (hb03.mono (by omega))
 clear hro hrf hro2 hrf2 k3 k4 k6 k7 k8 c4 b3 hl1 hl2 hW2b hb03 b1 b2
 go_wp2_with fail
 have hN:(min (fz:Int) (max ((zr h.lines h.lines.length).1:Int) ((zr h.lines h.lines.length).2.1:Int))+1)=((sewRounds h fz:Nat):Int):=by unfold sewRounds;omega
 rw [hN]
 have hN2:Hid (sewRounds h fz=min fz (max (zr h.lines h.lines.length).1 (zr h.lines h.lines.length).2.1)+1):=rfl
 have hF2:Hid (YB T s.en s.mv h fz=zZ T s.en s.mv h 0 (sewRounds h fz)):=rfl
 have hAt:Hid (∀f,xW T s.en s.mv h f=(yB ((placeM h.fr h.fc:Nat)+s.mv) T.length).find? fun x=>standM T s.en (pieceO h.lines f) (x+(min f (zr h.lines h.lines.length).1:Nat))):=fun _=>rfl
 have hpo:Hid (∀f,pieceO h.lines f=((Dn.YK h.lines).drop (min f (zr h.lines h.lines.length).1)).take ((Dn.YK h.lines).length-min f (zr h.lines h.lines.length).2.1-min f (zr h.lines h.lines.length).1)):=fun _=>rfl
 have hpf:Hid (∀f,pieceF h.lines f=((Dn.Yx h.lines).drop (min f (zr h.lines h.lines.length).1)).take ((Dn.Yx h.lines).length-min f (zr h.lines h.lines.length).2.1-min f (zr h.lines h.lines.length).1)):=fun _=>rfl
 have hto:Hid (∀f x,qo T s h f x=⟨s.t++zy ((T.drop s.en).take ((x+(min f (zr h.lines h.lines.length).1:Nat)).toNat-s.en))++zy (pieceF h.lines f),(x+(min f (zr h.lines h.lines.length).1:Nat)).toNat+(pieceO h.lines f).length,x-(placeM h.fr h.fc:Nat)⟩):=fun _ _=>rfl
 have hol:=ZB h.lines
 have hnl:=Zt h.lines
 have hpl:placeM h.fr h.fc<=100000:=by unfold placeM;split<;>omega
 generalize (zr h.lines h.lines.length).1=F at hN hN2 hAt hpo hpf hto hks1 hks2 hkl ⊢
 generalize (zr h.lines h.lines.length).2.1=G at hN hN2 hpo hpf hks1 hks2 hkl ⊢
 have hNb:sewRounds h fz<=1001:=by have:=hN2.out;omega
 generalize sewRounds h fz=N at hN hN2 hF2 hNb ⊢
 clear hN hN2 hp
 refine wp_loop_ghost_k (fun k a' w'=> ∃(f:Nat) (Ds:List Nat),k=N-f/\f<=N/\zZ T s.en s.mv h 0 N=zZ T s.en s.mv h f (N-f)/\a'.defers=Ds.map GF/\Qr Ds w'/\(∀D∈Ds,w3.heap.size<=D)/\Below w3.heap.size w3 w'/\a'.tmps.size=86/\
     a'.tmps[0]? =some (.pointer (some ⟨S,0,none⟩))/\a'.tmps[1]? =some (kp h (.slice a h.lines.length c))/\a'.tmps[2]? =some (.int .i64 (fz:Int))/\a'.tmps[3]? =some (.pointer (some ⟨w.heap.size,0,none⟩))/\a'.tmps[4]? =some (.pointer (some ⟨w.heap.size+1,0,none⟩))/\a'.tmps[6]? =some (.pointer (some ⟨w.heap.size+1+1,0,none⟩))/\a'.tmps[7]? =some (.pointer (some ⟨w.heap.size+1+1+1,0,none⟩))/\a'.tmps[8]? =some (.pointer (some ⟨w2.heap.size,0,none⟩))/\a'.tmps[9]? =some (.int .i64 (F:Int))/\a'.tmps[10]? =some (.int .i64 (G:Int))/\a'.tmps[34]? =some (.int .i64 (N:Int))/\a'.tmps[35]? =some (.int .i64 (f:Int))) N ?_ ?_
 ·exact ⟨0,[],by omega,by omega,by simp,rfl,⟨List.nodup_nil,by simp⟩,by simp,Below.refl _ _,rfl,rfl,rfl,rfl,rfl,rfl,rfl,rfl,rfl,rfl,rfl,rfl,rfl⟩
 ·rintro gk ⟨A,ds⟩ wr ⟨f,Ds,hgk,hfN,hsf,hds,hmk,hDs,hbel,hz86,e0,e1,e2,e3,e4,e6,e7,e8,e9,e10,e34,e35⟩ J K hJ hK
  obtain ⟨u,rfl⟩:=Sc hz86 e0 e1 e2 e3 e4 e6 e7 e8 e9 e10 e34 e35
  clear e0 e1 e2 e3 e4 e6 e7 e8 e9 e10 e34 e35 hz86
  dsimp only at hds ⊢
  have hszr:=hbel.size
  have hbw':Below w.heap.size w wr:=hbw.trans (hbel.mono (by omega))
  have c3:wr.cell? ⟨w.heap.size,0,none⟩=some (.pointer (some ⟨S,0,none⟩)):=za ((hbel.block _ (by omega)).trans k3') rfl
  have c7:wr.cell? ⟨w.heap.size+1+1+1,0,none⟩=some (.int .i64 (placeM h.fr h.fc:Nat)):=za ((hbel.block (w.heap.size+3) (by omega)).trans k7') rfl
  have c80:wr.cell? ⟨w2.heap.size,0,none⟩=some (.slice ao (Dn.YK h.lines).length co):=za ((hbel.block _ (by omega)).trans k8') rfl
  have c81:wr.cell? ⟨w2.heap.size,1,none⟩=some (.slice af (Dn.Yx h.lines).length cf):=za ((hbel.block _ (by omega)).trans k8') rfl
  have hwr1:w.heap.size+3<wr.heap.size:=by omega
  have hwr2:w2.heap.size<wr.heap.size:=by omega
  have hwr3:w.heap.size<wr.heap.size:=by omega
  have hror:=hro3.below hbel
  have hrfr:=hrf3.below hbel
  have hz3':Hid (W1.heap.size<=w2.heap.size/\W1.heap.size=w.heap.size+4/\W2.heap.size=w2.heap.size+1/\W2.heap.size<=w3.heap.size/\w3.heap.size<=wr.heap.size):=⟨hz2,z1,z2,hz3,hszr⟩
  have hH:Hid (gk=N-f/\zZ T s.en s.mv h 0 N=zZ T s.en s.mv h f (N-f)/\ds=Ds.map GF):=⟨hgk,hsf,hds⟩
  clear hgk hsf hds z1 z2 hz2 hz3 hszr
  by_cases hff:f<N
  ·have hfI:(f:Int)<N:=by omega
   have m1:min (f:Int) F=((min f F:Nat):Int):=by omega
   have m2:min (f:Int) G=((min f G:Nat):Int):=by omega
   go_wp2_with fail
   obtain ⟨z4,hb4,q11,q12⟩:=Us wr (.cells #[.int .i64 (f:Int)] 3) (.cells #[.int .i64 ((min f F:Nat):Int)] 3)
   generalize (wr.alloc (.cells #[.int .i64 (f:Int)] 3)).alloc (.cells #[.int .i64 ((min f F:Nat):Int)] 3)=W4 at z4 hb4 q11 q12 ⊢
   have hwo:=VG (f:=min f F) (l:=min f G) (hror.below hb4) (hrfr.below hb4) (by omega) (by omega) (by omega) (by omega)
   rw [<-hpo.out f,<-hpf.out f] at hwo
   have hpoL:(pieceO h.lines f).length<=1048576:=by rw [hpo.out f];exact Nat.le_trans (List.length_take_le' _ _) (by rw [List.length_drop];omega)
   have hpfT:(zy (pieceF h.lines f)).length<=(zy (Dn.Yx h.lines)).length:=by rw [hpf.out f];exact Zv _ _ _
   have hat:=hAt.out f
   have hto2:=hto.out f
   have hAT:Hid (xW T s.en s.mv h f=(yB ((placeM h.fr h.fc:Nat)+s.mv) T.length).find? fun x=>standM T s.en (pieceO h.lines f) (x+(min f F:Nat))):=hat
   have hTO:Hid (∀x,qo T s h f x=⟨s.t++zy ((T.drop s.en).take ((x+(min f F:Nat)).toNat-s.en))++zy (pieceF h.lines f),(x+(min f F:Nat)).toNat+(pieceO h.lines f).length,x-(placeM h.fr h.fc:Nat)⟩):=hto2
   clear hat hto2 hto hAt hpo hpf m1 m2
   refine hwo.mono ?_
   clear hwo
   generalize pieceO h.lines f=po at hpoL hAT hTO ⊢
   generalize pieceF h.lines f=pf at hpfT hTO ⊢
   generalize hahd:min f F=ahd at q12 hAT hTO ⊢
   have hahd2:ahd<=1048576:=by omega
   clear hahd
   rintro e w5 ⟨ao',co',af',cf',rfl,hro5,hrf5,hb5⟩
   have hz5:=hb5.size
   have hb45:Below wr.heap.size wr w5:=hb4.trans (hb5.mono (by omega))
   generalize hPL:placeM h.fr h.fc=PL at *
   have hpl2:PL<=100000:=hpl
   have hPLh:Hid (placeM h.fr h.fc=PL):=hPL
   clear hPL hpl
   go_wp2_with fail
   have hb6:=hb45.alloc hb45.size (.cells #[.slice ao' po.length co',.slice af' pf.length cf'] 125)
   have z6:(w5.alloc (.cells #[.slice ao' po.length co',.slice af' pf.length cf'] 125)).heap.size=w5.heap.size+1:=by simp
   have q13:=heap_alloc_new w5 (.cells #[.slice ao' po.length co',.slice af' pf.length cf'] 125)
   have q11':=(Below.heap_alloc w5 (.cells #[.slice ao' po.length co',.slice af' pf.length cf'] 125) wr.heap.size (by omega)).trans ((hb5.block wr.heap.size (by omega)).trans q11)
   have q12':=(Below.heap_alloc w5 (.cells #[.slice ao' po.length co',.slice af' pf.length cf'] 125) (wr.heap.size+1) (by omega)).trans ((hb5.block (wr.heap.size+1) (by omega)).trans q12)
   have hro6:=hro5.alloc (.cells #[.slice ao' po.length co',.slice af' pf.length cf'] 125)
   have hrf6:=hrf5.alloc (.cells #[.slice ao' po.length co',.slice af' pf.length cf'] 125)
   generalize w5.alloc (.cells #[.slice ao' po.length co',.slice af' pf.length cf'] 125)=W6 at hb6 z6 q13 q11' q12' hro6 hrf6 ⊢
   have hw6:Below w.heap.size w W6:=hbw'.trans (hb6.mono (by omega))
   have hs6:=hs.below hw6
   have hT6:=hT.below hw6
   obtain ⟨s0,s3,s4,sf⟩:=hs6.cells
   have d3:W6.cell? ⟨w.heap.size,0,none⟩=some (.pointer (some ⟨S,0,none⟩)):=(hb6.cell (p:=⟨w.heap.size,0,none⟩) hwr3).trans c3
   have d7:W6.cell? ⟨w.heap.size+1+1+1,0,none⟩=some (.int .i64 (PL:Int)):=(hb6.cell (p:=⟨w.heap.size+1+1+1,0,none⟩) hwr1).trans c7
   have hx:IntKind.i64.wrap ((PL:Int)+s.mv)=(PL:Int)+s.mv:=by rw [IntKind.wrap_i64];omega
   refine zK 11 yg (by kernel_rfl) ?_
   simp only [List.take_succ_cons,List.take_zero,List.drop_succ_cons,List.drop_zero]
   repeat still_step
   refine wpStill_nil ?_
   go_wp2_with (go_at_call 63;refine (UU ((PL:Int)+s.mv) T.length _).mono ?_;rintro e w7 ⟨rfl,rfl⟩)
   obtain ⟨z7,hb7,r1,r2⟩:=Us W6 (.cells #[.int .i64 ((PL:Int)+s.mv)] 3) (.cells #[.int .i64 (T.length:Int)] 3)
   replace hb7:=hb7.drew
   have z7':(((W6.alloc (.cells #[.int .i64 ((PL:Int)+s.mv)] 3)).alloc (.cells #[.int .i64 (T.length:Int)] 3)).drew).heap.size=W6.heap.size+2:=z7
   have r1':(((W6.alloc (.cells #[.int .i64 ((PL:Int)+s.mv)] 3)).alloc (.cells #[.int .i64 (T.length:Int)] 3)).drew).heap[W6.heap.size]? =_:=r1
   have r2':(((W6.alloc (.cells #[.int .i64 ((PL:Int)+s.mv)] 3)).alloc (.cells #[.int .i64 (T.length:Int)] 3)).drew).heap[W6.heap.size+1]? =_:=r2
   clear z7 r1 r2
   generalize ((W6.alloc (.cells #[.int .i64 ((PL:Int)+s.mv)] 3)).alloc (.cells #[.int .i64 (T.length:Int)] 3)).drew=W7 at z7' hb7 r1' r2' ⊢
   rw [z6] at r1' r2' z7'
   have hDs7: ∀D∈Ds,D<W7.heap.size:=fun D hD=>by have:=(Array.getElem?_eq_some_iff.1 (hmk.2 D hD)).1;have:=hb6.size;omega
   have hwz:w.heap.size<=W7.heap.size:=by have:=hw6.size;omega
   have hSw:=hs.lt
   refine wpIn_wide.1 (wpIn_rangeFunc_ownF (F:=Fence.wide) (n:=9) (α :=Pl) rfl (by omega) (gf:=103) (lb:= #[.pointer (some ⟨w5.heap.size+1,0,none⟩),.pointer (some ⟨w5.heap.size+1+1,0,none⟩)]) rfl trivial (enters_of func103 (by kernel_rfl) rfl)
    (KB 8 (by omega) (w5.heap.size+1) (w5.heap.size+1+1) W7.heap.size T.length ((PL:Int)+s.mv) (by omega) (by omega) (by omega) (by omega) W7 (Nat.le_refl _) (za r1' rfl) (za r2' rfl)) belowK_t (belowK_b (Nat.le_refl _)) (Below.refl _ _) (fun _=>rfl)
    (fun pre W=>Below W7.heap.size W7 W/\ ∀y∈kK pre,standM T s.en po (y+(ahd:Int))=false)
    (fun c pre W=>c= .ret/\ ∃pre' x,kK pre=pre'++ [x]/\(∀y∈pre',standM T s.en po (y+(ahd:Int))=false)/\standM T s.en po (x+(ahd:Int))=true/\jC S w (.slice al T.length cl) (w.heap.size+2) (qo T s h f x) ⟨true,x-(PL:Int),f⟩ W/\ ∀D∈Ds,W.heap[D]? =some (.deferred (some [])))
    (OwnFrom.and (ownFrom_below (Nat.le_refl _) (Nat.le_refl _)) (ownFrom_pure _ _))
    (fun c pre A B row hI hg hr=>by
     obtain ⟨e,pre',x,e1,e2,e3,e4,e5⟩:=hI
     exact ⟨e,pre',x,e1,e2,e3,e4.grow hg hr hwz hSw,fun D hD=>(hg.block D (Array.getElem?_eq_some_iff.1 (e5 D hD)).1 (fun e=>by have:=(hr D e.symm).1;have:=hDs7 D hD;omega)).trans (e5 D hD)⟩)
    ⟨Below.refl _ _,by simp [kK]⟩
    (fun x=> { tmps:= #[.pointer (some ⟨S,0,none⟩),kp h (.slice a h.lines.length c),.int .i64 (fz:Int),.pointer (some ⟨w.heap.size,0,none⟩),.pointer (some ⟨w.heap.size+1,0,none⟩),u 5,.pointer (some ⟨w.heap.size+1+1,0,none⟩),.pointer (some ⟨w.heap.size+1+1+1,0,none⟩),.pointer (some ⟨w2.heap.size,0,none⟩),.int .i64 (F:Int),.int .i64 (G:Int),.pointer (some ⟨wr.heap.size,0,none⟩),.pointer (some ⟨wr.heap.size+1,0,none⟩),.pointer (some ⟨w5.heap.size,0,none⟩),.int .i64 x.1,u 15,u 16,u 17,u 18,u 19,u 20,u 21,u 22,u 23,u 24,u 25,u 26,u 27,u 28,u 29,u 30,u 31,u 32,u 33,.int .i64 (N:Int),.int .i64 (f:Int),.bool true,.int .i64 (f:Int),.int .i64 (f:Int),.int .i64 (F:Int),.int .i64 (ahd:Int),.agg #[.slice ao (Dn.YK h.lines).length co,.slice af (Dn.Yx h.lines).length cf],.int .i64 (ahd:Int),.int .i64 (f:Int),.int .i64 (G:Int),.int .i64 ((min f G:Nat):Int),.agg #[.slice ao' po.length co',.slice af' pf.length cf'],.int .i64 (PL:Int),.pointer (some ⟨S,0,none⟩),.pointer (some ⟨S,0,none⟩),.pointer (some ⟨S,4,none⟩),.int .i64 s.mv,.int .i64 ((PL:Int)+s.mv),.pointer (some ⟨S,0,none⟩),.pointer (some ⟨S,0,none⟩),.pointer (some ⟨S,0,none⟩),.slice al T.length cl,.int .i64 (T.length:Int),.func (.func 103) #[] #[.pointer (some ⟨w5.heap.size+1,0,none⟩),.pointer (some ⟨w5.heap.size+1+1,0,none⟩)],.int .i64 x.1,u 60,u 61,u 62,u 63,u 64,u 65,u 66,u 67,u 68,u 69,u 70,u 71,u 72,u 73,u 74,u 75,u 76,u 77,u 78,u 79,u 80,u 81,u 82,u 83,u 84,u 85],defers:= [] }) ?assign ?body ?done ?stop)
   case assign=>
    intro l x W K hK
    gi_wp2
    exact hK
   case body=>
    rintro l pre x W ⟨hBW,hfalse⟩ _
    dsimp only
    have hb67:Below W6.heap.size W6 W:=hb7.trans (hBW.mono (by omega))
    have hw7:Below w.heap.size w W:=hw6.trans (hb67.mono (by omega))
    have hs7:=hs6.below hb67
    have hT7:=hT6.below hb67
    have ho7:=hro6.below hb67
    have hf7:=hrf6.below hb67
    have g3:=(hb67.block w.heap.size (by omega)).trans ((hb6.block w.heap.size hwr3).trans ((hbel.block _ (by have:=hz3'.out;omega)).trans k3'))
    have g6:=(hb67.block (w.heap.size+2) (by omega)).trans ((hb6.block (w.heap.size+2) (by omega)).trans ((hbel.block _ (by have:=hz3'.out;omega)).trans k6'))
    have g7:=(hb67.block (w.heap.size+3) (by omega)).trans ((hb6.block (w.heap.size+3) hwr1).trans ((hbel.block _ (by have:=hz3'.out;omega)).trans k7'))
    have g11:=(hb67.block wr.heap.size (by omega)).trans q11'
    have g12:=(hb67.block (wr.heap.size+1) (by omega)).trans q12'
    have g13:=(hb67.block w5.heap.size (by omega)).trans q13
    obtain ⟨cs7,hcs7⟩:=hs7.tag
    have hx1:=x.2.1
    have hx2:=x.2.2
    have hcan:=Wa (at':=x.1+(ahd:Int)) hs7 hT7 ho7 rfl ⟨af',pf.length,cf',rfl⟩ (by omega) ⟨by omega,by omega⟩
    have e3:W.cell? ⟨w.heap.size,0,none⟩=some (.pointer (some ⟨S,0,none⟩)):=za g3 rfl
    have e12:W.cell? ⟨wr.heap.size+1,0,none⟩=some (.int .i64 (ahd:Int)):=za g12 rfl
    have e130:W.cell? ⟨w5.heap.size,0,none⟩=some (.slice ao' po.length co'):=za g13 rfl
    have e131:W.cell? ⟨w5.heap.size,1,none⟩=some (.slice af' pf.length cf'):=za g13 rfl
    have xw:IntKind.i64.wrap (x.1+(ahd:Int))=x.1+(ahd:Int):=by rw [IntKind.wrap_i64];omega
    have hWz:=hBW.size
    cases hst:standM T s.en po (x.1+(ahd:Int)) with
    | false=>
      rw [hst] at hcan
      gi_wp2_with (refine ⟨trivial,?_⟩;gi_at_call 64;refine (CallsIn.inRound l (callsIn_wide.2 hcan)).mono ?_;rintro e w8 ⟨rfl,hb8⟩)
      refine ⟨Ud hb8,hb8.mono hWz,hBW.trans (hb8.mono hWz),?_⟩
      intro y hy
      rw [qN,List.mem_append] at hy
      rcases hy with hy | hy
      ·exact hfalse y hy
      ·simp [kK] at hy;rw [hy];exact hst
    | true=>
      rw [hst] at hcan
      obtain ⟨st1,st2,_⟩:=of_decide_eq_true hst
      obtain ⟨kk,hkk⟩: ∃kk:Nat,x.1+(ahd:Int)=kk:=⟨(x.1+(ahd:Int)).toNat,by omega⟩
      have hH2:Hid (standM T s.en po (x.1+(ahd:Int))=true/\(x.1+(ahd:Int)).toNat=kk):=⟨hst,by omega⟩
      have hput:Hid (∀W8:World,Below W.heap.size W W8->Calls prog 65 #[.pointer (some ⟨S,0,none⟩),.agg #[.slice ao' po.length co',.slice af' pf.length cf'],.int .i64 (x.1+(ahd:Int))] W8 fun e w'=>
          e= .returned (.tuple #[])/\yE S (.slice al T.length cl) (s.t++zy ((T.drop s.en).take (kk-s.en))++zy pf) ((kk+po.length:Nat):Int) s.mv w'/\Below S W8 w'/\Lib.OthersKept 5 (some S) W8 w'):=by
       intro W8 hb8
       rw [hkk]
       exact Pr (hs7.below hb8) (hT7.below hb8) (hf7.below hb8) rfl (by omega) (by omega) (by omega) (by omega) (by omega)
      have hmw:IntKind.i64.wrap (x.1-(PL:Int))=x.1-(PL:Int):=by rw [IntKind.wrap_i64];omega
      have e3h:Hid (∀W8:World,Below W.heap.size W W8->W8.cell? ⟨w.heap.size,0,none⟩=some (.pointer (some ⟨S,0,none⟩))/\W8.cell? ⟨wr.heap.size+1,0,none⟩=some (.int .i64 (ahd:Int))/\W8.cell? ⟨w5.heap.size,0,none⟩=some (.slice ao' po.length co')/\W8.cell? ⟨w5.heap.size,1,none⟩=some (.slice af' pf.length cf')):=fun W8 hb8=>
       ⟨(hb8.cell (p:=⟨w.heap.size,0,none⟩) (Array.getElem?_eq_some_iff.1 g3).1).trans e3,(hb8.cell (p:=⟨wr.heap.size+1,0,none⟩) (Array.getElem?_eq_some_iff.1 g12).1).trans e12,(hb8.cell (p:=⟨w5.heap.size,0,none⟩) (Array.getElem?_eq_some_iff.1 g13).1).trans e130,(hb8.cell (p:=⟨w5.heap.size,1,none⟩) (Array.getElem?_eq_some_iff.1 g13).1).trans e131⟩
      have hS7:S<W.heap.size:=hs7.lt
      have hne: ∀k,w.heap.size<=k->some k≠some S:=fun k hk e=>by cases e;omega
      have hkeep:Hid (∀W8 w9:World,Below W.heap.size W W8->Lib.OthersKept 5 (some S) W8 w9->w9.heap[w.heap.size]? =W.heap[w.heap.size]? /\w9.heap[w.heap.size+2]? =W.heap[w.heap.size+2]? /\w9.heap[w.heap.size+3]? =W.heap[w.heap.size+3]? /\w9.heap[wr.heap.size]? =W.heap[wr.heap.size]? /\Lib.OthersKept 5 (some S) W w9):=by
       intro W8 w9 hb8 ho9
       have ho:=(ks (e:=5) (b:=some S) hb8).trans ho9
       refine ⟨?_,?_,?_,?_,ho⟩
       ·rw [g3];exact ho _ _ g3 (hne _ (Nat.le_refl _)) (by intro c z e;injection e with _ e;exact absurd e (by decide))
       ·rw [g6];exact ho _ _ g6 (hne _ (by omega)) (by intro c z e;injection e with _ e;exact absurd e (by decide))
       ·rw [g7];exact ho _ _ g7 (hne _ (by omega)) (by intro c z e;injection e with _ e;exact absurd e (by decide))
       ·rw [g11];exact ho _ _ g11 (hne _ (by omega)) (by intro c z e;injection e with _ e;exact absurd e (by decide))
      clear hkk st1 st2 hst
      gi_wp2_with (first | (refine ⟨trivial,?_⟩;gi_at_call 64;refine (CallsIn.inRound l (callsIn_wide.2 hcan)).mono ?_;clear hcan;rintro e w8 ⟨rfl,hb8⟩;obtain ⟨f3,f12,f130,f131⟩:=e3h.out w8 hb8) | (refine ⟨trivial,?_⟩;gi_at_call 65;refine (CallsIn.inRound l (callsIn_wide.2 (hput.out w8 hb8))).mono ?_;rintro e w9 ⟨rfl,hs9,hb9,ho9⟩;obtain ⟨j3,j6,j7,j11,jo⟩:=hkeep.out w8 w9 hb8 ho9;have i3:w9.cell? ⟨w.heap.size,0,none⟩=some (.pointer (some ⟨S,0,none⟩)):=za (j3.trans g3) rfl;have i7:w9.cell? ⟨w.heap.size+1+1+1,0,none⟩=some (.int .i64 (PL:Int)):=za (j7.trans g7) rfl;have i11:w9.cell? ⟨wr.heap.size,0,none⟩=some (.int .i64 (f:Int)):=za (j11.trans g11) rfl;obtain ⟨t0,t3,t4,tf⟩:=hs9.cells))
      have hs10:=hs9.set4 (x.1-(PL:Int))
      have jo10:=jo.setCell ⟨S,4,none⟩ rfl (.int .i64 (x.1-(PL:Int)))
      have hbS10:Below S W (w9.setCell ⟨S,4,none⟩ (.int .i64 (x.1-(PL:Int)))):=((hb8.mono (by omega)).trans hb9).setCell (p:=⟨S,4,none⟩) (Nat.le_refl _) _
      have m3:=(zd w9 S w.heap.size 4 (.int .i64 (x.1-(PL:Int))) (by omega)).trans (j3.trans g3)
      have m6:=(zd w9 S (w.heap.size+2) 4 (.int .i64 (x.1-(PL:Int))) (by omega)).trans (j6.trans g6)
      have m11:=(zd w9 S wr.heap.size 4 (.int .i64 (x.1-(PL:Int))) (by omega)).trans (j11.trans g11)
      generalize w9.setCell ⟨S,4,none⟩ (.int .i64 (x.1-(PL:Int)))=W10 at hs10 jo10 hbS10 m3 m6 m11 ⊢
      clear i3 i7 i11 t0 t3 t4 tf
      have i3:W10.cell? ⟨w.heap.size,0,none⟩=some (.pointer (some ⟨S,0,none⟩)):=za m3 rfl
      have i11:W10.cell? ⟨wr.heap.size,0,none⟩=some (.int .i64 (f:Int)):=za m11 rfl
      obtain ⟨t0,t3,t4,tf⟩:=hs10.cells
      have i60:W10.cell? ⟨w.heap.size+1+1,0,none⟩=some (.bool false):=za m6 rfl
      have i61:W10.cell? ⟨w.heap.size+1+1,1,none⟩=some (.int .i64 0):=za m6 rfl
      have i62:W10.cell? ⟨w.heap.size+1+1,2,none⟩=some (.int .i64 0):=za m6 rfl
      have if6: ∀k,W10.frozen? ⟨w.heap.size+1+1,k,none⟩=false:=fun k=>zi m6
      have hz10:=hbS10.size
      have hmk7: ∀D∈Ds,W.heap[D]? =some (.deferred (some [])):=fun D hD=>by
       have h1:=hmk.2 D hD
       have h2:=(Array.getElem?_eq_some_iff.1 h1).1
       have h3:=hb6.size
       exact (hb67.block D (by omega)).trans ((hb6.block D h2).trans h1)
      have hfin:=En (f:=f) hw7 hs7.tag hs10 m6 hbS10 jo10 (by omega) hmk7
      have hTO2:=hTO.out x.1
      rw [hH2.out.2] at hTO2
      have hpost:KeepsOthers W (((W10.setCell ⟨w.heap.size+1+1,0,none⟩ (.bool true)).setCell ⟨w.heap.size+1+1,1,none⟩ (.int .i64 (x.1-(PL:Int)))).setCell ⟨w.heap.size+1+1,2,none⟩ (.int .i64 (f:Int))).drew/\(∃pre' x',kK (pre++ [x])=pre'++ [x']/\(∀y∈pre',standM T s.en po (y+(ahd:Int))=false)/\standM T s.en po (x'+(ahd:Int))=true/\
          jC S w (.slice al T.length cl) (w.heap.size+2) (qo T s h f x') ⟨true,x'-(PL:Int),f⟩ (((W10.setCell ⟨w.heap.size+1+1,0,none⟩ (.bool true)).setCell ⟨w.heap.size+1+1,1,none⟩ (.int .i64 (x.1-(PL:Int)))).setCell ⟨w.heap.size+1+1,2,none⟩ (.int .i64 (f:Int))).drew/\
          ∀D∈Ds,(((W10.setCell ⟨w.heap.size+1+1,0,none⟩ (.bool true)).setCell ⟨w.heap.size+1+1,1,none⟩ (.int .i64 (x.1-(PL:Int)))).setCell ⟨w.heap.size+1+1,2,none⟩ (.int .i64 (f:Int))).drew.heap[D]? =some (.deferred (some []))):=
       ⟨hfin.1,kK pre,x.1,by rw [qN];rfl,hfalse,hH2.out.1,by rw [hTO2];exact hfin.2.1,hfin.2.2⟩
      have hP:Hid _:=hpost
      clear hpost hfin hTO2 hfalse hmk7
      have hmixed:=yg
      gi_region_o
      all_goals (gi_wp2;exact ⟨hP.out.1,rfl,hP.out.2⟩)
   case done=>
    rintro D xs W hD hS ⟨hBW,hfalse⟩ hDef
    have hb67:Below W6.heap.size W6 W:=hb7.trans (hBW.mono (by omega))
    have hbw3:Below w3.heap.size w3 W:=hbel.trans ((hb6.trans (hb67.mono (by have:=hb6.size;omega))).mono (by have:=hz3'.out;omega))
    have hnone:xW T s.en s.mv h f=none:=by
     rw [hAT.out]
     exact Ea (fun y hy=>hfalse y (by rw [hS];exact hy))
    have hmk7: ∀D∈Ds,W.heap[D]? =some (.deferred (some [])):=fun D hD=>by
     have h1:=hmk.2 D hD
     have h2:=(Array.getElem?_eq_some_iff.1 h1).1
     have h3:=hb6.size
     exact (hb67.block D (by omega)).trans ((hb6.block D h2).trans h1)
    have hM:Qr (D::Ds) W:=⟨List.nodup_cons.2 ⟨fun hm=>by have:=hDs7 D hm;omega,hmk.1⟩,fun D' hD'=>by
     rcases List.mem_cons.1 hD' with rfl | hD'
     ·exact hDef
     ·exact hmk7 D' hD'⟩
    have hH3:Hid (Qr (D::Ds) W/\zZ T s.en s.mv h 0 N=zZ T s.en s.mv h (f+1) (N-(f+1))/\Below w3.heap.size w3 W/\ ∀D'∈D::Ds,w3.heap.size<=D'):=by
     refine ⟨hM,?_,hbw3,?_⟩
     ·rw [hH.out.2.1,show N-f=(N-(f+1))+1 by omega,Wd hnone]
     ·intro D' hD'
      rcases List.mem_cons.1 hD' with rfl | hD'
      ·have:=hb6.size;have:=hz3'.out;omega
      ·exact hDs D' hD'
    clear hM hmk7 hnone hbw3 hfalse hS hDef
    have hfw:IntKind.i64.wrap ((f:Int)+1)=(f:Int)+1:=by rw [IntKind.wrap_i64];omega
    go_wp2_with fail
    exact Handed.intro (N-(f+1)) (by have:=hH.out.1;omega) (hJ _ _ _ ⟨f+1,D::Ds,rfl,by omega,hH3.out.2.1,by rw [hH.out.2.2];rfl,hH3.out.1,hH3.out.2.2.2,hH3.out.2.2.1,rfl,rfl,rfl,rfl,rfl,rfl,rfl,rfl,rfl,rfl,rfl,rfl,rfl⟩)
   case stop=>
    rintro D c pre W hD hSp ⟨rfl,pre',x,hv,hf',ht',hfin,hmks⟩ hDef
    have hsome:xW T s.en s.mv h f=some x:=by
     rw [hAT.out]
     exact UM (by rw [<-hv];exact hSp) hf' ht'
    have hsm:xD T s h fz=(qo T s h f x,⟨true,x-(PL:Int),f⟩):=by
     unfold xD
     rw [hF2.out,hH.out.2.1,KU (by omega) hsome]
     show (qo T s h f x,(⟨true,x-(placeM h.fr h.fc:Nat),f⟩:jS))=_
     rw [hPLh.out]
    have hM:Qr (D::Ds) W:=⟨List.nodup_cons.2 ⟨fun hm=>by have:=hDs7 D hm;omega,hmk.1⟩,fun D' hD'=>by
     rcases List.mem_cons.1 hD' with rfl | hD'
     ·exact hDef
     ·exact hmks D' hD'⟩
    have hH4:Hid (jC S w (.slice al T.length cl) (w.heap.size+2) (qo T s h f x) ⟨true,x-(PL:Int),f⟩ W/\Qr (D::Ds) W/\xD T s h fz=(qo T s h f x,⟨true,x-(PL:Int),f⟩)):=⟨hfin,hM,hsm⟩
    clear hsm hM hsome hf' ht' hv hSp hDef hmks hfin
    refine wpIn_wide.2 ?_
    go_wp2_with fail
    rw [hH4.out.2.2,hH.out.2.2]
    refine Kj (Ds:=D::Ds) hH4.out.1 hSw hH4.out.2.1 ?_ ?_
    ·intro D' hD'
     rcases List.mem_cons.1 hD' with rfl | hD'
     ·omega
     ·have:=hDs D' hD';have:=hz3'.out;omega
    ·intro W d0 d1 d2
     simp [results,results29,go_sem,d0,d1,d2]
  ·obtain rfl:f=N:=by omega
   have k60:wr.cell? ⟨w.heap.size+1+1,0,none⟩=some (.bool false):=za ((hbel.block (w.heap.size+2) (by have:=hz3'.out;omega)).trans k6') rfl
   have k61:wr.cell? ⟨w.heap.size+1+1,1,none⟩=some (.int .i64 0):=za ((hbel.block (w.heap.size+2) (by have:=hz3'.out;omega)).trans k6') rfl
   have k62:wr.cell? ⟨w.heap.size+1+1,2,none⟩=some (.int .i64 0):=za ((hbel.block (w.heap.size+2) (by have:=hz3'.out;omega)).trans k6') rfl
   have k6f: ∀k,wr.frozen? ⟨w.heap.size+1+1,k,none⟩=false:=fun k=>zi ((hbel.block (w.heap.size+2) (by have:=hz3'.out;omega)).trans k6')
   have hsm:xD T s h fz=(s,⟨false,0,0⟩):=by
    unfold xD
    rw [hF2.out,hH.out.2.1,Nat.sub_self]
    rfl
   have hsmH:Hid _:=hsm
   have hs':=hs.below hbw'
   have hfin:=EV hs.lt hs' ((hbel.block (w.heap.size+2) (by have:=hz3'.out;omega)).trans k6') hbw'
   have hmk': ∀D∈Ds,(((wr.setCell ⟨w.heap.size+1+1,0,none⟩ (.bool false)).setCell ⟨w.heap.size+1+1,1,none⟩ (.int .i64 0)).setCell ⟨w.heap.size+1+1,2,none⟩ (.int .i64 0)).heap[D]? =some (.deferred (some [])):=by
    intro D hD
    have hDb:D≠w.heap.size+1+1:=by have:=hDs D hD;have:=hz3'.out;omega
    rw [zd _ _ _ _ _ hDb,zd _ _ _ _ _ hDb,zd _ _ _ _ _ hDb]
    exact hmk.2 D hD
   have hfinH:Hid _:=hfin
   have hmkH:Hid _:=hmk'
   clear hsm hfin hmk'
   go_wp2_with fail
   rw [hsmH.out,hH.out.2.2]
   refine Kj hfinH.out hs.lt ⟨hmk.1,hmkH.out⟩ (fun D hD=>by have:=hDs D hD;have:=hz3'.out;omega) ?_
   intro W d0 d1 d2
   simp [results,results29,go_sem,d0,d1,d2]
structure UI (h:zx):Prop where
 kinds: ∀x∈h.lines,x.kind=32\/x.kind=45\/x.kind=43
 len:h.lines.length<=1048576
 fr:h.fr<=100000
 fc:min h.fc 1<=h.fr
 text:(zy (Dn.Yx h.lines)).length<=4000000
structure Pa (T:List ByteArray) (s:qu) (n:Nat):Prop where
 en:s.en<=T.length
 mv: -2000000<=s.mv/\s.mv<=2000000
 t:s.t.length<=n*5000000
theorem PH {T:List ByteArray} {s:qu} {h:zx} {fz n:Nat} (hs:Pa T s n) (hh:UI h) (hT:T.length<=40000) (hx:(zy T).length<=10000):Pa T (xD T s h fz).1 (n+1):=by
 unfold xD
 cases hf:YB T s.en s.mv h fz with
 | none=>exact ⟨hs.en,hs.mv,Nat.le_trans hs.t (by omega)⟩
 | some p=>
   obtain ⟨f,x⟩:=p
   have hat:=Gk _ _ hf
   have hst:=List.find?_some hat
   obtain ⟨h1,h2,_⟩:=of_decide_eq_true hst
   have hk:=(YZ h.lines h.lines.length).1
   have hpl:placeM h.fr h.fc<=100000:=by have:=hh.fr;unfold placeM;split<;>omega
   have hlen:=hh.len
   have e1:=Zv T s.en ((x+(min f (zr h.lines h.lines.length).1:Nat)).toNat-s.en)
   have e2:(zy (pieceF h.lines f)).length<=(zy (Dn.Yx h.lines)).length:=Zv _ _ _
   have e3:=hh.text
   have e4:=hs.t
   refine ⟨?_,?_,?_⟩
   ·show (x+(min f (zr h.lines h.lines.length).1:Nat)).toNat+(pieceO h.lines f).length<=T.length
    omega
   ·show -2000000<=x-(placeM h.fr h.fc:Nat)/\x-(placeM h.fr h.fc:Nat)<=2000000
    omega
   ·show (s.t++_++_).length<=_
    rw [List.length_append,List.length_append]
    omega
theorem Fm {T:List ByteArray} {fz:Nat} {hs:List zx} (hh: ∀h∈hs,UI h) (hT:T.length<=40000) (hx:(zy T).length<=10000): ∀k,k<=hs.length->Pa T (applyK T fz hs k).1 k/\(applyK T fz hs k).2.length=k:=by
 intro k
 induction k with
 | zero=>intro _;exact ⟨⟨Nat.zero_le _,(show (-2000000:Int)<=0/\(0:Int)<=2000000 by decide),Nat.zero_le _⟩,rfl⟩
 | succ k ih=>
   intro hk
   rw [kQ T fz hs k hk]
   obtain ⟨i1,i2⟩:=ih (by omega)
   exact ⟨PH i1 (hh _ (List.getElem_mem _)) hT hx,by rw [List.length_append,i2];rfl⟩
theorem TT {s:ByteArray} {hs:List zx} {fz:Nat} {a:Option Addr} {cap:Nat} {m:Int} {w:World} (hck: ∀W,zO W.heap.size W (.slice a hs.length cap) hs->Calls prog 28 #[.string s,.agg #[.slice a hs.length cap],.int .i64 fz] W fun e w'=>e= .returned (.int .i64 0)/\Below W.heap.size W w') (hf:fz<=10)
 (hH:zO w.heap.size w (.slice a hs.length cap) hs) (hL:hs.length<=300000) (hsz:s.size<4294967281) (hm:w.cell? ⟨0,0,none⟩=some (.int .i64 m)) (hm0:0<w.heap.size)
 (hh: ∀h∈hs,UI h) (hT:(linesB s).length<=40000) (hx:(zy (linesB s)).length<=10000):
 Calls prog 14 #[.string s,.agg #[.slice a hs.length cap],.int .i64 fz] w fun e w'=>
  ∃v,e= .returned (.tuple #[.string (applyT (linesB s) fz hs),v,.int .i64 0])/\w'.ownsRow w.heap.size 63 3 v hs.length (zL (applyS (linesB s) fz hs))/\Below w.heap.size w w':=by
 obtain ⟨i0,hi,hz0,hz1,hz2⟩:=info_parts YW
 have hA:=fun k hk=>Fm (fz:=fz) hh hT hx k hk
 have hw0:Below w.heap.size w (w.alloc (.cells #[.slice a hs.length cap] 32)):=(Below.refl _ _).alloc (Nat.le_refl _) _
 have hp0:=heap_alloc_new w (.cells #[.slice a hs.length cap] 32)
 have hc:=hck (w.alloc (.cells #[.slice a hs.length cap] 32)) ((hH.below hw0).mono (by simp:w.heap.size<=(w.alloc (.cells #[.slice a hs.length cap] 32)).heap.size))
 have z0:(w.alloc (.cells #[.slice a hs.length cap] 32)).heap.size=w.heap.size+1:=by simp
 have p0:(w.alloc (.cells #[.slice a hs.length cap] 32)).cell? ⟨w.heap.size,0,none⟩=some (.slice a hs.length cap):=za hp0 rfl
 go_enter func14,ntmps14
 go_wp2_with fail
 generalize w.alloc (.cells #[.slice a hs.length cap] 32)=W0 at *
 refine hc.mono ?_
 rintro e w1 ⟨rfl,b1⟩
 have hb1:Below w.heap.size w w1:=hw0.trans (b1.mono (by omega))
 have hz1':=b1.size
 have hl:=WI s m w1 hsz ((hb1.cell (p:=⟨0,0,none⟩) hm0).trans hm)
 go_wp2_with (go_at_call 26;refine hl.mono ?_;rintro e w2 ⟨al,cl,rfl,hrow,b2⟩;have hz2':=b2.size;have hlt2:w.heap.size<w2.heap.size:=by omega
              have q0:w2.cell? ⟨w.heap.size,0,none⟩=some (.slice a hs.length cap):=(b2.cell (p:=⟨w.heap.size,0,none⟩) (by show w.heap.size<_;omega)).trans ((b1.cell (p:=⟨w.heap.size,0,none⟩) (by show w.heap.size<_;omega)).trans p0)
              have q0':=fun ob=>(World.cell?_of_block (a:=⟨w.heap.size,0,none⟩) (Below.heap_alloc w2 ob w.heap.size hlt2)).trans q0)
 generalize hTd:linesB s=T at *
 have hS0:yE w2.heap.size (.slice al T.length cl) [] (0:Nat) 0 (w2.alloc (.cells #[.slice al T.length cl,.pointer none,.slice none 0 0,.int .i64 0,.int .i64 0] 76)):=
  ⟨.pointer none,.slice none 0 0,heap_alloc_new w2 _,.inl rfl,World.ownsRow_nil _ _ _ _⟩
 have hR0:=hrow.alloc (.cells #[.slice al T.length cl,.pointer none,.slice none 0 0,.int .i64 0,.int .i64 0] 76)
 have hb2':Below w.heap.size w w2:=hb1.trans (b2.mono (by omega))
 have hB0:=hb2'.alloc (by omega) (.cells #[.slice al T.length cl,.pointer none,.slice none 0 0,.int .i64 0,.int .i64 0] 76)
 go_loopg [11,27] hs.length (fun g vs t wr=> ∃k:Nat,g=hs.length-k/\k<=hs.length/\t= .int .i64 k/\yE w2.heap.size (.slice al T.length cl) (applyK T fz hs k).1.t ((applyK T fz hs k).1.en:Nat) (applyK T fz hs k).1.mv wr/\yq wr (.slice al T.length cl) T/\wr.ownsRow w.heap.size 63 3 vs k (zL (applyK T fz hs k).2)/\Below w.heap.size w wr)
 case atStart=>exact ⟨0,by omega,by omega,rfl,hS0,hR0,World.ownsRow_nil _ _ _ _,hB0⟩
 case round=>
  obtain ⟨k,hgk,hkl,rfl,hsew,hrw,hown,hbel⟩:=hrel
  clear hS0 hR0 hB0 q0 q0' hl hc
  have hSw:=hsew.lt
  have hszr:=hbel.size
  by_cases hkk:k<hs.length
  ·have hkI:(k:Int)<hs.length:=by omega
   obtain ⟨b,a',c',rfl,hbB,r0,r1,r2,r3,r4,hst⟩:=(hH.below hbel).at hkk
   have hho:=hh _ (List.getElem_mem hkk)
   have hap:=kQ T fz hs k hkk
   obtain ⟨hok1,hlk⟩:=hA k hkl
   generalize applyK T fz hs k=AK at hsew hown hap hok1 hlk
   generalize hs[k]=h at r0 r1 r2 r3 r4 hst hho hap
   have hAH:Hid (gk=hs.length-k/\applyK T fz hs (k+1)=((xD T AK.1 h fz).1,AK.2++ [(xD T AK.1 h fz).2])):=⟨hgk,hap⟩
   clear hgk hap
   have hbx:=Below.heap_alloc wr (.cells #[.int .i64 (h.fr:Int),.int .i64 (h.fc:Int),.int .i64 (h.tr:Int),.int .i64 (h.tc:Int),.slice a' h.lines.length c'] 61)
   have hsew1:=hsew.alloc (.cells #[.int .i64 (h.fr:Int),.int .i64 (h.fc:Int),.int .i64 (h.tr:Int),.int .i64 (h.tc:Int),.slice a' h.lines.length c'] 61)
   have hrw1:=hrw.alloc (.cells #[.int .i64 (h.fr:Int),.int .i64 (h.fc:Int),.int .i64 (h.tr:Int),.int .i64 (h.tc:Int),.slice a' h.lines.length c'] 61)
   have hown1:=hown.alloc (.cells #[.int .i64 (h.fr:Int),.int .i64 (h.fc:Int),.int .i64 (h.tr:Int),.int .i64 (h.tc:Int),.slice a' h.lines.length c'] 61)
   have hbel1:=hbel.alloc hszr (.cells #[.int .i64 (h.fr:Int),.int .i64 (h.fc:Int),.int .i64 (h.tr:Int),.int .i64 (h.tc:Int),.slice a' h.lines.length c'] 61)
   have hst1:=(hst.below ((Below.refl w.heap.size wr).alloc hszr (.cells #[.int .i64 (h.fr:Int),.int .i64 (h.fc:Int),.int .i64 (h.tr:Int),.int .i64 (h.tc:Int),.slice a' h.lines.length c'] 61))).mono (B':=(wr.alloc (.cells #[.int .i64 (h.fr:Int),.int .i64 (h.fc:Int),.int .i64 (h.tr:Int),.int .i64 (h.tc:Int),.slice a' h.lines.length c'] 61)).heap.size) (by simp;omega)
   have hk20:k*5000000<=1500000000000:=by omega
   have hse:=Pu (fz:=fz) hsew1 hrw1 hst1 hho.kinds hho.len hho.fr hho.fc (by omega) hok1.mv (by have:=hok1.t;have:=hho.text;omega) (by omega)
   obtain ⟨ao,co,rfl⟩:=zn hown
   have hsz1:(wr.alloc (.cells #[.int .i64 (h.fr:Int),.int .i64 (h.fc:Int),.int .i64 (h.tr:Int),.int .i64 (h.tc:Int),.slice a' h.lines.length c'] 61)).heap.size=wr.heap.size+1:=by simp
   go_wp2_with fail
   generalize wr.alloc (.cells #[.int .i64 (h.fr:Int),.int .i64 (h.fc:Int),.int .i64 (h.tr:Int),.int .i64 (h.tc:Int),.slice a' h.lines.length c'] 61)=W1 at hsew1 hrw1 hown1 hbel1 hse hsz1 ⊢
   refine hse.mono ?_
   clear hse hbx hst hst1
   generalize hR:xD T AK.1 h fz=R at *
   obtain ⟨rs,⟨rd,ra,rf⟩⟩:=R
   rintro e w5 ⟨rfl,hs5,hb5,ho5⟩
   obtain ⟨cs1,hcs1⟩:=hsew1.tag
   have hrw5:=hrw1.kept hcs1 ho5
   have hown5:=XA hown1 hcs1 ho5
   have hz5:=hb5.size
   have hbel5:Below w.heap.size w w5:=hbel1.trans (hb5.mono (by omega))
   have hone: ∀u∈ [Value.bool rd,Value.int .i64 ra,Value.int .i64 (rf:Nat)],u.oneCell'=true:=by intro u hu;simp at hu;rcases hu with rfl | rfl | rfl<;>rfl
   have hm1:k+1<=maxLen:=by unfold maxLen;omega
   have hm2:(k+1)*24<=140737488355328:=by omega
   have hw5:=hbel5.size
   dsimp only at hs5 ⊢
   clear hrw hown hsew hsew1 hrw1 hown1 hcs1
   go_wp2_with (at_builtin;refine zm rfl (.tmp 31) (.tmp 35) 37 rfl w.heap.size 63 i0 _ 3 24 underlying37 hi hz0 hz1 hz2 rfl (by decide) (.slice ao k co) k (zL AK.2) rfl (hown5.alloc _) ⟨w5.heap.size,0,none⟩ 1 1 [.bool rd,.int .i64 ra,.int .i64 (rf:Nat)] rfl rfl (zt w5 _ _) hone hm1 hm2 (by simp;omega) ?_;intro vs' w6 hown6 hgrow6 hnew6)
   go_roundg (hs.length-(k+1))
   ·have e1:=hAH.out.2
    have hk:=jV (hown5.alloc (.cells #[.bool rd,.int .i64 ra,.int .i64 (rf:Nat)] 63))
    refine ⟨k+1,rfl,by omega,by push_cast;rfl,?_,(hrw5.alloc _).keep hgrow6 hk,?_,(hbel5.alloc (by omega) _).grown hgrow6 (by simp;omega) (fun j e=>(hown5.lt j e).1)⟩
    ·rw [e1];exact (hs5.alloc _).keep hgrow6 hk
    ·rw [e1,qF];exact hown6
   ·have:=hAH.out.1;omega
  ·obtain rfl:k=hs.length:=by omega
   obtain ⟨hok1,hlk⟩:=hA _ hkl
   have htx:=Vj hsew hrw rfl hok1.en (by have:=hok1.t;omega)
   have hT2:Hid (applyT (linesB s) fz hs=⟨((applyK T fz hs hs.length).1.t++zy (T.drop (applyK T fz hs hs.length).1.en)).toArray⟩/\applyS (linesB s) fz hs=(applyK T fz hs hs.length).2):=by rw [hTd];exact ⟨rfl,rfl⟩
   have hownh:Hid _:=hown
   clear hgk
   go_wp2_with (go_at_call 30;refine htx.mono ?_;rintro e w5 ⟨rfl,hb5,ho5⟩)
   obtain ⟨ao,co,rfl⟩:=zn hownh.out
   obtain ⟨cs1,hcs1⟩:=hsew.tag
   have hown5:=XA hownh.out hcs1 ho5
   refine bodyPost_ret (v:= .tuple #[.string (applyT (linesB s) fz hs),.slice ao hs.length co,.int .i64 0]) ?_ rfl ⟨_,rfl,?_,hbel.trans (hb5.mono (by omega))⟩
   ·rw [hT2.out.1]
    simp [results,results14,go_sem]
   ·rw [hT2.out.2];exact hown5
end Go.Proofs.YtcclgodahlinbaaGreatDoor.V
