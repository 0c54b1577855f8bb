import Derived.Test.YtcclgodahlinbaaGreatDoorA20
import Derived.Laws.IdiomStrings
import Derived.Test.YtcclgodahlinbaaGreatDoorA18
import Derived.Test.YtcclgodahlinbaaGreatDoorA19
import Derived.Test.YtcclgodahlinbaaGreatDoorA17
import Derived.Test.YtcclgodahlinbaaGreatDoorA13
namespace Go.Proofs.YtcclgodahlinbaaGreatDoor
set_option maxHeartbeats 16000000
open Tryz Go.RowKit Go
set_option maxRecDepth 100000
theorem YM (b:Nat) (hb:b<256) (wr:World):(convert 72 9 (.slice (some ⟨wr.heap.size,0,none⟩) 1 1)).run prog (wr.alloc (.cells #[.int .u8 (b:Int)] 5))= .ok (.string ⟨#[UInt8.ofNat b]⟩) (wr.alloc (.cells #[.int .u8 (b:Int)] 5)):=by
 have h:=run_convert_bytes_back (P:=prog) (wr.alloc (.cells #[.int .u8 (b:Int)] 5)) 72 9 5 ⟨wr.heap.size,0,none⟩ 1 [UInt8.ofNat b] underlying72 underlying5 underlying9 (by
  intro j hj
  obtain rfl:j=0:=by simpa using hj
  refine za (heap_alloc_new wr _) ?_
  simp
  have:b % 256=b:=by omega
  omega)
 exact h
theorem GL {wb:Nat} {x:WV} {w:World} (hk:w.heap[wb]? =some x.obj) (hc:x.c<=8000000000000):
 Calls prog 119 #[.pointer (some ⟨wb,0,none⟩)] w fun e w'=> ∃t:ByteArray,e= .returned (.string t)/\t.size<=8/\w'.heap[wb]? =some ({ x with c:=x.c+1 } :WV).obj/\(∀g,g<w.heap.size->g≠wb->w'.heap[g]? =w.heap[g]?)/\w.heap.size<=w'.heap.size/\zD w w':=by
 have hwb:wb<w.heap.size:=(Array.getElem?_eq_some_iff.1 hk).1
 have c8:w.cell? ⟨wb,8,none⟩=some (.int .i64 (x.c:Int)):=za hk rfl
 have fz: ∀k,w.frozen? ⟨wb,k,none⟩=false:=fun k=>zi hk
 have hk2:(w.setCell ⟨wb,8,none⟩ (.int .i64 ((x.c:Int)+1))).heap[wb]? =some ({ x with c:=x.c+1 } :WV).obj:=by
  rw [zb _ _ _ _ _ _ _ hk];simp [WV.obj]
 have c8':(w.setCell ⟨wb,8,none⟩ (.int .i64 ((x.c:Int)+1))).cell? ⟨wb,8,none⟩=some (.int .i64 ((x.c:Int)+1)):=za (zb _ _ _ _ _ _ _ hk) rfl
 have hb2:Hid (∀W:World,Below (w.setCell ⟨wb,8,none⟩ (.int .i64 ((x.c:Int)+1))).heap.size (w.setCell ⟨wb,8,none⟩ (.int .i64 ((x.c:Int)+1))) W->W.heap[wb]? =some ({ x with c:=x.c+1 } :WV).obj/\(∀g,g<w.heap.size->g≠wb->W.heap[g]? =w.heap[g]?)/\w.heap.size<=W.heap.size/\zD w W):=by
  intro W hb
  have hz:=hb.size
  simp at hz
  refine ⟨(hb.block wb (by simpa using hwb)).trans hk2,fun g hg hne=>(hb.block g (by simpa using hg)).trans (zd _ _ _ _ _ hne),hz,(zD.setCell w _ _).trans (zD.of_below hb)⟩
 go_enter func119,ntmps119
 go_wp2_with fail
 clear c8 fz hk2 c8'
 generalize w.setCell ⟨wb,8,none⟩ (.int .i64 ((x.c:Int)+1))=w1 at *
 go_loopg [3,4,5] 7 (fun g t3 t4 t5 wr=> ∃(k n:Nat) (t:ByteArray),g=7-k/\k<=7/\t.size<=k+1/\t3= .string t/\t4= .int .i64 n/\n<=8000000000001/\t5= .int .i64 k/\Below w1.heap.size w1 wr)
 case atStart=>exact ⟨0,x.c+1,⟨#[35]⟩,rfl,by omega,by decide,rfl,by push_cast;rfl,by omega,rfl,Below.refl _ _⟩
 case round=>
  obtain ⟨k,n,t,hgk,hk7,ht,rfl,rfl,hn,rfl,hb⟩:=hrel
  have hG:Hid (_=7-k):=hgk
  clear hgk
  have hz:=hb.size
  by_cases hk:k<7
  ·have hkI:(k:Int)<7:=by omega
   have hcv:=YM (97+n % 16) (by omega) wr
   push_cast at hcv
   have x1:IntKind.i64.wrap (97+(n:Int) % 16)=97+(n:Int) % 16:=by rw [IntKind.wrap_i64];omega
   have x2:IntKind.u8.wrap (97+(n:Int) % 16)=97+(n:Int) % 16:=by rw [IntKind.wrap_u8];omega
   have hba:=hb.alloc hz (.cells #[.int .u8 (97+(n:Int) % 16)] 5)
   go_wp2_with fail
   go_roundg (7-(k+1))
   ·exact ⟨k+1,n / 16,t++⟨#[97+UInt8.ofNat (n % 16)]⟩,rfl,by omega,by rw [ByteArray.size_append];show t.size+1<=_;omega,rfl,by push_cast;rfl,by omega,by push_cast;rfl,hba⟩
   ·have:=hG.out;omega
  ·have hkI: ¬(k:Int)<7:=by omega
   go_wp2_with fail
   go_ret
   exact ⟨t,rfl,by omega,hb2.out wr hb⟩
def spB (f c:Nat):ByteArray:=⟨(xg f c).toArray⟩
def dcB (n:Nat):ByteArray:=⟨(Lib.decDigits n).toArray⟩
theorem jO {n:Nat} (h:n<=100000):(dcB n).size<=6:=by unfold dcB;rw [xq];exact km h
theorem Vm {f c:Nat} (h1:f<=100000) (h2:c<=100000):(spB f c).size<=13:=by unfold spB;rw [xq];exact Xt h1 h2
theorem Ge (f c:Nat):spB f c=dcB f++⟨#[44]⟩++dcB c:=by
 unfold spB dcB xg
 apply ByteArray.ext
 simp [ByteArray.data_append]
theorem Wx {f c:Nat} (h1:f<=100000) (h2:c<=100000) {w:World} (hg:yr w):Calls prog 109 #[.int .i64 (f:Int),.int .i64 (c:Int)] w fun e w'=>e= .returned (.string (spB f c))/\Below w.heap.size w w':=by
 have m1:=VH h1 hg
 have m2:Hid (∀w1,Below w.heap.size w w1->Calls prog 133 #[.int .i64 (c:Int)] w1 fun e w'=>e= .returned (.string (dcB c))/\Below w1.heap.size w1 w'):=fun w1 hb=>VH h2 (hg.next hb)
 have m1':Calls prog 133 #[.int .i64 (f:Int)] w fun e w'=>e= .returned (.string (dcB f))/\Below w.heap.size w w':=m1
 have z1:=jO h1
 have z2:=jO h2
 rw [Ge]
 generalize dcB f=s1 at *
 generalize dcB c=s2 at *
 clear m1
 go_enter func109,ntmps109
 go_wp2_with fail
 refine m1'.mono ?_
 rintro e w1 ⟨rfl,hb1⟩
 have m3:=m2.out w1 hb1
 go_wp2_with (go_at_call 133;refine m3.mono ?_;rintro e w2 ⟨rfl,hb2⟩)
 go_ret
 exact ⟨rfl,hb1.trans (hb2.mono hb1.size)⟩
theorem VU (args:Array Value) (w:World):(callFunc 109 args).run prog w= .ok (.enter 109 args) w:=enters_of func109 (by kernel_rfl) rfl args w
theorem kc (args:Array Value) (w:World):(callFunc 122 args).run prog w= .ok (.enter 122 args) w:=enters_of func122 (by kernel_rfl) rfl args w
structure Tw (h:HI) (a b c d:Nat):Prop where
 e1:h.fr=a
 e2:h.fc=b
 e3:h.tr=c
 e4:h.tc=d
 l1:a<=100000
 l2:b<=100000
 l3:c<=100000
 l4:d<=100000
theorem YL {h:HI} (h1:numOk h.fr h.fc=true) (h2:numOk h.tr h.tc=true): ∃a b c d,Tw h a b c d:=by
 rw [zH] at h1 h2
 exact ⟨h.fr.toNat,h.fc.toNat,h.tr.toNat,h.tc.toNat,by omega,by omega,by omega,by omega,by omega,by omega,by omega,by omega⟩
def headB (a b c d:Nat):ByteArray:=⟨(yv a b c d).toArray⟩
theorem QY {a b c d:Nat} (h1:a<=100000) (h2:b<=100000) (h3:c<=100000) (h4:d<=100000):(headB a b c d).size<=35:=by unfold headB;rw [xq];exact Xb h1 h2 h3 h4
theorem WQ (a b c d:Nat):headB a b c d=⟨#[64,64,32,45]⟩++spB a b++⟨#[32,43]⟩++spB c d++⟨#[32,64,64]⟩:=by
 unfold headB spB yv
 apply ByteArray.ext
 simp [ByteArray.data_append]
theorem EL (a b c d:Nat):headB a b c d=⟨#[64,64,32,45]⟩++dcB a++⟨#[44]⟩++dcB b++⟨#[32,43]⟩++dcB c++⟨#[44]⟩++dcB d++⟨#[32,64,64]⟩:=by
 rw [WQ,Ge,Ge]
 simp [ByteArray.append_assoc]
theorem UH {a b c d:Nat} (l1:a<=100000) (l2:b<=100000) (l3:c<=100000) (l4:d<=100000) (v:Value) {w:World} (hg:yr w):
 Calls prog 72 #[.agg #[.int .i64 (a:Int),.int .i64 (b:Int),.int .i64 (c:Int),.int .i64 (d:Int),v]] w fun e w'=>e= .returned (.string (headB a b c d++⟨#[10]⟩))/\Below w.heap.size w w':=by
 have hB:=heap_alloc_new w (.cells #[.int .i64 (a:Int),.int .i64 (b:Int),.int .i64 (c:Int),.int .i64 (d:Int),v] 61)
 have b0:=(Below.refl w.heap.size w).alloc (Nat.le_refl _) (.cells #[.int .i64 (a:Int),.int .i64 (b:Int),.int .i64 (c:Int),.int .i64 (d:Int),v] 61)
 have hz:(w.alloc (.cells #[.int .i64 (a:Int),.int .i64 (b:Int),.int .i64 (c:Int),.int .i64 (d:Int),v] 61)).heap.size=w.heap.size+1:=by simp
 have z1:=Vm l1 l2
 have z2:=Vm l3 l4
 rw [WQ]
 have s1:Hid (∀w1,Below w.heap.size w w1->Calls prog 109 #[.int .i64 (a:Int),.int .i64 (b:Int)] w1 fun e w'=> ∃v,e= .returned v/\(v= .string (spB a b)/\Below w1.heap.size w1 w')):=fun w1 hb=>(Wx l1 l2 (hg.next hb)).mono fun e w' h=>⟨_,h.1,rfl,h.2⟩
 have s2:Hid (∀w1,Below w.heap.size w w1->Calls prog 109 #[.int .i64 (c:Int),.int .i64 (d:Int)] w1 fun e w'=> ∃v,e= .returned v/\(v= .string (spB c d)/\Below w1.heap.size w1 w')):=fun w1 hb=>(Wx l3 l4 (hg.next hb)).mono fun e w' h=>⟨_,h.1,rfl,h.2⟩
 generalize spB a b=p1 at *
 generalize spB c d=p2 at *
 obtain ⟨S,hS⟩: ∃S:ByteArray,⟨#[64,64,32,45]⟩++p1++⟨#[32,43]⟩++p2++⟨#[32,64,64]⟩++⟨#[10]⟩=S:=⟨_,rfl⟩
 rw [hS]
 have hSH:Hid (⟨#[64,64,32,45]⟩++p1++⟨#[32,43]⟩++p2++⟨#[32,64,64]⟩++⟨#[10]⟩=S):=hS
 clear hS
 have q1: ¬9223372036854775807<4+p1.size:=by omega
 have q2: ¬9223372036854775807<4+p1.size+2:=by omega
 have q3: ¬9223372036854775807<4+p1.size+2+p2.size:=by omega
 have q4: ¬9223372036854775807<4+p1.size+2+p2.size+3:=by omega
 have q5: ¬9223372036854775807<4+p1.size+2+p2.size+3+1:=by omega
 go_enter func72,ntmps72
 go_wp2_with fail
 generalize w.alloc (.cells #[.int .i64 (a:Int),.int .i64 (b:Int),.int .i64 (c:Int),.int .i64 (d:Int),v] 61)=W at *
 have hW:Below w.heap.size w W.drew:=b0.drew
 have hI0:W.drew.heap[w.heap.size]? =some (.cells #[.int .i64 (a:Int),.int .i64 (b:Int),.int .i64 (c:Int),.int .i64 (d:Int),v] 61 (0,0)):=hB
 refine wp_region_any yg (yS.any (I:=fun w'=>w'.heap[w.heap.size]? =some (.cells #[.int .i64 (a:Int),.int .i64 (b:Int),.int .i64 (c:Int),.int .i64 (d:Int),v] 61 (0,0))) ?_)
 refine zp (i:=0) (n:=15) (v:= .pointer (some ⟨w.heap.size,0,none⟩)) rfl (by kernel_rfl) (fun c a w h=>h) ⟨by simp [Region.wanted],fun w' hw=> ?_⟩ ?_
 ·simp [execOp,go_sem,Act.eval]
 refine zp (i:=1) (n:=14) (v:= .int .i64 (a:Int)) rfl (by kernel_rfl) (fun c a w h=>h) ⟨by simp [Region.wanted],fun w' hw=> ?_⟩ ?_
 ·have hc:w'.cell? ⟨w.heap.size,0,none⟩=some (.int .i64 (a:Int)):=za (k:=0) hw rfl;simp [execOp,go_sem,Act.eval,Act.put,hc]
 refine zp (i:=2) (n:=13) (v:= .pointer (some ⟨w.heap.size,1,none⟩)) rfl (by kernel_rfl) (fun c a w h=>h) ⟨by simp [Region.wanted],fun w' hw=> ?_⟩ ?_
 ·simp [execOp,go_sem,Act.eval,Act.put]
 refine zp (i:=3) (n:=12) (v:= .int .i64 (b:Int)) rfl (by kernel_rfl) (fun c a w h=>h) ⟨by simp [Region.wanted],fun w' hw=> ?_⟩ ?_
 ·have hc:w'.cell? ⟨w.heap.size,1,none⟩=some (.int .i64 (b:Int)):=za (k:=1) hw rfl;simp [execOp,go_sem,Act.eval,Act.put,hc]
 refine zp (i:=7) (n:=11) (v:= .pointer (some ⟨w.heap.size,2,none⟩)) rfl (by kernel_rfl) (fun c a w h=>h) ⟨by simp [Region.wanted],fun w' hw=> ?_⟩ ?_
 ·simp [execOp,go_sem,Act.eval,Act.put]
 refine zp (i:=8) (n:=10) (v:= .int .i64 (c:Int)) rfl (by kernel_rfl) (fun c a w h=>h) ⟨by simp [Region.wanted],fun w' hw=> ?_⟩ ?_
 ·have hc:w'.cell? ⟨w.heap.size,2,none⟩=some (.int .i64 (c:Int)):=za (k:=2) hw rfl;simp [execOp,go_sem,Act.eval,Act.put,hc]
 refine zp (i:=9) (n:=9) (v:= .pointer (some ⟨w.heap.size,3,none⟩)) rfl (by kernel_rfl) (fun c a w h=>h) ⟨by simp [Region.wanted],fun w' hw=> ?_⟩ ?_
 ·simp [execOp,go_sem,Act.eval,Act.put]
 refine zp (i:=10) (n:=8) (v:= .int .i64 (d:Int)) rfl (by kernel_rfl) (fun c a w h=>h) ⟨by simp [Region.wanted],fun w' hw=> ?_⟩ ?_
 ·have hc:w'.cell? ⟨w.heap.size,3,none⟩=some (.int .i64 (d:Int)):=za (k:=3) hw rfl;simp [execOp,go_sem,Act.eval,Act.put,hc]
 refine yy (i:=4) (n:=7) hI0 (by kernel_rfl) ?_
 refine xK rfl rfl 109 _ _ rfl #[.int .i64 (a:Int),.int .i64 (b:Int)] (by simp [Act.eval,Act.put]) (VU _ _) (fun v w'=>v= .string p1/\Below W.drew.heap.size W.drew w') (s1.out _ hW) ?_
 rintro v1 w1 ⟨rfl,hb1⟩
 have hz1:=hb1.size
 have hI1:=(hb1.block w.heap.size (by show w.heap.size<W.heap.size;omega)).trans hI0
 have hW1:=hW.trans (hb1.mono hW.size)
 refine zp (i:=5) (n:=6) (v:= .string (⟨#[64,64,32,45]⟩++p1)) rfl (by kernel_rfl) (fun c a w h=>h) ⟨by simp [Region.wanted],fun w' hw=> ?_⟩ ?_
 ·have k1: ¬9223372036854775807<4+p1.size:=q1;simp [execOp,go_sem,Act.eval,Act.put,k1]
 refine zp (i:=6) (n:=5) (v:= .string (⟨#[64,64,32,45]⟩++p1++⟨#[32,43]⟩)) rfl (by kernel_rfl) (fun c a w h=>h) ⟨by simp [Region.wanted],fun w' hw=> ?_⟩ ?_
 ·have k1: ¬9223372036854775807<4+p1.size+2:=q2;simp [execOp,go_sem,Act.eval,Act.put,k1]
 refine yy (i:=11) (n:=4) hI1 (by kernel_rfl) ?_
 refine xK rfl rfl 109 _ _ rfl #[.int .i64 (c:Int),.int .i64 (d:Int)] (by simp [Act.eval,Act.put]) (VU _ _) (fun v w'=>v= .string p2/\Below w1.heap.size w1 w') (s2.out _ hW1) ?_
 rintro v2 w2 ⟨rfl,hb2⟩
 have hI2:=(hb2.block w.heap.size (by have:W.drew.heap.size=W.heap.size:=rfl;omega)).trans hI1
 have hW2:=hW1.trans (hb2.mono hW1.size)
 refine zp (i:=12) (n:=3) (v:= .string (⟨#[64,64,32,45]⟩++p1++⟨#[32,43]⟩++p2)) rfl (by kernel_rfl) (fun c a w h=>h) ⟨by simp [Region.wanted],fun w' hw=> ?_⟩ ?_
 ·have k1: ¬9223372036854775807<4+p1.size+2+p2.size:=q3;simp [execOp,go_sem,Act.eval,Act.put,k1]
 refine zp (i:=13) (n:=2) (v:= .string (⟨#[64,64,32,45]⟩++p1++⟨#[32,43]⟩++p2++⟨#[32,64,64]⟩)) rfl (by kernel_rfl) (fun c a w h=>h) ⟨by simp [Region.wanted],fun w' hw=> ?_⟩ ?_
 ·have k1: ¬9223372036854775807<4+p1.size+2+p2.size+3:=q4;simp [execOp,go_sem,Act.eval,Act.put,k1]
 refine zp (i:=14) (n:=1) (v:= .string S) rfl (by kernel_rfl) (fun c a w h=>h) ⟨by simp [Region.wanted],fun w' hw=> ?_⟩ ?_
 ·have k1: ¬9223372036854775807<4+p1.size+2+p2.size+3+1:=q5;have k2:⟨#[64,64,32,45]⟩++p1++⟨#[32,43]⟩++p2++⟨#[32,64,64]⟩++⟨#[10]⟩=S:=hSH.out;simp [execOp,go_sem,Act.eval,Act.put,k1,k2]
 refine zp (i:=15) (n:=0) (v:= .string S) rfl (by kernel_rfl) (fun c a w h=>h) ⟨by simp [Region.wanted],fun w' hw=> ?_⟩ ?_
 ·simp [execOp,go_sem,Act.eval,Act.put]
 refine qi hI2 (by kernel_rfl) ?_
 go_wp2_with fail
 refine bodyPost_ret (v:= .string S) ?_ rfl ⟨rfl,hW2⟩
 simp [results,results72,go_sem,Act.put]
def ZX (s:zk):List UInt8:=UInt8.ofNat s.kind::(s.text.data.toList++ [10])
def linesL (L:List zk):List UInt8:=L.flatMap ZX
def VP (h:HI):List UInt8:=yv h.fr.toNat h.fc.toNat h.tr.toNat h.tc.toNat
def QT (h:HI):List UInt8:=VP h++ [10]++linesL h.lines
def writeI (hs:List HI):List UInt8:=hs.flatMap QT
theorem kL {L:List zk} {k:Nat} (h:k<L.length):linesL (L.take (k+1))=linesL (L.take k)++ZX L[k]:=by
 unfold linesL
 rw [List.take_succ_eq_append_getElem h,List.flatMap_append]
 simp
theorem jx {hs:List HI} {k:Nat} (h:k<hs.length):writeI (hs.take (k+1))=writeI (hs.take k)++QT hs[k]:=by
 unfold writeI
 rw [List.take_succ_eq_append_getElem h,List.flatMap_append]
 simp
theorem Xi (L:List zk) (k:Nat):(linesL (L.take k)).length<=(linesL L).length:=by
 conv=>rhs;rw [<-List.take_append_drop k L]
 unfold linesL
 rw [List.flatMap_append,List.length_append]
 omega
theorem JI (hs:List HI) (k:Nat):(writeI (hs.take k)).length<=(writeI hs).length:=by
 conv=>rhs;rw [<-List.take_append_drop k hs]
 unfold writeI
 rw [List.flatMap_append,List.length_append]
 omega
theorem Zk (s:zk):(ZX s).length=s.text.size+2:=by
 unfold ZX
 rw [List.length_cons,List.length_append]
 show s.text.size+1+1=_
 omega
theorem xL: ∀ {hs:List HI} {en gr:Int},zQ en gr hs=true-> ∀h∈hs,numOk h.fr h.fc=true/\numOk h.tr h.tc=true/\yw h=true
 | [],_,_,_,h,hh=>by simp at hh
 | x::l,en,gr,hr,h,hh=>by
   rw [zQ] at hr
   simp only [Bool.and_eq_true] at hr
   obtain ⟨⟨h1,h2⟩,h3⟩:=hr
   rcases List.mem_cons.1 hh with e | e
   ·subst e
    obtain ⟨n1,n2,_⟩:=qj.1 h1
    exact ⟨n1,n2,h2⟩
   ·exact xL h3 h e
def KX (hs:List HI):Prop:= ∀h∈hs,numOk h.fr h.fc=true/\numOk h.tr h.tc=true
theorem Zu {h:HI} {a b c d:Nat} (n:Tw h a b c d):VP h=yv a b c d:=by
 unfold VP
 rw [n.e1,n.e2,n.e3,n.e4]
 rfl
theorem Vw {hs:List HI} {a:Option Addr} {cap:Nat} {w:World} (hH:yH w.heap.size w (.slice a hs.length cap) hs) (hL:Lim hs) (hN:KX hs) (hg:yr w):
 Calls prog 33 #[.agg #[.slice a hs.length cap]] w fun e w'=>(∃t:ByteArray,e= .returned (.tuple #[.string t,.bool (decide ((writeI hs).length<=20000))])/\((writeI hs).length<=20000->t=⟨(writeI hs).toArray⟩))/\Below w.heap.size w w':=by
 obtain ⟨hL1,hL2⟩:=hL
 have hb:=((Below.refl w.heap.size w).alloc (Nat.le_refl _) (.cells #[.slice a hs.length cap] 32)).alloc (by simp) (.cells #[.pointer none,.slice none 0 0] 74)
 have hU:=heap_alloc_new (w.alloc (.cells #[.slice a hs.length cap] 32)) (.cells #[.pointer none,.slice none 0 0] 74)
 rw [World.size_alloc] at hU
 have hB0: ∃ad vb,xT (w.heap.size+1) ad vb (Lib.byteCells (writeI (hs.take 0))) ((w.alloc (.cells #[.slice a hs.length cap] 32)).alloc (.cells #[.pointer none,.slice none 0 0] 74)):=⟨_,_,⟨hU,.inl rfl,World.ownsRow_nil _ _ _ _⟩⟩
 go_enter func33,ntmps33
 go_wp2_with fail
 generalize (w.alloc (.cells #[.slice a hs.length cap] 32)).alloc (.cells #[.pointer none,.slice none 0 0] 74)=W at *
 go_loopg [12] hs.length (fun g t wr=> ∃k:Nat,g=hs.length-k/\k<=hs.length/\t= .int .i64 k/\(∃ad vb,xT (w.heap.size+1) ad vb (Lib.byteCells (writeI (hs.take k))) wr)/\(writeI (hs.take k)).length<=20002+40*k/\Below w.heap.size w wr)
 case atStart=>exact ⟨0,by omega,by omega,rfl,hB0,by simp [writeI],hb⟩
 case round=>
  obtain ⟨k,hgk,hkl,rfl,⟨ad,vb,hbm⟩,hT0,hbel⟩:=hrel
  have hG:Hid (gk=hs.length-k):=hgk
  clear hgk hB0 hU hb
  have hlt:=hbm.lt
  have hgr:=hg.below hbel hg.sz hbel.size
  by_cases hk:k<hs.length
  ·have hkI:(k:Int)<hs.length:=by omega
   obtain ⟨b,off,a',c',rfl,hbB,r0,r1,r2,r3,r4,hst⟩:=(hH.below hbel).at hk
   obtain ⟨l1, -, -, -, -,l2⟩:=hL2 _ (List.getElem_mem hk)
   obtain ⟨n1,n2⟩:=hN _ (List.getElem_mem hk)
   obtain ⟨A,B,C,D,hnn⟩:=YL n1 n2
   have hwt:Hid (writeI (hs.take (k+1))=writeI (hs.take k)++(yv A B C D++ [10])++linesL hs[k].lines):=by
    show _=_
    rw [jx hk]
    unfold QT
    rw [Zu hnn]
    simp
   have hwl:Hid ((writeI (hs.take (k+1))).length<=(writeI hs).length):=JI hs (k+1)
   generalize hs[k]=h at *
   rw [hnn.e1] at r0
   rw [hnn.e2] at r1
   rw [hnn.e3] at r2
   rw [hnn.e4] at r3
   have hhl:=Xb hnn.l1 hnn.l2 hnn.l3 hnn.l4
   generalize writeI (hs.take k)=T at *
   have hob:Hid (∀ob:Obj,Below wr.heap.size wr (wr.alloc ob)):=fun ob=>(Below.refl _ _).alloc (Nat.le_refl _) ob
   have hh1:=UH hnn.l1 hnn.l2 hnn.l3 hnn.l4 (.slice a' h.lines.length c') (hgr.next (hob.out (.cells #[.int .i64 (A:Int),.int .i64 (B:Int),.int .i64 (C:Int),.int .i64 (D:Int),.slice a' h.lines.length c'] 61)))
   have hB1:=heap_alloc_new wr (.cells #[.int .i64 (A:Int),.int .i64 (B:Int),.int .i64 (C:Int),.int .i64 (D:Int),.slice a' h.lines.length c'] 61)
   have hbm1:=hbm.alloc (.cells #[.int .i64 (A:Int),.int .i64 (B:Int),.int .i64 (C:Int),.int .i64 (D:Int),.slice a' h.lines.length c'] 61)
   have hz1:(wr.alloc (.cells #[.int .i64 (A:Int),.int .i64 (B:Int),.int .i64 (C:Int),.int .i64 (D:Int),.slice a' h.lines.length c'] 61)).heap.size=wr.heap.size+1:=by simp
   have hbel1:=hbel.alloc (by have:=hbel.size;omega) (.cells #[.int .i64 (A:Int),.int .i64 (B:Int),.int .i64 (C:Int),.int .i64 (D:Int),.slice a' h.lines.length c'] 61)
   have hsz:=hbel.size
   have hbr1:=(Below.refl w.heap.size wr).alloc (by omega) (.cells #[.int .i64 (A:Int),.int .i64 (B:Int),.int .i64 (C:Int),.int .i64 (D:Int),.slice a' h.lines.length c'] 61)
   have y0:=za (k:=0) hB1 rfl
   have y1:=za (k:=1) hB1 rfl
   have y2:=za (k:=2) hB1 rfl
   have y3:=za (k:=3) hB1 rfl
   have y4:=za (k:=4) hB1 rfl
   clear hob n1 n2
   go_wp2_with fail
   generalize wr.alloc (.cells #[.int .i64 (A:Int),.int .i64 (B:Int),.int .i64 (C:Int),.int .i64 (D:Int),.slice a' h.lines.length c'] 61)=W1 at *
   refine hh1.mono ?_
   rintro e W2 ⟨rfl,hb2⟩
   have hbm2:=hbm1.below hb2
   have hB2:=(hb2.block wr.heap.size (by omega)).trans hB1
   have hs0l:Hid (headB A B C D++⟨#[10]⟩=⟨(yv A B C D++ [10]).toArray⟩):=by
    show _=_
    unfold headB
    apply ByteArray.ext
    simp [ByteArray.data_append]
   have hs0z:(headB A B C D++⟨#[10]⟩).size<=36:=by rw [hs0l.out,xq];simp;omega
   have hws:=qU (headB A B C D++⟨#[10]⟩) hbm2 (by rw [Lib.byteCells_length];omega)
   have hbel2:=hbel1.trans (hb2.mono (by omega))
   have hcat:Hid (Lib.byteCells T++Lib.strCells (headB A B C D++⟨#[10]⟩)=Lib.byteCells (T++(yv A B C D++ [10])++linesL (h.lines.take 0))):=by
    unfold Hid
    rw [hs0l.out,Lib.strCells_eq]
    simp [Lib.byteCells_append,linesL]
   generalize headB A B C D++⟨#[10]⟩=s0 at *
   clear y0 y1 y2 y3 y4 hh1 hbm1 hB1
   go_wp2_with fail
   refine hws.mono ?_
   rintro e W3 ⟨rfl,vb3,hbm3,hb3,hk3⟩
   rw [hcat.out] at hbm3
   have hB3:=hk3 _ _ hB2 (by intro e;have:=Option.some.inj e;omega) (by intro c z e;injection e with _ e;exact absurd e (by decide))
   have y4:=za (k:=4) hB3 rfl
   have hbel3:=hbel2.trans (hb3.mono (by omega))
   have hst3:yk w.heap.size W3 (.slice a' h.lines.length c') h.lines:=hst.below ((hbr1.trans (hb2.mono (by omega))).trans (hb3.mono (by omega)))
   have hT2:(T++(yv A B C D++ [10])).length<=20002+40*(k+1):=by simp only [List.length_append,List.length_cons,List.length_nil];omega
   clear hws hcat hbm2 hbm hB2 hB3 hbr1 hst hbel1 hbel2 hk3 hs0l hs0z hhl hnn r0 r1 r2 r3 r4
   generalize T++(yv A B C D++ [10])=T2 at *
   have hM1:h.lines.length<=1048576:=l1
   generalize h.lines=M at *
   have hT20:(T2++linesL (M.take 0)).length<=20002+40*(k+1):=by simp [linesL];exact hT2
   go_wp2_with fail
   go_loopg [22] M.length (fun g t wi=> ∃j:Nat,g=M.length-j/\j<=M.length/\t= .int .i64 j/\(∃ad vb,xT (w.heap.size+1) ad vb (Lib.byteCells (T2++linesL (M.take j))) wi)/\(T2++linesL (M.take j)).length<=20002+40*(k+1)/\Below w.heap.size W3 wi)
   case atStart=>exact ⟨0,by omega,by omega,rfl,⟨_,_,hbm3⟩,hT20,Below.refl _ _⟩
   case round=>
    rename World=>wi
    obtain ⟨j,hgj,hjl,rfl,⟨ad',vb',hbi⟩,hTj,hbe⟩:=hrel
    have hGj:Hid (_=M.length-j):=hgj
    clear hgj hbm3 hT20
    have hlti:=hbi.lt
    have hszi:=(hbel3.trans hbe).size
    by_cases hj:j<M.length
    ·have hjI:(j:Int)<M.length:=by omega
     obtain ⟨b2,off2,rfl,hb2',s0',s1'⟩:=(hst3.below hbe).at hj
     obtain ⟨hkd,htz⟩:=l2 _ (List.getElem_mem hj)
     have hJ:Hid (linesL (M.take (j+1))=linesL (M.take j)++ZX M[j]):=kL hj
     have hJl:Hid ((linesL (M.take (j+1))).length<=(linesL M).length):=Xi M (j+1)
     have hJs:Hid ((ZX M[j]).length=M[j].text.size+2):=Zk _
     have hJe:Hid (ZX M[j]=UInt8.ofNat M[j].kind::(M[j].text.data.toList++ [10])):=rfl
     generalize M[j]=sx at *
     have hbig:Hid (20000<(T2++linesL (M.take j)).length+sx.text.size-> ¬(writeI hs).length<=20000):=by
      intro hlt2 hle
      have h1:=hwl.out
      rw [hwt.out,List.length_append] at h1
      have h2:=hJl.out
      rw [hJ.out,List.length_append,hJs.out] at h2
      rw [List.length_append] at hlt2
      omega
     have hnew:Hid ((T2++linesL (M.take (j+1))).length=(T2++linesL (M.take j)).length+sx.text.size+2):=by
      show _=_
      rw [hJ.out,<-List.append_assoc,List.length_append,hJs.out]
      omega
     generalize linesL (M.take j)=T3 at *
     have hbl:(Lib.byteCells (T2++T3)).length=(T2++T3).length:=Lib.byteCells_length _
     have hbi1:=hbi.alloc (.cells #[.int .u8 (sx.kind:Int),.string sx.text] 93)
     have hBl:=heap_alloc_new wi (.cells #[.int .u8 (sx.kind:Int),.string sx.text] 93)
     have hzl:(wi.alloc (.cells #[.int .u8 (sx.kind:Int),.string sx.text] 93)).heap.size=wi.heap.size+1:=by simp
     have hbe1:=hbe.alloc (by omega) (.cells #[.int .u8 (sx.kind:Int),.string sx.text] 93)
     go_wp2_with fail
     generalize wi.alloc (.cells #[.int .u8 (sx.kind:Int),.string sx.text] 93)=V1 at *
     have hpL:Hid (∀n,Calls prog 73 #[.pointer (some ⟨w.heap.size+1,0,none⟩)] (V1.drewN n) fun e w''=>e= .returned (.int .i64 ((T2++T3).length:Int))/\ ∃k,w''=V1.drewN k):=
      fun n=>(Po (Kd hbi1)).mono fun _ _ ⟨he,hm⟩=>⟨by rw [he,hbl],n,hm.symm⟩
     have z0:=za (k:=0) hBl rfl
     have z1:=za (k:=1) hBl rfl
     generalize hTT:T2++T3=T4 at *
     have hwr:IntKind.i64.wrap ((T4.length:Int)+(sx.text.size:Int))=(T4.length:Int)+(sx.text.size:Int):=by rw [IntKind.wrap_i64];omega
     by_cases hbg:20000<T4.length+sx.text.size
     ·have hng2:decide ((20000:Int)<(T4.length:Int)+(sx.text.size:Int))=true:=decide_eq_true (by omega)
      have hout:Hid (¬(writeI hs).length<=20000):=hbig.out hbg
      go_quiet ((go_at_call 73;exact hpL.out _))
      go_wp2_with fail
      go_ret2
      refine ⟨⟨⟨#[]⟩,?_,fun h=>absurd h hout.out⟩,hbel3.trans (Below.drewN' hbe1)⟩
      rw [decide_eq_false hout.out]
      rfl
     ·have hng: ¬(20000:Int)<(T4.length:Int)+(sx.text.size:Int):=by omega
      have hng2:decide ((20000:Int)<(T4.length:Int)+(sx.text.size:Int))=false:=decide_eq_false hng
      go_quiet ((go_at_call 73;exact hpL.out _))
      have hWB1:=ZH (sx.kind:Int) (Kd (n:=nq) hbi1) (by rw [hbl];omega)
      have hne1:some wi.heap.size≠some (w.heap.size+1):=by intro e;have:=Option.some.inj e;omega
      have hfin:Hid (Lib.byteCells (T2++linesL (M.take (j+1)))=Lib.byteCells T4++ [.int .u8 (sx.kind:Int)]++Lib.strCells sx.text++ [.int .u8 10]):=by
       unfold Hid
       rw [hJ.out,hJe.out,<-hTT,Lib.strCells_eq,<-QN _ _ hkd,<-Lib.byteCells_append]
       have: [Value.int .u8 10]=Lib.byteCells [10]:=rfl
       rw [this,<-Lib.byteCells_append]
       congr 1
       simp
      have hbe2:Below w.heap.size W3 (V1.drewN nq):=Below.drewN' hbe1
      go_wp2_with (first | (go_at_call 74;refine hWB1.mono ?_;clear hWB1;rintro e V2 ⟨rfl,vb2,m2,c2,k2⟩;have hBl2:=k2 _ _ (show (V1.drewN nq).heap[wi.heap.size]? =_ from hBl) hne1 (by intro c z e;injection e with _ e;exact absurd e (by decide));have z1':=za (k:=1) hBl2 rfl;have hWS:=qU sx.text m2 (by rw [List.length_append,hbl];simp;omega)) | (go_at_call 71;refine hWS.mono ?_;clear hWS;rintro e V3 ⟨rfl,vb3',m3,c3,k3⟩;have hWB2:=ZH 10 m3 (by rw [List.length_append,List.length_append,hbl,Lib.strCells_length];simp;omega)) | (go_at_call 74;refine hWB2.mono ?_;rintro e V4 ⟨rfl,vb4,m4,c4,k4⟩))
      go_roundg (M.length-(j+1))
      ·exact ⟨j+1,rfl,by omega,by push_cast;rfl,⟨_,_,by rw [hfin.out];exact m4⟩,by rw [hnew.out];omega,((hbe2.trans (c2.mono (by omega))).trans (c3.mono (by omega))).trans (c4.mono (by omega))⟩
      ·have:=hGj.out;omega
    ·obtain rfl:j=M.length:=by omega
     rw [List.take_length] at hbi hTj
     go_wp2_with fail
     go_roundg (hs.length-(k+1))
     ·exact ⟨k+1,rfl,by omega,by push_cast;rfl,⟨_,_,by rw [hwt.out];exact hbi⟩,by rw [hwt.out];exact hTj,hbel3.trans hbe⟩
     ·have:=hG.out;omega
  ·obtain rfl:k=hs.length:=by omega
   rw [List.take_length] at hbm hT0
   have hbl:(Lib.byteCells (writeI hs)).length=(writeI hs).length:=Lib.byteCells_length _
   have hstr:=KQ ⟨ad,vb,hbm⟩
   generalize hTX:writeI hs=T at *
   have hTH:Hid (writeI hs=T):=hTX
   clear hTX
   have hle2:decide (((T.length:Nat):Int)<=20000)=decide (T.length<=20000):=by rw [decide_eq_decide];omega
   have hleH:Hid _:=hle2
   clear hle2
   have hLn:Hid (∀w',Below (w.heap.size+1+1) wr w'->Calls prog 73 #[.pointer (some ⟨w.heap.size+1,0,none⟩)] w' fun e w''=>e= .returned (.int .i64 (T.length:Int))/\w'=w''):=by
    intro w' hb'
    have c2:w'.cell? ⟨w.heap.size+1,1,none⟩=some vb:=(hb'.cell (p:=⟨w.heap.size+1,1,none⟩) (by show w.heap.size+1<_;omega)).trans (za hbm.blk rfl)
    have hn:=hbl
    obtain ⟨ab0,cb0,rfl⟩:=zn hbm.own
    rw [hn] at c2
    go_enter func73,ntmps73
    go_wp2
    go_ret
    exact ⟨rfl,rfl⟩
   go_wp2_with (first | (go_at_call 67;refine hstr.mono ?_;rintro e w' ⟨rfl,hb'⟩;have hLn2:=hLn.out _ hb') | (go_at_call 73;refine hLn2.mono ?_;rintro e w'' ⟨rfl,rfl⟩))
   go_ret2
   refine ⟨⟨⟨T.toArray⟩,?_,fun _=>by rw [hTH.out]⟩,hbel.trans (hb'.mono (by omega))⟩
   rw [hTH.out,<-hleH.out]
   first | rfl | simp
def writeA (hs:List HI):ByteArray×Int:=if zQ 0 0 hs=true then (if (writeI hs).length<=20000 then (⟨(writeI hs).toArray⟩,0) else (⟨#[]⟩,1)) else (⟨#[]⟩,4)
theorem Et {hs:List HI} {a:Option Addr} {cap:Nat} {w:World} (hH:yH w.heap.size w (.slice a hs.length cap) hs) (hL:Lim hs) (hg:yr w):
 Calls prog 16 #[.agg #[.slice a hs.length cap]] w fun e w'=>e= .returned (.tuple #[.string (writeA hs).1,.int .i64 (writeA hs).2])/\Below w.heap.size w w':=by
 have hb0:=(Below.refl w.heap.size w).alloc (Nat.le_refl _) (.cells #[.slice a hs.length cap] 32)
 have hB0:=heap_alloc_new w (.cells #[.slice a hs.length cap] 32)
 have hz0:(w.alloc (.cells #[.slice a hs.length cap] 32)).heap.size=w.heap.size+1:=by simp
 have y0:=za (k:=0) hB0 rfl
 have hir:=js ((hH.below hb0).mono (by omega:w.heap.size<=(w.alloc (.cells #[.slice a hs.length cap] 32)).heap.size)) hL
 cases hr:zQ 0 0 hs with
 | false=>
   have hA:writeA hs=(⟨#[]⟩,4):=by unfold writeA;rw [hr];rfl
   rw [hA]
   rw [hr] at hir
   clear hA hr
   go_enter func16,ntmps16
   go_wp2_with fail
   generalize w.alloc (.cells #[.slice a hs.length cap] 32)=W0 at *
   refine hir.mono ?_
   rintro e w1 ⟨rfl,hb1⟩
   go_wp2_with fail
   go_ret2
   exact ⟨rfl,hb0.trans (hb1.mono (by omega))⟩
 | true=>
   have hN:KX hs:=fun h hh=>⟨(xL hr h hh).1,(xL hr h hh).2.1⟩
   have hA:writeA hs=(if (writeI hs).length<=20000 then (⟨(writeI hs).toArray⟩,0) else (⟨#[]⟩,1)):=by unfold writeA;rw [hr];rfl
   rw [hA]
   rw [hr] at hir
   have hwr:Hid (∀w1,Below (w.alloc (.cells #[.slice a hs.length cap] 32)).heap.size (w.alloc (.cells #[.slice a hs.length cap] 32)) w1->w1.cell? ⟨w.heap.size,0,none⟩=some (.slice a hs.length cap)/\Calls prog 33 #[.agg #[.slice a hs.length cap]] w1 fun e w'=>(∃t:ByteArray,e= .returned (.tuple #[.string t,.bool (decide ((writeI hs).length<=20000))])/\((writeI hs).length<=20000->t=⟨(writeI hs).toArray⟩))/\Below w1.heap.size w1 w'):=by
    intro w1 hb1
    have hb01:=hb0.trans (hb1.mono (by omega))
    exact ⟨(hb1.cell (p:=⟨w.heap.size,0,none⟩) (by show w.heap.size<_;omega)).trans y0,Vw ((hH.below hb01).mono hb01.size) hL hN (hg.next hb01)⟩
   clear hA hr
   by_cases hl:(writeI hs).length<=20000
   ·rw [if_pos hl]
    rw [decide_eq_true hl] at hwr
    have hlH:Hid ((writeI hs).length<=20000):=hl
    clear hl
    go_enter func16,ntmps16
    go_wp2_with fail
    generalize w.alloc (.cells #[.slice a hs.length cap] 32)=W0 at *
    refine hir.mono ?_
    rintro e w1 ⟨rfl,hb1⟩
    obtain ⟨y1,hw1⟩:=hwr.out w1 hb1
    go_wp2_with fail
    refine hw1.mono ?_
    rintro e w2 ⟨⟨t,rfl,ht⟩,hb2⟩
    have htH:Hid (t=⟨(writeI hs).toArray⟩):=ht hlH.out
    clear ht
    go_wp2_with fail
    go_ret2
    exact ⟨by rw [<-htH.out]<;>rfl,(hb0.trans (hb1.mono (by omega))).trans (hb2.mono (by have:=hb1.size;omega))⟩
   ·rw [if_neg hl]
    rw [decide_eq_false hl] at hwr
    clear hl
    go_enter func16,ntmps16
    go_wp2_with fail
    generalize w.alloc (.cells #[.slice a hs.length cap] 32)=W0 at *
    refine hir.mono ?_
    rintro e w1 ⟨rfl,hb1⟩
    obtain ⟨y1,hw1⟩:=hwr.out w1 hb1
    go_wp2_with fail
    refine hw1.mono ?_
    rintro e w2 ⟨⟨t,rfl,ht⟩,hb2⟩
    clear ht
    go_wp2_with fail
    go_ret2
    exact ⟨rfl,(hb0.trans (hb1.mono (by omega))).trans (hb2.mono (by have:=hb1.size;omega))⟩
end Go.Proofs.YtcclgodahlinbaaGreatDoor
