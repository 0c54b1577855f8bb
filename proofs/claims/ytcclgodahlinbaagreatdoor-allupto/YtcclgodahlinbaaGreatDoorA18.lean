import Derived.Test.YtcclgodahlinbaaGreatDoorA17
import Derived.Test.YtcclgodahlinbaaGreatDoorA14
import Derived.Test.YtcclgodahlinbaaGreatDoorA13
import Derived.Test.YtcclgodahlinbaaGreatDoorA15
import Derived.Test.YtcclgodahlinbaaGreatDoorA06
namespace Go.Proofs.YtcclgodahlinbaaGreatDoor
set_option maxHeartbeats 16000000
open Tryz Go.RowKit Go
set_option maxRecDepth 100000
structure yr (w:World):Prop where
 g:PP w
 er: ∃ev,w.cell? ⟨5,0,none⟩=some ev/\(ev= .nilIface\/ ∃te pe,ev= .iface te pe)
 tab:Lib.TabIs prog w "internal/strconv.uint64pow10" .u64 Lib.pow10Tab
 sz:6<=w.heap.size
theorem DV {w w':World} (h:Lib.TabIs prog w "internal/strconv.uint64pow10" .u64 Lib.pow10Tab) (hs: ∀g,g<6->w'.heap[g]? =w.heap[g]?):Lib.TabIs prog w' "internal/strconv.uint64pow10" .u64 Lib.pow10Tab:=by
 have hg:prog.globalNamed "internal/strconv.uint64pow10" =some 3:=by kernel_rfl
 unfold Lib.TabIs World.var? at *
 simp only [hg,Option.bind_some] at h ⊢
 rw [hs 3 (by decide)]
 exact h
theorem yr.below {w w':World} {N:Nat} (h:yr w) (hb:Below N w w') (hN:6<=N) (hs:w.heap.size<=w'.heap.size):yr w':=by
 obtain ⟨ev,he,hc⟩:=h.er
 have:=h.sz
 exact ⟨h.g.below hb (by omega) hs,⟨ev,(hb.cell (p:=⟨5,0,none⟩) (by show 5<N;omega)).trans he,hc⟩,DV h.tab fun g hg=>hb.block g (by omega),by omega⟩
theorem yr.next {w w':World} (h:yr w) (hb:Below w.heap.size w w'):yr w':=h.below hb h.sz hb.size
theorem UF (w:World) (k:Nat) (os:Array Obj):Below w.heap.size w (Sort.grow (w.drewN k) os):=
 ⟨rfl,rfl,rfl,by show w.heap.size<=(w.heap++os).size;simp,fun g hg=>by show (w.heap++os)[g]? =_;rw [Array.getElem?_append_left hg]⟩
theorem Vk {n:Int} (h0: -9223372036854775808<=n) (h1:n<=9223372036854775807) {w:World} (hg:yr w):Calls prog 133 #[.int .i64 n] w fun e w'=>e= .returned (.string ⟨(Lib.itoa n).toArray⟩)/\Below w.heap.size w w':=by
 refine (Tryz.strconv_Itoa n h0 h1 w hg.tab).mono ?_
 rintro e w' ⟨rfl,k,os,rfl⟩
 exact ⟨rfl,UF w k os⟩
theorem VH {n:Nat} (h1:n<=100000) {w:World} (hg:yr w):Calls prog 133 #[.int .i64 (n:Int)] w fun e w'=>e= .returned (.string ⟨(Lib.decDigits n).toArray⟩)/\Below w.heap.size w w':=by
 have:=Vk (n:=(n:Int)) (by omega) (by omega) hg
 rwa [Lib.itoa_nonneg] at this
theorem DJ {d:List UInt8} (hl:d.length<=100000) {w:World} (hg:yr w):Calls prog 154 #[.string ⟨d.toArray⟩] w fun e w'=>((∃v,Lib.atoiAll d= .ok v/\e= .returned (.tuple #[.int .i64 v,.nilIface]))\/(qv d=((qv d).1,false)/\ ∃t p,e= .returned (.tuple #[.int .i64 (qv d).1,.iface t p])))/\Below w.heap.size w w':=by
 have hsz:(⟨d.toArray⟩:ByteArray).size=d.length:=by show d.toArray.size=_;simp
 cases ha:Lib.atoiAll d with
 | ok v=>
   refine (Tryz.strconv_Atoi_ok ⟨d.toArray⟩ (by omega) v (by simpa using ha) w).mono ?_
   rintro e w' ⟨rfl,h⟩
   refine ⟨.inl ⟨v,rfl,rfl⟩,?_⟩
   rcases h with rfl | ⟨t,rfl⟩
   ·exact Below.refl _ _
   ·exact Lib.bytesWorld_below _ _ _
 | range=>
   obtain ⟨ev,he,hc⟩:=hg.er
   have hn:qv d=(Lib.atoiSat d,false):=by unfold qv;rw [ha]
   refine (Tryz.strconv_Atoi_range ⟨d.toArray⟩ (by omega) (by simpa using ha) ev w he hc).mono ?_
   rintro e w' ⟨N,t,rfl,hb⟩
   exact ⟨.inr ⟨by rw [hn],t,_,by rw [hn]⟩,hb⟩
 | _=>
   obtain ⟨ev,he,hc⟩:=hg.g.es
   have hn:qv d=(0,false):=by unfold qv;rw [ha]
   refine (Tryz.strconv_Atoi_syntax ⟨d.toArray⟩ (by omega) (ha.trans rfl) ev w he hc).mono ?_
   rintro e w' ⟨N,rfl,_,_,hb⟩
   exact ⟨.inr ⟨by rw [hn],_,_,by rw [hn]⟩,hb⟩
theorem kM {d:List UInt8} (hl:d.length<=100000) {w:World} (hg:yr w):Calls prog 150 #[.string ⟨d.toArray⟩] w fun e w'=>e= .returned (.tuple #[.int .i64 (qv d).1,.bool (qv d).2])/\Below w.heap.size w w':=by
 have m1:=DJ hl hg
 have m2:Hid (∀v w1,Lib.atoiAll d= .ok v->Below w.heap.size w w1->Calls prog 133 #[.int .i64 v] w1 fun e w'=>e= .returned (.string ⟨(Lib.itoa v).toArray⟩)/\Below w1.heap.size w1 w'):=by
  intro v w1 hv hb
  have:=Lib.atoiAll_bounds hv
  exact Vk this.1 this.2 (hg.next hb)
 have m3:Hid (∀v,Lib.atoiAll d= .ok v->qv d=(v,decide (0<=v) && decide (Lib.itoa v=d))):=fun v hv=>by unfold qv;rw [hv]
 have m4:Hid (∀v,(((⟨(Lib.itoa v).toArray⟩:ByteArray).toList==(⟨d.toArray⟩:ByteArray).toList))=decide (Lib.itoa v=d)):=by
  intro v
  rw [Lib.toList_data,Lib.toList_data]
  by_cases h:Lib.itoa v=d
  ·simp [h]
  ·simp [h]
 generalize hsd:(⟨d.toArray⟩:ByteArray)=sd at *
 clear hsd
 go_enter func150,ntmps150
 go_wp2_with fail
 refine m1.mono ?_
 rintro e w1 ⟨h | ⟨hn,t,p,rfl⟩,hb⟩
 ·obtain ⟨v,hv,rfl⟩:=h
  have hnm:Hid (qv d=(v,decide (0<=v) && decide (Lib.itoa v=d))):=m3.out v hv
  have hI:=m2.out v w1 hv hb
  have h4:Hid _:=m4.out v
  clear hv m3 m2 m4 m1
  generalize hIT:(⟨(Lib.itoa v).toArray⟩:ByteArray)=sI at *
  clear hIT
  by_cases h0:0<=v
  ·go_wp2_with (go_at_call 133;refine hI.mono ?_;rintro e w2 ⟨rfl,hb2⟩)
   go_ret2
   exact ⟨by rw [hnm.out,decide_eq_true h0,Bool.true_and,<-h4.out];rfl,hb.trans (hb2.mono hb.size)⟩
  ·go_wp2_with fail
   go_ret2
   exact ⟨by rw [hnm.out,decide_eq_false (show ¬0<=v by omega),Bool.false_and];rfl,hb⟩
 ·have hnH:Hid (qv d=((qv d).1,false)):=hn
  clear hn
  go_wp2_with fail
  go_ret2
  exact ⟨by rw [hnH.out];rfl,hb⟩
theorem Jj {a sep:List UInt8} (hl:a.length<=100000) {w:World} (hg:yr w):
 Calls prog 34 #[.string ⟨a.toArray⟩,.string ⟨sep.toArray⟩] w fun e w'=>e= .returned (.tuple #[.string ⟨(Lib.cut a sep).1.toArray⟩,.string ⟨(Lib.cut a sep).2.1.toArray⟩,.bool (Lib.cut a sep).2.2])/\Below w.heap.size w w':=by
 obtain ⟨m,hm⟩:=hg.g.ml
 have hz:(⟨a.toArray⟩:ByteArray).size=a.length:=by show a.toArray.size=_;simp
 refine (Tryz.strings_Cut ⟨a.toArray⟩ ⟨sep.toArray⟩ m w (by omega) hm).mono ?_
 rintro e w' ⟨rfl,n,rfl⟩
 exact ⟨rfl,Vy _ n⟩
theorem VI (a sep:List UInt8):(Lib.cut a sep).1.length<=a.length/\(Lib.cut a sep).2.1.length<=a.length:=by
 unfold Lib.cut
 split
 ·exact ⟨by rw [List.length_take];omega,by rw [List.length_drop];omega⟩
 ·exact ⟨Nat.le_refl _,by simp⟩
theorem YE {d:List UInt8} (hl:d.length<=100000) {w:World} (hg:yr w):Calls prog 140 #[.string ⟨d.toArray⟩] w fun e w'=>e= .returned (.tuple #[.int .i64 (spanP d).1,.int .i64 (spanP d).2.1,.bool (spanP d).2.2])/\Below w.heap.size w w':=by
 have m0:=Jj (sep:= [44]) hl hg
 have hcl:=VI d [44]
 have m1:Hid (∀w1,Below w.heap.size w w1->Calls prog 150 #[.string ⟨(Lib.cut d [44]).1.toArray⟩] w1 fun e w'=>e= .returned (.tuple #[.int .i64 (qv (Lib.cut d [44]).1).1,.bool (qv (Lib.cut d [44]).1).2])/\Below w1.heap.size w1 w'):=fun w1 hb=>kM (by omega) (hg.next hb)
 have m2:Hid (∀w1,Below w.heap.size w w1->Calls prog 150 #[.string ⟨(Lib.cut d [44]).2.1.toArray⟩] w1 fun e w'=>e= .returned (.tuple #[.int .i64 (qv (Lib.cut d [44]).2.1).1,.bool (qv (Lib.cut d [44]).2.1).2])/\Below w1.heap.size w1 w'):=fun w1 hb=>kM (by omega) (hg.next hb)
 unfold spanP
 generalize (⟨d.toArray⟩:ByteArray)=sd at *
 generalize (qv (Lib.cut d [44]).1)=n1 at *
 generalize (qv (Lib.cut d [44]).2.1)=n2 at *
 generalize (⟨(Lib.cut d [44]).1.toArray⟩:ByteArray)=s1 at *
 generalize (⟨(Lib.cut d [44]).2.1.toArray⟩:ByteArray)=s2 at *
 generalize (Lib.cut d [44]).2.2=cb at *
 obtain ⟨n1,b1⟩:=n1
 obtain ⟨n2,b2⟩:=n2
 clear hcl
 go_enter func140,ntmps140
 go_wp2_with fail
 refine m0.mono ?_
 rintro e w1 ⟨rfl,hb1⟩
 go_wp2_with fail
 refine (m1.out w1 hb1).mono ?_
 rintro e w2 ⟨rfl,hb2⟩
 have hb12:=hb1.trans (hb2.mono hb1.size)
 go_wp2_with fail
 refine (m2.out w2 hb12).mono ?_
 rintro e w3 ⟨rfl,hb3⟩
 have hb:=hb12.trans (hb3.mono hb12.size)
 cases cb
 ·go_wp2_with fail
  go_ret3
  exact ⟨rfl,hb⟩
 ·cases b1
  ·go_wp2_with fail
   go_ret3
   exact ⟨rfl,hb⟩
  ·go_wp2_with fail
   go_ret3
   exact ⟨rfl,hb⟩
def HP.hi (p:HP):HI:=⟨p.fr,p.fc,p.tr,p.tc,[]⟩
theorem Jp {d:List UInt8} (hl:d.length<=100000) {w:World} (hg:yr w):Calls prog 111 #[.string ⟨d.toArray⟩] w fun e w'=>e= .returned (.tuple #[qn (zI d).hi (.slice none 0 0),.bool (zI d).ok])/\Below w.heap.size w w':=by
 have hB0:=heap_alloc_new w jQ
 have hb0:=(Below.refl w.heap.size w).alloc (Nat.le_refl _) jQ
 have hg0:=hg.next hb0
 have hz0:(w.alloc jQ).heap.size=w.heap.size+1:=by simp
 have l1:(Lib.trimPrefix d [64,64,32,45]).length<=100000:=by
  unfold Lib.trimPrefix
  split
  ·rw [List.length_drop];omega
  ·exact hl
 have l2:(Lib.trimSuffix (Lib.trimPrefix d [64,64,32,45]) [32,64,64]).length<=100000:=by
  generalize Lib.trimPrefix d [64,64,32,45]=m at l1
  unfold Lib.trimSuffix
  split
  ·rw [List.length_take];omega
  ·exact l1
 have hcl:=VI (Lib.trimSuffix (Lib.trimPrefix d [64,64,32,45]) [32,64,64]) [32,43]
 have c1:=fun w=>Tryz.strings_CutPrefix ⟨d.toArray⟩ ⟨[64,64,32,45].toArray⟩ w
 have c2:=fun w=>Tryz.strings_CutSuffix ⟨(Lib.trimPrefix d [64,64,32,45]).toArray⟩ ⟨[32,64,64].toArray⟩ w (by rw [xq];omega)
 have c3:=fun (w:World) (hg:yr w)=>Jj (a:=Lib.trimSuffix (Lib.trimPrefix d [64,64,32,45]) [32,64,64]) (sep:= [32,43]) (w:=w) l2 hg
 have c4:=fun (w:World) (hg:yr w)=>YE (d:=(xB d).1) (w:=w) (Nat.le_trans hcl.1 l2) hg
 have c5:=fun (w:World) (hg:yr w)=>YE (d:=(xB d).2.1) (w:=w) (Nat.le_trans hcl.2 l2) hg
 have hH:zI d=⟨(spanP (xB d).1).1,(spanP (xB d).1).2.1,(spanP (xB d).2.1).1,(spanP (xB d).2.1).2.1,
  Lib.hasPrefix d [64,64,32,45] && Lib.hasSuffix (Lib.trimPrefix d [64,64,32,45]) [32,64,64] && (xB d).2.2 && (spanP (xB d).1).2.2 && (spanP (xB d).2.1).2.2⟩:=rfl
 rw [hH]
 clear hH
 have e1:(⟨d.toArray⟩:ByteArray).data.toList=d:=by simp
 have e2:(⟨(Lib.trimPrefix d [64,64,32,45]).toArray⟩:ByteArray).data.toList=Lib.trimPrefix d [64,64,32,45]:=by simp
 rw [e1] at c1
 rw [e2] at c2
 have e3:(⟨[64,64,32,45].toArray⟩:ByteArray).data.toList= [64,64,32,45]:=rfl
 have e4:(⟨[32,64,64].toArray⟩:ByteArray).data.toList= [32,64,64]:=rfl
 rw [e3] at c1
 rw [e4] at c2
 have hC:Lib.cut (Lib.trimSuffix (Lib.trimPrefix d [64,64,32,45]) [32,64,64]) [32,43]=xB d:=rfl
 rw [hC] at c3
 clear e1 e2 e3 e4 hC l1 l2 hcl
 generalize Lib.hasPrefix d [64,64,32,45]=b1 at *
 generalize Lib.hasSuffix (Lib.trimPrefix d [64,64,32,45]) [32,64,64]=b2 at *
 generalize (⟨(Lib.trimSuffix (Lib.trimPrefix d [64,64,32,45]) [32,64,64]).toArray⟩:ByteArray)=t2 at *
 generalize (⟨(Lib.trimPrefix d [64,64,32,45]).toArray⟩:ByteArray)=t1 at *
 generalize (⟨d.toArray⟩:ByteArray)=t0 at *
 generalize spanP (xB d).1=o at *
 generalize spanP (xB d).2.1=f at *
 generalize (⟨(xB d).1.toArray⟩:ByteArray)=t3 at *
 generalize (⟨(xB d).2.1.toArray⟩:ByteArray)=t4 at *
 generalize (xB d).2.2=b3 at *
 obtain ⟨o1,o2,b4⟩:=o
 obtain ⟨f1,f2,b5⟩:=f
 have hfin:Hid (∀w1,Below (w.alloc jQ).heap.size (w.alloc jQ) w1->w1.heap[w.heap.size]? =some jQ/\Below w.heap.size w w1/\w.heap.size<w1.heap.size):=by
  intro w1 h1
  exact ⟨(h1.block w.heap.size (by omega)).trans hB0,hb0.trans (h1.mono (by omega)),by have:=h1.size;omega⟩
 clear hB0 hb0
 go_enter func111,ntmps111
 go_wp2_with fail
 generalize w.alloc jQ=W0 at *
 refine (c1 _).mono ?_
 rintro e w' ⟨rfl,rfl⟩
 go_wp2_with fail
 refine (c2 _).mono ?_
 rintro e w' ⟨rfl,rfl⟩
 go_wp2_with fail
 refine (c3 _ hg0).mono ?_
 rintro e w1 ⟨rfl,hb1⟩
 have hg1:=hg0.next hb1
 go_wp2_with fail
 refine (c4 _ hg1).mono ?_
 rintro e w2 ⟨rfl,hb2⟩
 have hg2:=hg1.next hb2
 go_wp2_with fail
 refine (c5 _ hg2).mono ?_
 rintro e w3 ⟨rfl,hb3⟩
 obtain ⟨hB3,hbw,hlt⟩:=hfin.out w3 (Eg hb1 hb2 hb3)
 have z:=fun k=>zi (k:=k) hB3
 have r0:=za (k:=0) hB3 rfl
 have r1:=za (k:=1) hB3 rfl
 have r2:=za (k:=2) hB3 rfl
 have r3:=za (k:=3) hB3 rfl
 have r4:=za (k:=4) hB3 rfl
 have hF:=Sm hB3 (.cells #[.int .i64 o1,.int .i64 o2,.int .i64 f1,.int .i64 f2,.slice none 0 0] 61) (.int .i64 o1) (.int .i64 o2) (.int .i64 f1) (.int .i64 f2) (.slice none 0 0)
 have hbF:=(((((hbw.setCell (p:=⟨w.heap.size,0,none⟩) (Nat.le_refl _) (.int .i64 o1)).setCell (p:=⟨w.heap.size,1,none⟩) (Nat.le_refl _) (.int .i64 o2)).setCell (p:=⟨w.heap.size,2,none⟩) (Nat.le_refl _) (.int .i64 f1)).setCell (p:=⟨w.heap.size,3,none⟩) (Nat.le_refl _) (.int .i64 f2)).setCell (p:=⟨w.heap.size,4,none⟩) (Nat.le_refl _) (.slice none 0 0)).alloc (by simp;omega) (.cells #[.int .i64 o1,.int .i64 o2,.int .i64 f1,.int .i64 f2,.slice none 0 0] 61)
 have hlast:Hid (∀b,b=(b1 && b2 && b3 && b4 && b5)->b=(b1 && b2 && b3 && b4 && b5)):=fun _ h=>h
 have key: ∀b,b=(b1 && b2 && b3 && b4 && b5)->(.tuple #[.agg #[.int .i64 o1,.int .i64 o2,.int .i64 f1,.int .i64 f2,.slice none 0 0],.bool b]:Value)= .tuple #[qn (HP.hi ⟨o1,o2,f1,f2,b1 && b2 && b3 && b4 && b5⟩) (.slice none 0 0),.bool (b1 && b2 && b3 && b4 && b5)]:=fun b h=>by rw [h];rfl
 have hkey:Hid _:=key
 clear key hlast
 have r0':=za (k:=0) hF rfl
 have r1':=za (k:=1) hF rfl
 have r2':=za (k:=2) hF rfl
 have r3':=za (k:=3) hF rfl
 have r4':=za (k:=4) hF rfl
 cases b1
 ·go_wp2_with fail
  refine bodyPost_ret (v:= .tuple #[.agg #[.int .i64 o1,.int .i64 o2,.int .i64 f1,.int .i64 f2,.slice none 0 0],.bool false]) ?_ rfl ⟨by rw [hkey.out false rfl],hbF⟩
  simp [results,results111,go_sem,r0',r1',r2',r3',r4']
 ·cases b2
  ·go_wp2_with fail
   refine bodyPost_ret (v:= .tuple #[.agg #[.int .i64 o1,.int .i64 o2,.int .i64 f1,.int .i64 f2,.slice none 0 0],.bool false]) ?_ rfl ⟨by rw [hkey.out false rfl],hbF⟩
   simp [results,results111,go_sem,r0',r1',r2',r3',r4']
  ·cases b3
   ·go_wp2_with fail
    refine bodyPost_ret (v:= .tuple #[.agg #[.int .i64 o1,.int .i64 o2,.int .i64 f1,.int .i64 f2,.slice none 0 0],.bool false]) ?_ rfl ⟨by rw [hkey.out false rfl],hbF⟩
    simp [results,results111,go_sem,r0',r1',r2',r3',r4']
   ·cases b4
    ·go_wp2_with fail
     refine bodyPost_ret (v:= .tuple #[.agg #[.int .i64 o1,.int .i64 o2,.int .i64 f1,.int .i64 f2,.slice none 0 0],.bool false]) ?_ rfl ⟨by rw [hkey.out false rfl],hbF⟩
     simp [results,results111,go_sem,r0',r1',r2',r3',r4']
    ·go_wp2_with fail
     refine bodyPost_ret (v:= .tuple #[.agg #[.int .i64 o1,.int .i64 o2,.int .i64 f1,.int .i64 f2,.slice none 0 0],.bool b5]) ?_ rfl ⟨by rw [hkey.out b5 rfl],hbF⟩
     simp [results,results111,go_sem,r0',r1',r2',r3',r4']
end Go.Proofs.YtcclgodahlinbaaGreatDoor
namespace Go.Proofs.YtcclgodahlinbaaGreatDoor
set_option maxHeartbeats 16000000
open Tryz Go
set_option maxRecDepth 100000
def dig (c:UInt8):Bool:=decide (48<=c.toNat) && decide (c.toNat<=57)
theorem Yv {c:UInt8} :dig c=true ↔ 48<=c.toNat/\c.toNat<=57:=by unfold dig;simp
theorem GP {c:UInt8} (h:dig c=true):Lib.digitVal c=some (c.toNat-48):=by
 unfold Lib.digitVal;rw [if_pos (Yv.1 h)]
def xR (l:List UInt8):List UInt8:=l.takeWhile dig
theorem QW {n:Nat} {E:List UInt8} (hE: ∀c,E.head? =some c->dig c=false):xR (Lib.decDigits n++E)=Lib.decDigits n:=by
 unfold xR
 rw [List.takeWhile_append_of_pos (fun c hc=>Yv.2 (Xk n c hc))]
 cases E with
 | nil=>simp
 | cons c E=>rw [List.takeWhile_cons_of_neg (by rw [hE c rfl];simp)];simp
theorem JB {n:Nat} {t:List UInt8} : ∀ {l:List UInt8},l=Lib.decDigits n->l=48::t->n=0:=by
 have key: ∀n:Nat,1<=n-> ∃c r,Lib.decDigits n=c::r/\c≠48:=by
  intro n
  induction n using Nat.strongRecOn with
  | _ n ih=>
    intro hn
    rw [Lib.decDigits]
    by_cases h:n<10
    ·rw [dif_pos h]
     refine ⟨_,[],rfl,fun e=> ?_⟩
     have e2:=congrArg UInt8.toNat e
     have:(UInt8.ofNat (48+n)).toNat=48+n:=by simp;omega
     rw [this] at e2
     simp at e2
     omega
    ·rw [dif_neg h]
     obtain ⟨c,r,e,hc⟩:=ih (n / 10) (by omega) (by omega)
     exact ⟨c,r++ [UInt8.ofNat (48+n % 10)],by rw [e];rfl,hc⟩
 intro l h1 h2
 rcases Nat.eq_zero_or_pos n with h | h
 ·exact h
 ·obtain ⟨c,r,e,hc⟩:=key n h
  rw [<-h1,h2] at e
  cases e
  exact absurd rfl hc
theorem Sf {α :Type} {p:List α ->Prop} (h0:p []) (h1: ∀l a,p l->p (l++ [a])) (l:List α):p l:=by
 have: ∀m:List α,p m.reverse:=by
  intro m
  induction m with
  | nil=>exact h0
  | cons a m ih=>rw [List.reverse_cons];exact h1 _ _ ih
 have h:=this l.reverse
 rwa [List.reverse_reverse] at h
theorem Gl: ∀(l:List UInt8) (n:Nat),l≠ []->(∀c∈l,dig c=true)->Lib.decFrom 0 l=some n->(l.head? =some 48->l.length=1)->l=Lib.decDigits n:=by
 intro l
 refine Sf (p:=fun l=> ∀n,l≠ []->(∀c∈l,dig c=true)->Lib.decFrom 0 l=some n->(l.head? =some 48->l.length=1)->l=Lib.decDigits n) ?_ ?_ l
 ·intro n h;exact absurd rfl h
 ·intro m b ih n _ hd hv h0
  have hb:=hd b (by simp)
  have hbv:=GP hb
  have hbr:=Yv.1 hb
  have hlen:(m++ [b])[m.length]? =some b:=by simp
  cases hm:Lib.decFrom 0 m with
  | none=>
    exfalso
    have key: ∀(m r:List UInt8) (acc:Nat),Lib.decFrom acc m=none->Lib.decFrom acc (m++r)=none:=by
     intro m
     induction m with
     | nil=>intro r acc h;simp [Lib.decFrom] at h
     | cons c m ihm=>
       intro r acc h
       rw [List.cons_append,Lib.decFrom]
       rw [Lib.decFrom] at h
       split
       ·rename_i d hdv;rw [hdv] at h;exact ihm r _ h
       ·rfl
    rw [key m [b] 0 hm] at hv
    cases hv
  | some k=>
    have hs:=Lib.decFrom_take (m++ [b]) m.length 0 k b _ (by rw [List.take_left' rfl];exact hm) hlen hbv
    rw [List.take_of_length_le (by simp)] at hs
    rw [hs] at hv
    have hn:k*10+(b.toNat-48)=n:=Option.some.inj hv
    have hlast:UInt8.ofNat (48+(b.toNat-48))=b:=by rw [show 48+(b.toNat-48)=b.toNat by omega];simp
    by_cases hm0:m= []
    ·subst hm0
     simp [Lib.decFrom] at hm
     subst hm
     rw [Lib.decDigits,dif_pos (by omega),<-hn,Nat.zero_mul,Nat.zero_add,hlast]
     rfl
    ·have hhd:(m++ [b]).head? =m.head? :=by cases m with | nil=>exact absurd rfl hm0 | cons c m=>rfl
     have hno:m.head? ≠some 48:=by
      intro e
      have:=h0 (by rw [hhd];exact e)
      simp at this
      exact hm0 this
     have e:=ih k hm0 (fun c hc=>hd c (by simp [hc])) hm (fun e=>absurd e hno)
     have hk:1<=k:=by
      rcases Nat.eq_zero_or_pos k with h | h
      ·subst h
       exfalso
       rw [e,Lib.decDigits,dif_pos (by omega)] at hno
       exact hno rfl
      ·exact h
     rw [Lib.decDigits,dif_neg (by omega),show n / 10=k by omega,show n % 10=b.toNat-48 by omega,<-e,hlast]
def Fig (D:List UInt8) (n:Nat) (E:List UInt8):Prop:=n<=100000/\D=Lib.decDigits n++E/\ ∀c,E.head? =some c->dig c=false
theorem PF {D:List UInt8} {j n:Nat} (hj:1<=j) (hv:Lib.decFrom 0 ((xR D).take j)=some n) (hl:j<=(xR D).length) (hend:j=(xR D).length\/j=7) (hn:n<=100000) (h0:D.head? =some 48->j=1):
 Fig D n (D.drop j)/\(Lib.decDigits n).length=j:=by
 have hdg: ∀c∈xR D,dig c=true:=fun c hc=>by
  have key: ∀l:List UInt8,c∈l.takeWhile dig->dig c=true:=by
   intro l
   induction l with
   | nil=>intro h;simp at h
   | cons a l ih=>
     intro h
     by_cases ha:dig a=true
     ·rw [List.takeWhile_cons_of_pos ha] at h
      rcases List.mem_cons.1 h with e | e
      ·rw [e];exact ha
      ·exact ih e
     ·rw [List.takeWhile_cons_of_neg ha] at h;simp at h
  exact key D hc
 have hpre:xR D<+:D:=List.takeWhile_prefix _
 obtain ⟨T,hT⟩:=hpre
 have hne:(xR D).take j≠ []:=fun e=>by have:=congrArg List.length e;rw [List.length_take,List.length_nil] at this;omega
 have hhd:((xR D).take j).head? =D.head? :=by
  cases hd:xR D with
  | nil=>rw [hd] at hl;simp at hl;omega
  | cons c r=>
    obtain ⟨j,rfl⟩: ∃i,j=i+1:=⟨j-1,by omega⟩
    rw [<-hT,hd];simp
 have e:=Gl _ n hne (fun c hc=>hdg c (List.mem_of_mem_take hc)) hv (fun e=>by rw [hhd] at e;rw [List.length_take];have:=h0 e;omega)
 have hlen:(Lib.decDigits n).length=j:=by rw [<-e,List.length_take];omega
 have h6:=km hn
 have hj2:j=(xR D).length:=by omega
 have e2:xR D=Lib.decDigits n:=by rw [<-e,hj2,List.take_length]
 refine ⟨⟨hn,?_,?_⟩,hlen⟩
 ·rw [<-e2]
  have:D.drop j=T:=by rw [<-hT,List.drop_left' hj2.symm]
  rw [this,hT]
 ·intro c hc
  have hT2:D.drop j=T:=by rw [<-hT,List.drop_left' hj2.symm]
  rw [hT2] at hc
  cases hdc:dig c with
  | false=>rfl
  | true=>
    exfalso
    cases T with
    | nil=>cases hc
    | cons x T=>
      obtain rfl:x=c:=Option.some.inj hc
      have h7:D.takeWhile dig=xR D++x::T.takeWhile dig:=by
       conv=>lhs;rw [<-hT]
       rw [List.takeWhile_append_of_pos (fun x hx=>hdg x hx),List.takeWhile_cons_of_pos hdc]
      have h8:=congrArg List.length h7
      have h9:(D.takeWhile dig).length=(xR D).length:=rfl
      rw [List.length_append,List.length_cons] at h8
      omega
theorem TM {D:List UInt8} {j n:Nat} (hv:Lib.decFrom 0 ((xR D).take j)=some n) (hend:j=(xR D).length\/j=7) (hl:j<=(xR D).length) (hno:j=0\/100000<n\/(D.head? =some 48/\1<j)): ∀m E,¬Fig D m E:=by
 rintro m E ⟨h1,h2,h3⟩
 have hd:xR D=Lib.decDigits m:=by rw [h2];exact QW h3
 have h6:=km h1
 rw [hd] at hv hend hl
 have hj:j=(Lib.decDigits m).length:=by omega
 rw [hj,List.take_length] at hv
 have hm:=Qg m
 unfold Lib.decNat at hm
 rw [if_neg (by simp [KG m]),hv] at hm
 have hnm:n=m:=Option.some.inj hm
 rcases hno with h | h | ⟨h,hj1⟩
 ·have:=Wb m;omega
 ·omega
 ·cases hdm:Lib.decDigits m with
  | nil=>exact KG m hdm
  | cons c r=>
    rw [h2,hdm] at h
    simp at h
    subst h
    have hm0:m=0:=JB rfl hdm
    subst hm0
    rw [hj,Lib.decDigits,dif_pos (by omega)] at hj1
    simp at hj1
def qW:Nat->List UInt8
 | 0=> [64,64,32,45]
 | 2=> [32,43]
 | _=> [44]
def qm:Nat->List Nat->List UInt8
 | _,[]=> []
 | i,n::l=>qW i++Lib.decDigits n++qm (i+1) l
theorem Je: ∀(l:List Nat) (i n:Nat),qm i (l++ [n])=qm i l++(qW (i+l.length)++Lib.decDigits n)
 | [],i,n=>by simp [qm]
 | m::l,i,n=>by
   simp only [List.cons_append,qm,Je l (i+1) n,List.length_cons]
   rw [show i+1+l.length=i+(l.length+1) by omega]
   simp
theorem Yi (a b c d:Nat):yv a b c d=qm 0 [a,b,c,d]++ [32,64,64]:=by simp [yv,qm,qW,xg]
def Ze:Nat->List Nat->List UInt8
 | i,l=>qm i l++ [32,64,64]
theorem QR (i:Nat) (hi:i<=4) (l:List Nat) (hl:i=0->l≠ []->True):0<i-> ∀c,(Ze i l).head? =some c->dig c=false:=by
 intro h0 c hc
 unfold Ze at hc
 cases l with
 | nil=>simp [qm] at hc;subst hc;decide
 | cons n l=>
   rcases (by omega:i=1\/i=2\/i=3\/i=4) with rfl | rfl | rfl | rfl<;>simp [qm,qW] at hc<;>subst hc<;>decide
def TQ (L:List UInt8) (xs:List Nat):Prop:= ∀a b c d:Nat,a<=100000->b<=100000->c<=100000->d<=100000->L=yv a b c d->xs= [a,b,c,d].take xs.length
theorem Xx {L:List UInt8} {xs:List Nat} {at_:Nat} (h1:L.take at_=qm 0 xs) {ys:List Nat} (hy:xs=ys.take xs.length) (hL:L=qm 0 ys++ [32,64,64]):L.drop at_=Ze xs.length (ys.drop xs.length):=by
 have key: ∀(xs ys:List Nat) (i:Nat),xs=ys.take xs.length->qm i ys=qm i xs++qm (i+xs.length) (ys.drop xs.length):=by
  intro xs
  induction xs with
  | nil=>intro ys i _;simp [qm]
  | cons x xs ih=>
    intro ys i h
    cases ys with
    | nil=>simp at h
    | cons y ys=>
      simp only [List.length_cons,List.take_succ_cons,List.cons.injEq] at h
      obtain ⟨rfl,h⟩:=h
      simp only [qm,List.length_cons,List.drop_succ_cons]
      rw [ih ys (i+1) h,show i+1+xs.length=i+(xs.length+1) by omega]
      simp
 have hk:=key xs ys 0 hy
 have h3:L=L.take at_++Ze xs.length (ys.drop xs.length):=by
  rw [h1]
  conv=>lhs;rw [hL,hk]
  unfold Ze
  simp
 have h4:L=L.take at_++L.drop at_:=(List.take_append_drop _ _).symm
 exact List.append_cancel_left (h4.symm.trans h3)
end Go.Proofs.YtcclgodahlinbaaGreatDoor
namespace Go.Proofs.YtcclgodahlinbaaGreatDoor
set_option maxHeartbeats 16000000
open Tryz Go.RowKit Go
set_option maxRecDepth 100000
theorem JG {c:UInt8} : ∀ {D:List UInt8} {j:Nat},j<=(xR D).length->D[j]? =some c->dig c=true->(xR D)[j]? =some c
 | [],j,_,h,_=>by simp at h
 | x::D,j,hl,h,hc=>by
   unfold xR at hl ⊢
   by_cases hx:dig x=true
   ·rw [List.takeWhile_cons_of_pos hx] at hl ⊢
    cases j with
    | zero=>simpa using h
    | succ j=>simp at hl h ⊢;exact JG (D:=D) hl h hc
   ·rw [List.takeWhile_cons_of_neg hx] at hl
    simp at hl
    subst hl
    simp at h
    subst h
    exact absurd hc hx
theorem VO: ∀ {D:List UInt8} {j:Nat},j<=(xR D).length->(∀c,D[j]? =some c->dig c=false)->j=(xR D).length
 | [],j,hl,_=>by simpa [xR] using hl
 | x::D,j,hl,h=>by
   unfold xR at hl ⊢
   by_cases hx:dig x=true
   ·rw [List.takeWhile_cons_of_pos hx] at hl ⊢
    cases j with
    | zero=>have:=h x (by simp);rw [hx] at this;cases this
    | succ j=>simp at hl ⊢;exact VO (D:=D) hl (fun c hc=>h c (by simpa using hc))
   ·rw [List.takeWhile_cons_of_neg hx] at hl ⊢
    simpa using hl
theorem KE {s:ByteArray} {p q:Nat} (hpq:p<=q) (hq:q<s.size):(s.data.toList.drop p)[q-p]? =some (s[q]'hq):=by
 rw [List.getElem?_drop,show p+(q-p)=q by omega]
 have h2:q<s.data.toList.length:=hq
 rw [List.getElem?_eq_getElem h2]
 rfl
theorem Dc {s:ByteArray} {p q:Nat} (hpq:p<=q) (hq: ¬q<s.size):(s.data.toList.drop p)[q-p]? =none:=by
 rw [List.getElem?_drop,show p+(q-p)=q by omega]
 exact List.getElem?_eq_none (by show s.size<=q;omega)
def kX (s:ByteArray) (p:Nat) (e:Ending):Prop:=
 (∃n:Nat,Fig (s.data.toList.drop p) n (s.data.toList.drop (p+(Lib.decDigits n).length))/\e= .returned (.tuple #[.int .i64 (n:Int),.int .i64 ((p+(Lib.decDigits n).length:Nat):Int)]))\/
 ((∀m E,¬Fig (s.data.toList.drop p) m E)/\e= .returned (.tuple #[.int .i64 (-1),.int .i64 (p:Int)]))
theorem Gs (s:ByteArray) (p:Nat) (w:World) (hp:p<=s.size) (hs:s.size<=4000000000):
 Calls prog 143 #[.string s,.int .i64 (p:Int)] w fun e w'=>kX s p e/\w=w':=by
 obtain ⟨D,hD⟩: ∃D,s.data.toList.drop p=D:=⟨_,rfl⟩
 go_enter func143,ntmps143
 go_wp2_with fail
 go_loopg [6,7] 7 (fun g t6 t7 wr=> ∃(n q:Nat),g=7-(q-p)/\p<=q/\q<=s.size/\q-p<=7/\t6= .int .i64 n/\t7= .int .i64 q/\n<10 ^ (q-p)/\Hid (q-p<=(xR D).length/\Lib.decFrom 0 ((xR D).take (q-p))=some n)/\wr=w)
 case atStart=>exact ⟨0,p,by omega,by omega,hp,by omega,rfl,rfl,by simp,⟨by omega,by simp [Lib.decFrom]⟩,rfl⟩
 case round=>
  obtain ⟨n,q,hgk,hpq,hqs,hj7,rfl,rfl,hn,hI,rfl⟩:=hrel
  have hG:Hid (_=7-(q-p)):=hgk
  clear hgk
  have hn7:n<10000000:=Nat.lt_of_lt_of_le hn (Nat.le_trans (Nat.pow_le_pow_right (by decide) hj7) (by decide))
  have hnH:Hid (n<10 ^ (q-p)):=hn
  clear hn
  by_cases hgo: ∃hq:q<s.size,dig (s[q]'hq)=true/\q-p<7
  ·obtain ⟨hq,hdg,hlt⟩:=hgo
   have hqI:(q:Int)<s.size:=by omega
   have hd:=Yv.1 hdg
   have h48:(48:Int)<=((s[q]'hq).toNat:Nat):=by omega
   have h57:(((s[q]'hq).toNat:Nat):Int)<=57:=by omega
   have hp7:(q:Int)<(p:Int)+7:=by omega
   have ws:IntKind.u8.wrap ((((s[q]'hq).toNat:Nat):Int)-48)=(((s[q]'hq).toNat:Nat):Int)-48:=by rw [IntKind.wrap_u8];omega
   have hat:D[q-p]? =some (s[q]'hq):=by rw [<-hD];exact KE hpq hq
   have hm:=JG hI.out.1 hat hdg
   have hv:=Lib.decFrom_take (xR D) (q-p) 0 n _ _ hI.out.2 hm (GP hdg)
   have hI2:Hid (q+1-p<=(xR D).length/\Lib.decFrom 0 ((xR D).take (q+1-p))=some (10*n+((s[q]'hq).toNat-48))/\10*n+((s[q]'hq).toNat-48)<10 ^ (q+1-p)):=by
    rw [show q+1-p=q-p+1 by omega,hv]
    refine ⟨?_,by rw [Nat.mul_comm],?_⟩
    ·exact (List.getElem?_eq_some_iff.1 hm).1
    ·have:=hnH.out
     rw [Nat.pow_succ]
     omega
   have hcast:Hid (((10*n+((s[q]'hq).toNat-48):Nat):Int)=10*(n:Int)+((((s[q]'hq).toNat:Nat):Int)-48)):=by show _=_;omega
   clear hat hm hv hI hnH hdg hd
   go_wp2_with fail
   go_roundg (7-(q+1-p))
   ·refine ⟨10*n+((s[q]'hq).toNat-48),q+1,rfl,by omega,by omega,by omega,?_,by push_cast;rfl,hI2.out.2.2,⟨hI2.out.1,hI2.out.2.1⟩,rfl⟩
    rw [hcast.out]
   ·have:=hG.out;omega
  ·have hend:Hid (q-p=(xR D).length\/q-p=7):=by
    by_cases h7:q-p<7
    ·left
     refine VO hI.out.1 ?_
     intro c hc
     rw [<-hD] at hc
     by_cases hq:q<s.size
     ·rw [KE hpq hq] at hc
      obtain rfl:=Option.some.inj hc
      rw [Bool.eq_false_iff]
      exact fun hd=>hgo ⟨hq,hd,h7⟩
     ·rw [Dc hpq hq] at hc;cases hc
    ·right;omega
   have hyes:Hid (1<=q-p->n<=100000->(D.head? =some 48->q-p=1)->Fig D n (s.data.toList.drop (p+(Lib.decDigits n).length))/\p+(Lib.decDigits n).length=q):=by
    intro h1 h2 h3
    obtain ⟨f1,f2⟩:=PF h1 hI.out.2 hI.out.1 hend.out h2 h3
    rw [<-hD,List.drop_drop,<-f2,hD] at f1
    exact ⟨f1,by omega⟩
   have hnon:Hid (q-p=0\/100000<n\/(D.head? =some 48/\1<q-p)-> ∀m E,¬Fig D m E):=fun h=>TM hI.out.2 hend.out hI.out.1 h
   have hfin1:Hid (1<=q-p->n<=100000->(D.head? =some 48->q-p=1)->kX s p (.returned (.tuple #[.int .i64 (n:Int),.int .i64 (q:Int)]))):=by
    intro h1 h2 h3
    obtain ⟨f1,f2⟩:=hyes.out h1 h2 h3
    left
    refine ⟨n,by rw [hD];exact f1,by rw [f2]⟩
   have hfin2:Hid (q-p=0\/100000<n\/(D.head? =some 48/\1<q-p)->kX s p (.returned (.tuple #[.int .i64 (-1),.int .i64 (p:Int)]))):=fun h=> .inr ⟨by rw [hD];exact hnon.out h,rfl⟩
   have hhd:Hid (∀hq:p<s.size,D.head? =some (s[p]'hq)):=by
    intro hq
    have:=KE (s:=s) (Nat.le_refl p) hq
    rw [Nat.sub_self,hD] at this
    rw [List.head?_eq_getElem?]
    exact this
   have hpos:Hid (1<=q-p->p<s.size):=by intro h;omega
   have hout:Hid ((¬(q:Int)<s.size)\/(∃hq:q<s.size,¬(48:Int)<=((s[q]'hq).toNat:Nat))\/(∃hq:q<s.size,(48:Int)<=((s[q]'hq).toNat:Nat)/\ ¬(((s[q]'hq).toNat:Nat):Int)<=57)\/(∃hq:q<s.size,(48:Int)<=((s[q]'hq).toNat:Nat)/\(((s[q]'hq).toNat:Nat):Int)<=57/\ ¬(q:Int)<(p:Int)+7)):=by
    unfold Hid
    by_cases hq:q<s.size
    ·right
     by_cases h1:(48:Int)<=((s[q]'hq).toNat:Nat)
     ·by_cases h2:(((s[q]'hq).toNat:Nat):Int)<=57
      ·refine .inr (.inr ⟨hq,h1,h2,fun h3=>hgo ⟨hq,Yv.2 ⟨by omega,by omega⟩,by omega⟩⟩)
      ·exact .inr (.inl ⟨hq,h1,h2⟩)
     ·exact .inl ⟨hq,h1⟩
    ·left;omega
   have hres:(q=p/\Hid (kX s p (.returned (.tuple #[.int .i64 (-1),.int .i64 (p:Int)]))))\/
     (p<q/\(100000:Int)<n/\Hid (kX s p (.returned (.tuple #[.int .i64 (-1),.int .i64 (p:Int)]))))\/
     (p<q/\ ¬(100000:Int)<n/\ ∃h0:p<s.size,(((s[p]'h0).toNat:Int)==48)=true/\(p:Int)+1<q/\Hid (kX s p (.returned (.tuple #[.int .i64 (-1),.int .i64 (p:Int)]))))\/
     (p<q/\ ¬(100000:Int)<n/\ ∃h0:p<s.size,(((s[p]'h0).toNat:Int)==48)=true/\ ¬(p:Int)+1<q/\Hid (kX s p (.returned (.tuple #[.int .i64 (n:Int),.int .i64 (q:Int)]))))\/
     (p<q/\ ¬(100000:Int)<n/\ ∃h0:p<s.size,(((s[p]'h0).toNat:Int)==48)=false/\Hid (kX s p (.returned (.tuple #[.int .i64 (n:Int),.int .i64 (q:Int)])))):=by
    by_cases e1:q=p
    ·exact .inl ⟨e1,hfin2.out (.inl (by omega))⟩
    ·right
     by_cases e2:100000<n
     ·exact .inl ⟨by omega,by omega,hfin2.out (.inr (.inl e2))⟩
     ·right
      have h0:p<s.size:=hpos.out (by omega)
      have hh:=hhd.out h0
      by_cases e3:s[p]'h0=48
      ·have e4:(((s[p]'h0).toNat:Int)==48)=true:=by rw [e3];rfl
       by_cases e5:p+1<q
       ·exact .inl ⟨by omega,by omega,h0,e4,by omega,hfin2.out (.inr (.inr ⟨by rw [hh,e3],by omega⟩))⟩
       ·exact .inr (.inl ⟨by omega,by omega,h0,e4,by omega,hfin1.out (by omega) (by omega) (fun _=>by omega)⟩)
      ·have e4:(((s[p]'h0).toNat:Int)==48)=false:=by
        rw [beq_eq_false_iff_ne]
        intro e
        exact e3 (UInt8.toNat_inj.1 (by have:((48:UInt8).toNat:Int)=48:=rfl;omega))
       exact .inr (.inr ⟨by omega,by omega,h0,e4,hfin1.out (by omega) (by omega) (fun e=>by rw [hh] at e;exact absurd (Option.some.inj e) e3)⟩)
   clear hend hyes hnon hfin1 hfin2 hhd hpos hgo hI hnH hG
   rcases hres with ⟨rfl,hF⟩ | ⟨hlt,hn1,hF⟩ | ⟨hlt,hn1,h0,e4,e5,hF⟩ | ⟨hlt,hn1,h0,e4,e5,hF⟩ | ⟨hlt,hn1,h0,e4,hF⟩
   ·rcases hout.out with ho | ⟨hq,ho⟩ | ⟨hq,ho,ho2⟩ | ⟨hq,ho,ho2,ho3⟩
    all_goals (go_wp2_with fail;go_ret2;exact ⟨hF.out,rfl⟩)
   all_goals have hne:((q:Int)==(p:Int))=false:=by rw [beq_eq_false_iff_ne];omega
   all_goals have hpI:(p:Int)<s.size:=by omega
   ·rcases hout.out with ho | ⟨hq,ho⟩ | ⟨hq,ho,ho2⟩ | ⟨hq,ho,ho2,ho3⟩
    all_goals (go_wp2_with fail;go_ret2;exact ⟨hF.out,rfl⟩)
   ·rcases hout.out with ho | ⟨hq,ho⟩ | ⟨hq,ho,ho2⟩ | ⟨hq,ho,ho2,ho3⟩
    all_goals (go_wp2_with fail;go_ret2;exact ⟨hF.out,rfl⟩)
   ·rcases hout.out with ho | ⟨hq,ho⟩ | ⟨hq,ho,ho2⟩ | ⟨hq,ho,ho2,ho3⟩
    all_goals (go_wp2_with fail;go_ret2;exact ⟨hF.out,rfl⟩)
   ·rcases hout.out with ho | ⟨hq,ho⟩ | ⟨hq,ho,ho2⟩ | ⟨hq,ho,ho2,ho3⟩
    all_goals (go_wp2_with fail;go_ret2;exact ⟨hF.out,rfl⟩)
end Go.Proofs.YtcclgodahlinbaaGreatDoor
