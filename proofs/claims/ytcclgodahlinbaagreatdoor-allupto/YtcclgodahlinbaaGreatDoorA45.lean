import Derived.Test.YtcclgodahlinbaaGreatDoorA44
import Derived.Test.YtcclgodahlinbaaGreatDoorA37
import Derived.Test.YtcclgodahlinbaaGreatDoorA43
import Derived.Test.YtcclgodahlinbaaGreatDoorRows
import Derived.Test.YtcclgodahlinbaaGreatDoorA13
import Derived.Deep.DeepHandedRow
import Derived.Deep.DeepWitnessRowRef
import Derived.Deep.DeepLaidRun
import Derived.LaidLaws
import Derived.LaidHandle
import Derived.LaidSub
import Derived.Stop.LaidErr
import Derived.ProofKit
import Derived.OpenShut
import Derived.Lib.LaidU8
import Derived.Shelf.Vars
import Derived.SevenTiedAt
namespace Go.Proofs.YtcclgodahlinbaaGreatDoor
set_option maxHeartbeats 16000000
open _root_.Go.Proofs.Tryz Go.RowKit Go
set_option maxRecDepth 100000
theorem UL {base wb M:Nat} {x:WV} {B:Bk} {w:World} {kd n m:Int} {a b:ByteArray} {ap:Option Addr} {cp:Nat} {hs:List HI} (k6:kd=6) (K:zC base wb x B w) (R:jc M x B) (hM:M<=590000000000) (hm:w.cell? ⟨0,0,none⟩=some (.int .i64 m)) (hbase:base<=w.heap.size)
 (h1:a.size<=4000000000) (S:xy base w (.slice ap hs.length cp) hs) (hL:Lim hs) (hT:Xf hs):
 Calls prog 21 #[.pointer (some ⟨wb,0,none⟩),.agg #[.int .i64 kd,.int .i64 n,.string a,.string b,.slice ap hs.length cp]] w fun e w'=>e= .returned (.bool true)/\yh base wb (M+2600000) w w':=by
 have hlh:=hL.1
 have hmlt:=World.block_lt_of_cell? _ _ hm
 obtain ⟨W0,hW0⟩: ∃W0,w.alloc (.cells #[.int .i64 kd,.int .i64 n,.string a,.string b,.slice ap hs.length cp] 57)=W0:=⟨_,rfl⟩
 have b0:Below w.heap.size w W0:=by rw [<-hW0];exact (Below.refl _ _).alloc (Nat.le_refl _) _
 have z0:W0.heap.size=w.heap.size+1:=by rw [<-hW0];simp
 have hO0:W0.heap[w.heap.size]? =some (.cells #[.int .i64 kd,.int .i64 n,.string a,.string b,.slice ap hs.length cp] 57 (0,0)):=by rw [<-hW0];exact heap_alloc_new w _
 have o0:W0.cell? ⟨w.heap.size,0,none⟩=some (.int .i64 kd):=za hO0 rfl
 have o1:W0.cell? ⟨w.heap.size,1,none⟩=some (.int .i64 n):=za hO0 rfl
 have o2:W0.cell? ⟨w.heap.size,2,none⟩=some (.string a):=za hO0 rfl
 have o4:W0.cell? ⟨w.heap.size,4,none⟩=some (.slice ap hs.length cp):=za hO0 rfl
 have q1:(kd==1)=false:=by simp [k6]
 have q2:(kd==2)=false:=by simp [k6]
 have q3:(kd==3)=false:=by simp [k6]
 have q4:(kd==4)=false:=by simp [k6]
 have q5:(kd==5)=false:=by simp [k6]
 have q6:(kd==6)=true:=by simp [k6]
 have hcall:Hid (Calls prog 46 #[.pointer (some ⟨wb,0,none⟩),.string a,.agg #[.slice ap hs.length cp],.int .i64 n] W0 fun e w'=>e= .returned (.bool true)/\yh base wb (M+2600000) w w'):=by
  refine (Ql (s:=a) (fz:=n) (m:=m) (K.old (W':=W0) fun g hg=>b0.block g hg) R (by omega) ((b0.cell (p:=⟨0,0,none⟩) hmlt).trans hm) (by omega) (S.on (zs.of_below (base:=base) b0) (fun _ h=>h.elim)) hL hT h1).mono ?_
  rintro e w' ⟨rfl,hR⟩
  exact ⟨rfl,hR.pre (zs.of_below (base:=base) b0) (by omega)⟩
 clear k6 K R S hO0 hm
 go_enter func21,ntmps21
 go_wp2_with fail
 clear hW0
 refine hcall.out.mono ?_
 rintro e W1 ⟨rfl,hR⟩
 have hRH:Hid (yh base wb (M+2600000) w W1):=hR
 clear hR hcall
 go_wp2_with fail
 go_ret
 exact ⟨by first | rfl | simp,hRH.out⟩
theorem Vt {base wb M:Nat} {x:WV} {B:Bk} {w:World} {kd n m:Int} {a b:ByteArray} {ap:Option Addr} {cp:Nat} {hs:List HI} (k7:kd=7) (K:zC base wb x B w) (R:jc M x B) (hM:M<=590000000000) (hm:w.cell? ⟨0,0,none⟩=some (.int .i64 m)) (hbase:base<=w.heap.size)
 (h1:a.size<=4000000000) (h2:b.size<=4000000000) (S:xy base w (.slice ap hs.length cp) hs) (hL:Lim hs):
 Calls prog 21 #[.pointer (some ⟨wb,0,none⟩),.agg #[.int .i64 kd,.int .i64 n,.string a,.string b,.slice ap hs.length cp]] w fun e w'=>e= .returned (.bool true)/\yh base wb (M+2600000) w w':=by
 have hlh:=hL.1
 have hmlt:=World.block_lt_of_cell? _ _ hm
 obtain ⟨W0,hW0⟩: ∃W0,w.alloc (.cells #[.int .i64 kd,.int .i64 n,.string a,.string b,.slice ap hs.length cp] 57)=W0:=⟨_,rfl⟩
 have b0:Below w.heap.size w W0:=by rw [<-hW0];exact (Below.refl _ _).alloc (Nat.le_refl _) _
 have z0:W0.heap.size=w.heap.size+1:=by rw [<-hW0];simp
 have hO0:W0.heap[w.heap.size]? =some (.cells #[.int .i64 kd,.int .i64 n,.string a,.string b,.slice ap hs.length cp] 57 (0,0)):=by rw [<-hW0];exact heap_alloc_new w _
 have o0:W0.cell? ⟨w.heap.size,0,none⟩=some (.int .i64 kd):=za hO0 rfl
 have o3:W0.cell? ⟨w.heap.size,3,none⟩=some (.string b):=za hO0 rfl
 have o4:W0.cell? ⟨w.heap.size,4,none⟩=some (.slice ap hs.length cp):=za hO0 rfl
 have q1:(kd==1)=false:=by simp [k7]
 have q2:(kd==2)=false:=by simp [k7]
 have q3:(kd==3)=false:=by simp [k7]
 have q4:(kd==4)=false:=by simp [k7]
 have q5:(kd==5)=false:=by simp [k7]
 have q6:(kd==6)=false:=by simp [k7]
 have q7:(kd==7)=true:=by simp [k7]
 clear k7
 have hH0:=(S.on (zs.of_below (base:=base) b0) (fun _ h=>h.elim)).1.now
 have hmain:Hid (∀t:ByteArray,t.size<=4000000000->Calls prog 20 #[.string b,.string t,.int .i64 2] W0 fun e W1=> ∃al cl ck,∃qs:List HI,e= .returned (.tuple #[.agg #[.slice al qs.length cl],.int .i64 ck])/\Below W0.heap.size W0 W1/\
  ∀W2,Below W1.heap.size W1 W2->Calls prog 46 #[.pointer (some ⟨wb,0,none⟩),.string a,.agg #[.slice al qs.length cl],.int .i64 n] W2 fun e w'=>e= .returned (.bool true)/\yh base wb (M+2600000) w w'):=by
  show ∀t:ByteArray,_
  intro t ht
  refine (Zd (a:=b) (b:=t) (c:=2) (w:=W0) h2 ht).mono ?_
  rintro e W1 ⟨al,cl,rfl,hSq,b1⟩
  refine ⟨al,cl,checkB b t 2,diffI b t 2,rfl,b1,fun W2 b2=> ?_⟩
  have z1:=b1.size
  have z2:=b2.size
  have bw:=b0.trans ((b1.mono (by omega)).trans (b2.mono (by omega)))
  have hq:=Xr b t 2
  refine (Ql (s:=a) (fz:=n) (m:=m) (K.old (W':=W2) fun g hg=>bw.block g hg) R (by omega) ((bw.cell (p:=⟨0,0,none⟩) hmlt).trans hm) (by omega) ((hSq.out base).on (zs.of_below (base:=base) b2) (fun _ h=>h.elim)) (jK b t 2) (QJ b t 2) h1).mono ?_
  rintro e w' ⟨rfl,hR⟩
  exact ⟨rfl,hR.pre (zs.of_below (base:=base) bw) (by omega)⟩
 have hLt:Hid (∀h∈hs,∀s∈h.lines,s.text.size<=4000000000):=fun h hh s hs'=>by have:=((hL.2 h hh).2.2.2.2.2 s hs').2;omega
 have hO0H:Hid (W0.heap[w.heap.size]? =some (.cells #[.int .i64 kd,.int .i64 n,.string a,.string b,.slice ap hs.length cp] 57 (0,0))):=hO0
 clear K R S hm hO0 hL
 go_enter func21,ntmps21
 by_cases hn:0<hs.length
 case' neg=>
  have hnI: ¬(0:Int)<hs.length:=by omega
  have hr:=hmain.out ⟨#[]⟩ (by decide)
  clear hmain hLt hH0
  generalize hs.length=HL at *
 case' pos=>
  have hnI:(0:Int)<hs.length:=by omega
  obtain ⟨bb,off,a',c',rfl,hbB,r0,r1,r2,r3,r4,hst⟩:=hH0.at hn
  simp only [Nat.zero_mul,Nat.add_zero] at r4
  by_cases hl:0<hs[0].lines.length
  case' pos=>
   have hlI:(0:Int)<hs[0].lines.length:=by omega
   obtain ⟨b2,off2,rfl,hb2,s0,s1⟩:=hst.at hl
   have hts:=hLt.out _ (List.getElem_mem hn) _ (List.getElem_mem hl)
   simp only [Nat.zero_mul,Nat.add_zero] at s1
   have hr:=hmain.out _ hts
   clear hmain hLt hst r0 r1 r2 r3 s0 hH0
   generalize hs[0].lines[0].text=tx at *
   generalize hs[0].lines.length=LL at *
  case' neg=>
   have hlI: ¬(0:Int)<hs[0].lines.length:=by omega
   have hr:=hmain.out ⟨#[]⟩ (by decide)
   clear hmain hLt hst r0 r1 r2 r3 hH0
   generalize hs[0].lines.length=LL at *
 all_goals
  go_wp2_with fail
  clear hW0
  refine hr.mono ?_
  rintro e W1 ⟨al,cl,ck,qs,rfl,b1,hnext⟩
  have z1:=b1.size
  obtain ⟨W2,hW2⟩: ∃W2,W1.alloc (.cells #[.slice al qs.length cl] 32)=W2:=⟨_,rfl⟩
  have b12:Below W1.heap.size W1 W2:=by rw [<-hW2];exact (Below.refl _ _).alloc (Nat.le_refl _) _
  have hP2:W2.heap[W1.heap.size]? =some (.cells #[.slice al qs.length cl] 32 (0,0)):=by rw [<-hW2];exact heap_alloc_new W1 _
  have p2:W2.cell? ⟨W1.heap.size,0,none⟩=some (.slice al qs.length cl):=za hP2 rfl
  have z2:W2.heap.size=W1.heap.size+1:=by rw [<-hW2];simp
  have hO2:=((b1.trans (b12.mono z1)).block w.heap.size (by omega)).trans hO0H.out
  have t1:W2.cell? ⟨w.heap.size,1,none⟩=some (.int .i64 n):=za hO2 rfl
  have t2:W2.cell? ⟨w.heap.size,2,none⟩=some (.string a):=za hO2 rfl
  have hc:=hnext W2 b12
  clear hnext hr o0 o3 o4 hP2 hO2
  go_wp2_with fail
  clear hW2
  refine hc.mono ?_
  rintro e W3 ⟨rfl,hR⟩
  have hRH:Hid (yh base wb (M+2600000) w W3):=hR
  clear hR hc
  go_wp2_with fail
  go_ret
  exact ⟨by first | rfl | simp,hRH.out⟩
theorem WH {base wb M:Nat} {x:WV} {B:Bk} {w:World} {kd n m:Int} {a b:ByteArray} {ap:Option Addr} {cp:Nat} {hs:List HI} (hk:kd<=7) (K:zC base wb x B w) (R:jc M x B) (hM:M<=590000000000) (hm:w.cell? ⟨0,0,none⟩=some (.int .i64 m)) (hg:yr w) (hbase:base<=w.heap.size) (h6:6<=base)
 (h1:a.size<=4000000000) (h2:b.size<=4000000000) (S:xy base w (.slice ap hs.length cp) hs) (hL:Lim hs) (hT:Xf hs):
 Calls prog 21 #[.pointer (some ⟨wb,0,none⟩),.agg #[.int .i64 kd,.int .i64 n,.string a,.string b,.slice ap hs.length cp]] w fun e w'=>e= .returned (.bool true)/\yh base wb (M+2600000) w w':=by
 by_cases k5:kd<=5
 ·exact DI k5 K R hM hm hg hbase h6 h1 h2 S.1 hL
 by_cases k6:kd=6
 ·exact UL k6 K R hM hm hbase h1 S hL hT
 ·exact Vt (by omega) K R hM hm hbase h1 h2 S hL
abbrev tA:ByteArray:=⟨#[97,10,98,10,99,10,100,10]⟩
abbrev tB:ByteArray:=⟨#[97,10,120,10,99,10,100,10]⟩
theorem Td:checkB tA tB 1=0:=by decide+kernel
def wv0:WV:=⟨.slice none 0 0,.slice none 0 0,.slice none 0 0,.slice none 0 0,.slice none 0 0,.slice none 0 0,.slice none 0 0,.slice none 0 0,0⟩
def bk0:Bk:=⟨[],[],[],[]⟩
theorem zC.start {W:World} {wb:Nat} (h:W.heap[wb]? =some wv0.obj):zC wb wb wv0 bk0 W:=by
 have key: ∀(rowT markT T k:Nat) (pat:Value->List Value),ZJ wb rowT markT T k pat (.slice none 0 0) (.slice none 0 0) [] W:=fun rowT markT T k pat=>
  ⟨World.ownsRow_nil _ _ _ _,World.ownsRow_nil _ _ _ _,fun p hp=>(by cases hp),fun p hp=>(by cases hp)⟩
 exact ⟨h,key _ _ _ _ _,key _ _ _ _ _,key _ _ _ _ _,key _ _ _ _ _,.inl rfl,.inl rfl,Nat.le_refl _⟩
theorem Va {base wb M M':Nat} {w w':World} (h:yh base wb M w w') (hM:M<=620000000000) (hM':M<=M') {w0:World} (F:zs base w0 w (fun _=>False)):
 Calls prog 22 #[.pointer (some ⟨wb,0,none⟩)] w' fun e w''=>e= .returned (.bool true)/\yh base wb M' w0 w'':=by
 obtain ⟨x',B',k1,k2,k3⟩:=h
 refine (DS k1 (by have:=k2.h;omega) (by have:=k2.l;omega) (by have:=k2.s;omega) (by have:=k2.r;omega)).mono ?_
 rintro e w'' ⟨rfl,hb2⟩
 exact ⟨rfl,x',B',k1.old fun g hg=>hb2.block g hg,⟨by have:=k2.c;omega,by have:=k2.h;omega,by have:=k2.l;omega,by have:=k2.s;omega,by have:=k2.r;omega⟩,(F.then k3).thenB hb2⟩
def Qd (w:World) (v:Value) (n:Nat):Prop:=
 (n=0/\ ∃a c,v= .slice a 0 c)\/ ∃b off cap,v= .slice (some ⟨b,off,none⟩) n cap/\b<w.heap.size/\ ∀i,i<n-> ∃(kd nn:Int) (x y:ByteArray) (ap:Option Addr) (cp:Nat) (hs:List HI),w.cell? ⟨b,off+i*5,none⟩=some (.int .i64 kd)/\w.cell? ⟨b,off+i*5+1,none⟩=some (.int .i64 nn)/\
  w.cell? ⟨b,off+i*5+2,none⟩=some (.string x)/\w.cell? ⟨b,off+i*5+3,none⟩=some (.string y)/\w.cell? ⟨b,off+i*5+4,none⟩=some (.slice ap hs.length cp)/\x.size<=4000000000/\y.size<=4000000000/\yH w.heap.size w (.slice ap hs.length cp) hs/\Lim hs/\Xf hs/\ZT w (.slice ap hs.length cp) hs.length
theorem WX {w:World} {aS:Option Addr} {n cs:Nat} {m:Int} (hS:Qd w (.slice aS n cs) n) (hn:n<=200000) (hm:w.cell? ⟨0,0,none⟩=some (.int .i64 m)) (hgp:yr w):
 Calls prog 8 #[.slice aS n cs,.int .i64 7] w fun e w'=>e= .returned (.bool true)/\Below w.heap.size w w':=by
 have hmlt:=World.block_lt_of_cell? _ _ hm
 have h6:=hgp.sz
 have hwb:Hid (∀W,Below w.heap.size w W->W.cell? ⟨0,0,none⟩=some (.int .i64 m)/\yr W):=fun W hb=>⟨(hb.cell (p:=⟨0,0,none⟩) hmlt).trans hm,hgp.next hb⟩
 obtain ⟨W1,hW1⟩: ∃W1,w.alloc (.cells #[.slice none 0 0,.slice none 0 0,.slice none 0 0,.slice none 0 0,.slice none 0 0,.slice none 0 0,.slice none 0 0,.slice none 0 0,.int .i64 0] 55)=W1:=⟨_,rfl⟩
 have b1:Below w.heap.size w W1:=by rw [<-hW1];exact (Below.refl _ _).alloc (Nat.le_refl _) _
 have z1:W1.heap.size=w.heap.size+1:=by rw [<-hW1];simp
 have hk1:W1.heap[w.heap.size]? =some wv0.obj:=by rw [<-hW1];exact heap_alloc_new w _
 have K1:=zC.start hk1
 have hck:=Td
 have hrd:=Zd (a:=tA) (b:=tB) (c:=1) (w:=W1) (by decide) (by decide)
 have hqlim:Lim (diffI tA tB 1)/\Xf (diffI tA tB 1):=⟨jK tA tB 1,QJ tA tB 1⟩
 rw [hck] at hrd
 generalize (diffI tA tB 1)=qs at hrd hqlim
 have hql:Hid (Lim qs/\Xf qs):=hqlim
 clear hgp hqlim
 go_enter func8,ntmps8
 go_wp2_with fail
 clear hW1
 refine hrd.mono ?_
 rintro e W2 ⟨ap,cp,rfl,hSq,b2⟩
 have z2:=b2.size
 obtain ⟨W3,hW3⟩: ∃W3,W2.alloc (.cells #[.slice ap qs.length cp] 32)=W3:=⟨_,rfl⟩
 have b23:Below W2.heap.size W2 W3:=by rw [<-hW3];exact (Below.refl _ _).alloc (Nat.le_refl _) _
 have b3:Below W1.heap.size W1 W3:=b2.trans (b23.mono z2)
 have z3:W3.heap.size=W2.heap.size+1:=by rw [<-hW3];simp
 have hp3:W3.heap[W2.heap.size]? =some (.cells #[.slice ap qs.length cp] 32 (0,0)):=by rw [<-hW3];exact heap_alloc_new W2 _
 have hSp:Hid (xy w.heap.size W3 (.slice ap qs.length cp) qs):=(hSq.out w.heap.size).on (zs.of_below (base:=w.heap.size) b23) (fun _ h=>h.elim)
 have K3:zC w.heap.size w.heap.size wv0 bk0 W3:=K1.old fun g hg=>b3.block g hg
 have F3:zs w.heap.size w W3 (fun _=>False):=zs.of_below (b1.trans (b3.mono (by omega)))
 have hst:Hid (yh w.heap.size w.heap.size 0 w W3):=⟨wv0,bk0,K3,⟨Nat.le_refl _,Nat.le_refl _,Nat.le_refl _,Nat.le_refl _,Nat.le_refl _⟩,F3⟩
 have hsp3:Hid (yh w.heap.size w.heap.size 0 w W3/\xy w.heap.size W3 (.slice ap qs.length cp) qs):=⟨hst.out,hSp.out⟩
 obtain ⟨pb,hpb⟩: ∃pb,W2.heap.size=pb:=⟨_,rfl⟩
 clear hrd K1 hk1 hck hSq hSp hst
 go_wp2_with fail
 rw [hpb] at hp3
 clear hW3 K3 F3 hpb
 go_loopg [8,9] 7 (fun g t8 t9 wk=> ∃k:Nat,g=8-k/\1<=k/\k<=8/\t8= .bool true/\t9= .int .i64 k/\Hid (yh w.heap.size w.heap.size (2600000*(k-1)) w wk/\xy w.heap.size wk (.slice ap qs.length cp) qs)/\wk.heap[pb]? =some (.cells #[.slice ap qs.length cp] 32 (0,0)))
 case atStart=>exact ⟨1,rfl,by omega,by omega,by first | rfl | simp,rfl,hsp3,hp3⟩
 case round=>
  rename World=>wk
  obtain ⟨k,hgk,hk1,hk3,rfl,rfl,hI,hpk⟩:=hrel
  have hG:Hid (_=8-k):=hgk
  clear hgk hsp3 hp3
  have pk:wk.cell? ⟨pb,0,none⟩=some (.slice ap qs.length cp):=za hpk rfl
  have hpbk:pb<wk.heap.size:=(Array.getElem?_eq_some_iff.1 hpk).1
  have hcallH:Hid (∀(A B2:ByteArray) (Wo:World),Below wk.heap.size wk Wo->k<=7->A.size<=4000000000->B2.size<=4000000000->Calls prog 21 #[.pointer (some ⟨w.heap.size,0,none⟩),.agg #[.int .i64 (k:Int),.int .i64 1,.string A,.string B2,.slice ap qs.length cp]] Wo fun e w'=>e= .returned (.bool true)/\Hid (yh w.heap.size w.heap.size (2600000*(k+1-1)) w w'/\xy w.heap.size w' (.slice ap qs.length cp) qs)/\w'.heap[pb]? =some (.cells #[.slice ap qs.length cp] 32 (0,0))):=by
   intro A B2 Wo bo hk hA hB
   obtain ⟨⟨x,B,Kk,Rk,Fk⟩,Sk⟩:=hI.out
   have hbk:=Fk.below (Nat.le_refl _)
   have hzk:=Fk.1
   have zo:=bo.size
   have hbo:=hbk.trans (bo.mono hzk)
   have Fo:=zs.of_below (base:=w.heap.size) bo
   have So:=Sk.on Fo (fun _ h=>h.elim)
   refine (WH (kd:=(k:Int)) (n:=1) (m:=m) (a:=A) (b:=B2) (ap:=ap) (cp:=cp) (hs:=qs) (by omega) (Kk.old (W':=Wo) fun g hg=>bo.block g hg) Rk (by omega) (hwb.out Wo hbo).1 (hwb.out Wo hbo).2 (by omega) h6 hA hB So hql.out.1 hql.out.2).mono ?_
   rintro e w' ⟨rfl,hR⟩
   have hpo:=(bo.block pb hpbk).trans hpk
   obtain ⟨x',B',k1,k2,k3⟩:=hR
   refine ⟨rfl,⟨yh.pre (M:=2600000*(k-1)+2600000) (Fk.then Fo) ⟨x',B',k1,k2,k3⟩ (by omega),So.on k3 (fun _ h=>h.elim)⟩,(k3.at hpo (by decide) (fun h=>h)).trans hpo⟩
  by_cases hk:k<=7
  ·have hkI:(k:Int)<=7:=by omega
   by_cases hk1':k=2
   ·obtain rfl:k=2:=by omega
    obtain ⟨Wo,hWo⟩: ∃Wo,wk.alloc (.cells #[.int .i64 2,.int .i64 1,.string ⟨#[99,97,102,101]⟩,.string ⟨#[99,97,116]⟩,.slice ap qs.length cp] 57)=Wo:=⟨_,rfl⟩
    have bo:Below wk.heap.size wk Wo:=by rw [<-hWo];exact (Below.refl _ _).alloc (Nat.le_refl _) _
    have zo:Wo.heap.size=wk.heap.size+1:=by rw [<-hWo];simp
    have hOo:Wo.heap[wk.heap.size]? =some (.cells #[.int .i64 2,.int .i64 1,.string ⟨#[99,97,102,101]⟩,.string ⟨#[99,97,116]⟩,.slice ap qs.length cp] 57 (0,0)):=by rw [<-hWo];exact heap_alloc_new wk _
    have o0:Wo.cell? ⟨wk.heap.size,0,none⟩=some (.int .i64 2):=za hOo rfl
    have o1:Wo.cell? ⟨wk.heap.size,1,none⟩=some (.int .i64 1):=za hOo rfl
    have o2:Wo.cell? ⟨wk.heap.size,2,none⟩=some (.string ⟨#[99,97,102,101]⟩):=za hOo rfl
    have o3:Wo.cell? ⟨wk.heap.size,3,none⟩=some (.string ⟨#[99,97,116]⟩):=za hOo rfl
    have o4:Wo.cell? ⟨wk.heap.size,4,none⟩=some (.slice ap qs.length cp):=za hOo rfl
    have hcall:=hcallH.out ⟨#[99,97,102,101]⟩ ⟨#[99,97,116]⟩ Wo bo (by decide) (by decide) (by decide)
    clear hI hOo hcallH
    go_wp2_with fail
    clear hWo
    refine hcall.mono ?_
    rintro e W5 ⟨rfl,hR,hpk5⟩
    clear hcall
    go_wp2_with fail
    go_roundg (8-(2+1))
    ·exact ⟨2+1,rfl,by omega,by omega,rfl,by push_cast;rfl,hR,hpk5⟩
    ·have:=hG.out;omega
   ·have hne:((k:Int)==2)=false:=by rw [beq_eq_false_iff_ne];omega
    obtain ⟨Wo,hWo⟩: ∃Wo,wk.alloc (.cells #[.int .i64 (k:Int),.int .i64 1,.string tA,.string tB,.slice ap qs.length cp] 57)=Wo:=⟨_,rfl⟩
    have bo:Below wk.heap.size wk Wo:=by rw [<-hWo];exact (Below.refl _ _).alloc (Nat.le_refl _) _
    have zo:Wo.heap.size=wk.heap.size+1:=by rw [<-hWo];simp
    have hOo:Wo.heap[wk.heap.size]? =some (.cells #[.int .i64 (k:Int),.int .i64 1,.string tA,.string tB,.slice ap qs.length cp] 57 (0,0)):=by rw [<-hWo];exact heap_alloc_new wk _
    have o0:Wo.cell? ⟨wk.heap.size,0,none⟩=some (.int .i64 (k:Int)):=za hOo rfl
    have o1:Wo.cell? ⟨wk.heap.size,1,none⟩=some (.int .i64 1):=za hOo rfl
    have o2:Wo.cell? ⟨wk.heap.size,2,none⟩=some (.string tA):=za hOo rfl
    have o3:Wo.cell? ⟨wk.heap.size,3,none⟩=some (.string tB):=za hOo rfl
    have o4:Wo.cell? ⟨wk.heap.size,4,none⟩=some (.slice ap qs.length cp):=za hOo rfl
    have hcall:=hcallH.out tA tB Wo bo hk (by decide) (by decide)
    clear hI hOo hcallH hk1'
    go_wp2_with fail
    clear hWo
    refine hcall.mono ?_
    rintro e W5 ⟨rfl,hR,hpk5⟩
    clear hcall
    go_wp2_with fail
    go_roundg (8-(k+1))
    ·exact ⟨k+1,rfl,by omega,by omega,rfl,by push_cast;rfl,hR,hpk5⟩
    ·have:=hG.out;omega
  ·obtain rfl:k=8:=by omega
   clear hk pk hcallH
   have hI2:Hid (yh w.heap.size w.heap.size (18200000+2600000*0) w wk):=hI.out.1
   have hSH:Hid (Qd w (.slice aS n cs) n):=hS
   clear hI hpk hpbk hS b1 b2 b3 b23 z1 z2 z3
   go_wp2_with fail
   go_loopg [8,11] n (fun g t8 t11 wq=> ∃i:Nat,g=n-i/\i<=n/\t8= .bool true/\t11= .int .i64 i/\Hid (yh w.heap.size w.heap.size (18200000+2600000*i) w wq))
   case atStart=>exact ⟨0,by omega,by omega,rfl,rfl,hI2⟩
   case round=>
    rename World=>wq
    obtain ⟨i,hgi,hin,rfl,rfl,hI3⟩:=hrel
    have hG2:Hid (_=n-i):=hgi
    clear hgi hI2
    by_cases hi:i<n
    ·have hiI:(i:Int)<n:=by omega
     obtain ⟨x,B,Kq,Rq,Fq⟩:=hI3.out
     have hbq:=Fq.below (Nat.le_refl _)
     have hzq:=Fq.1
     rcases hSH.out with ⟨h0,_⟩ | ⟨b,off,cap,e,hb,hc⟩
     ·omega
     obtain ⟨rfl,rfl⟩:aS=some ⟨b,off,none⟩/\cs=cap:=by cases e;exact ⟨rfl,rfl⟩
     obtain ⟨kd,nn,X,Y,ap2,cp2,hs2,c0,c1,c2,c3,c4,hx,hy,hH,hL,hLT,hCp⟩:=hc i hi
     have d0:=(hbq.cell (p:=⟨b,off+i*5,none⟩) hb).trans c0
     have d1:=(hbq.cell (p:=⟨b,off+i*5+1,none⟩) hb).trans c1
     have d2:=(hbq.cell (p:=⟨b,off+i*5+2,none⟩) hb).trans c2
     have d3:=(hbq.cell (p:=⟨b,off+i*5+3,none⟩) hb).trans c3
     have d4:=(hbq.cell (p:=⟨b,off+i*5+4,none⟩) hb).trans c4
     clear c0 c1 c2 c3 c4 hc e
     by_cases hkd:kd<=7
     ·have hkI: ¬7<kd:=by omega
      have hcall:Hid (Calls prog 21 #[.pointer (some ⟨w.heap.size,0,none⟩),.agg #[.int .i64 kd,.int .i64 nn,.string X,.string Y,.slice ap2 hs2.length cp2]] wq fun e w'=>e= .returned (.bool true)/\(Calls prog 22 #[.pointer (some ⟨w.heap.size,0,none⟩)] w' fun e w''=>e= .returned (.bool true)/\yh w.heap.size w.heap.size (18200000+2600000*(i+1)) w w'')):=by
       have Sq:=(xy.of_low (base:=w.heap.size) hH hCp (Nat.le_refl _) (Nat.le_refl _)).on Fq (fun _ h=>h.elim)
       refine (WH (kd:=kd) (n:=nn) (m:=m) (a:=X) (b:=Y) (ap:=ap2) (cp:=cp2) (hs:=hs2) hkd Kq Rq (by omega) (hwb.out wq hbq).1 (hwb.out wq hbq).2 hzq h6 hx hy Sq hL hLT).mono ?_
       rintro e w' ⟨rfl,hR⟩
       exact ⟨rfl,Va hR (by omega) (by omega) Fq⟩
      clear Kq Rq Fq hI3 hH hL hLT hCp
      go_wp2_with fail
      refine hcall.out.mono ?_
      rintro e W5 ⟨rfl,hst⟩
      clear hcall
      go_wp2_with fail
      refine hst.mono ?_
      rintro e W6 ⟨rfl,hR⟩
      have hRH:Hid _:=hR
      clear hR hst
      go_wp2_with fail
      go_roundg (n-(i+1))
      ·exact ⟨i+1,rfl,by omega,rfl,by push_cast;rfl,hRH⟩
      ·have:=hG2.out;omega
     ·have hkI:7<kd:=by omega
      have hRH:Hid (yh w.heap.size w.heap.size (18200000+2600000*(i+1)) w wq):=⟨x,B,Kq,⟨by have:=Rq.c;omega,by have:=Rq.h;omega,by have:=Rq.l;omega,by have:=Rq.s;omega,by have:=Rq.r;omega⟩,Fq⟩
      clear Kq Rq Fq hI3 hH hL hLT hCp
      go_wp2_with fail
      go_roundg (n-(i+1))
      ·exact ⟨i+1,rfl,by omega,rfl,by push_cast;rfl,hRH⟩
      ·have:=hG2.out;omega
    ·have hiI: ¬((i:Int)<n):=by omega
     obtain ⟨x,B,_,_,Fq⟩:=hI3.out
     have hfin:Hid (Below w.heap.size w wq):=Fq.below (Nat.le_refl _)
     clear Fq hI3
     go_wp2_with fail
     go_ret
     exact ⟨rfl,hfin.out⟩
theorem PA {w:World} {aS:Option Addr} {n cs:Nat} {m:Int} (hS:Qd w (.slice aS n cs) n) (hn:n<=200000) (hm:w.cell? ⟨0,0,none⟩=some (.int .i64 m)) (hgp:yr w):
 Calls prog 5 #[.slice aS n cs] w fun e w'=>e= .returned (.bool true)/\Below w.heap.size w w':=by
 have hp:=WX hS hn hm hgp
 go_enter func5,ntmps5
 go_wp2_with fail
 refine hp.mono ?_
 rintro e w' ⟨rfl,hb⟩
 go_wp2_with fail
 go_ret
 exact ⟨rfl,hb⟩
def Fd (d:DataW Unit):List Value:=match d with
 | .lit (.int k n)=> [.int k n]
 | _=> []
def Yu (d:DataW Unit):List Value:=match d with
 | .agg l=>l.flatMap fun x=>match x with
   | .agg m=>m.flatMap Fd
   | y=>Fd y
 | _=> []
abbrev Sl:ByteArray:= { data:= #[105,110,118,97,108,105,100,32,115,121,110,116,97,120] }
abbrev Sr:ByteArray:= { data:= #[118,97,108,117,101,32,111,117,116,32,111,102,32,114,97,110,103,101] }
def GS:Input:=⟨#[.cells #[.string Sl] 240,.cells #[.string Sr] 240],#[],[]⟩
def jW (w0:World):World:=
 let put (h:Array Obj) (g:Nat) (cs:Array Value):Array Obj:=h.modify g fun
  | .cells _ t frozen=> .cells cs t frozen
  | o=>o
 let h1:=put w0.heap 1 (Lib.firstTab.map fun z=>Value.int .u8 z).toArray
 let h2:=put h1 2 (Yu Rows.laid_unicode_utf8_acceptRanges).toArray
 let h3:=put h2 3 (Yu Rows.laid_internal_strconv_uint64pow10).toArray
 let h4:=put h3 4 #[.iface 238 (.pointer (some ⟨w0.heap.size-2,0,none⟩))]
 let h5:=put h4 5 #[.iface 238 (.pointer (some ⟨w0.heap.size-1,0,none⟩))]
 let h6:=put h5 6 (Yu Rows.laid_math_bits_deBruijn32tab).toArray
 let h7:=put h6 7 (Yu Rows.laid_math_bits_deBruijn64tab).toArray
 { w0 with heap:=h7 }
theorem EH (os:Os) (args:Array Value):laidMetH prog Rows.strictRow.laid ((jW (World.holding prog os GS)).forCall (fun _ _=>0) ⟨#[],args,[]⟩).memory:=
 laidMetH_of_parts (laidMet_of_run' 8 (by kernel_rfl) (by kernel_rfl)) (by kernel_rfl)
theorem Sn:ownKnob prog.godebug=none:=by kernel_rfl
theorem Kn {W:World} (h:W.ShapedOpen prog): ∃m,W.cell? ⟨0,0,none⟩=some (.int .i64 m):=
 cell_of_shapedOpen_int (P:=prog) (g:=0) (t:=3) (zero:= #[.int .i64 0]) h (of_decide_eq_true (by kernel_rfl)) (by kernel_rfl) rfl (by kernel_rfl) (by kernel_rfl) underlying3
theorem YH {w:World} {a:Addr} {v:Value} (h:w.cell? a=some v):a.block<w.heap.size:=by
 by_cases hb:a.block<w.heap.size
 ·exact hb
 ·unfold World.cell? at h
  rw [Array.getElem?_eq_none (by omega)] at h
  cases h
theorem kg {n:Int} (h:(Lit.int .i64 n).wf=true): -9223372036854775808<=n/\n<=9223372036854775807:=by
 simp only [Lit.wf,Bool.and_eq_true,decide_eq_true_eq] at h
 exact ⟨h.1,h.2⟩
end Go.Proofs.YtcclgodahlinbaaGreatDoor
