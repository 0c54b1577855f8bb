import Derived.Test.YtcclgodahlinbaaGreatDoorA05
namespace Go.Proofs.YtcclgodahlinbaaGreatDoor
set_option maxHeartbeats 16000000
open Tryz Go.RowKit Go
set_option maxRecDepth 100000
def nl:ByteArray:=⟨#[10]⟩
def yd (s:ByteArray):Bool:=s.toList.isEmpty || Lib.hasSuffix s.data.toList [10]
def yb (s:ByteArray):Bool:=decide (8000<s.size) || decide (200<Lib.countByte s.data.toList 10)
def trimB (s:ByteArray):ByteArray:=⟨(Lib.trimSuffix s.data.toList [10]).toArray⟩
def linesB (s:ByteArray):List ByteArray:=if s.toList.isEmpty=true then [] else Lib.splitB nl 0 (Lib.countB (trimB s) nl) (trimB s)
theorem EQ {a b:Bool} (h:a=b):Ending.returned (.bool a)= .returned (.bool b):=by rw [h]
theorem Yk (s:ByteArray) (w:World) (hs:s.size<4294967281):
 Calls prog 47 #[.string s] w fun e w'=>e= .returned (.bool (yd s))/\w=w':=by
 unfold yd
 by_cases h0:s.toList.isEmpty=true
 ·rw [h0]
  go_enter func47,ntmps47
  go_wp2
  go_ret
  exact ⟨rfl,rfl⟩
 ·replace h0:s.toList.isEmpty=false:=by simpa using h0
  rw [h0]
  have hc:=Tryz.strings_HasSuffix s ⟨#[10]⟩ w (by omega)
  have hc':=hc.mono (R':=fun e w'=>e= .returned (.bool (Lib.hasSuffix s.data.toList [10]))/\w=w') (fun _ _ h=>⟨h.1,h.2.symm⟩)
  clear hc
  generalize Lib.hasSuffix s.data.toList [10]=B at hc' ⊢
  go_enter func47,ntmps47
  go_wp2_with (go_at_call 94;refine hc'.mono ?_;rintro e w' ⟨rfl,rfl⟩)
  go_ret
  exact ⟨rfl,rfl⟩
theorem kx (s:ByteArray) (w:World) (hs:s.size<4294967281):
 Calls prog 48 #[.string s] w fun e w'=>e= .returned (.bool (yb s))/\w=w':=by
 unfold yb
 by_cases h0:8000<s.size
 ·have h1:(8000:Int)<s.size:=by omega
  rw [decide_eq_true h0]
  go_enter func48,ntmps48
  go_wp2
  go_ret
  exact ⟨rfl,rfl⟩
 ·have h1: ¬((8000:Int)<s.size):=by omega
  rw [decide_eq_false h0]
  have hc:=Tryz.strings_Count_one s 10 w
  have hc':=hc.mono (R':=fun e w'=>e= .returned (.int .i64 (Lib.countByte s.data.toList 10))/\w=w') (fun _ _ h=>⟨h.1,h.2.symm⟩)
  clear hc h0
  have hle:Lib.countByte s.data.toList 10<=8000:=by
   have:Lib.countByte s.data.toList 10<=s.data.toList.length:=List.count_le_length
   have e:s.data.toList.length=s.size:=rfl
   omega
  generalize Lib.countByte s.data.toList 10=N at hc' hle ⊢
  go_enter func48,ntmps48
  go_wp2_with (go_at_call 95;refine hc'.mono ?_;rintro e w' ⟨rfl,rfl⟩)
  go_ret
  exact ⟨EQ (by simp;omega),rfl⟩
def checkB (old fresh:ByteArray) (c:Int):Int:=
 if yd old=false\/yd fresh=false then 2 else if yb old=true\/yb fresh=true then 1 else if c<0\/10<c then 3 else 0
theorem ZL (old fresh:ByteArray) (c:Int) (w:World) (h1:old.size<4294967281) (h2:fresh.size<4294967281):
 Calls prog 24 #[.string old,.string fresh,.int .i64 c] w fun e w'=>e= .returned (.int .i64 (checkB old fresh c))/\w=w':=by
 have i1:=Yk old w h1
 have i2:=Yk fresh w h2
 have l1:=kx old w h1
 have l2:=kx fresh w h2
 unfold checkB
 cases a:yd old with
 | false=>
   rw [a] at i1
   rw [if_pos (.inl rfl)]
   go_enter func24,ntmps24
   go_wp2_with (go_at_call 47;refine i1.mono ?_;rintro e w' ⟨rfl,rfl⟩)
   go_ret
   exact ⟨rfl,rfl⟩
 | true=>
   rw [a] at i1
   cases b:yd fresh with
   | false=>
     rw [b] at i2
     rw [if_pos (.inr rfl)]
     go_enter func24,ntmps24
     go_wp2_with (first | (go_at_call 47;refine i1.mono ?_;clear i1;rintro e w' ⟨rfl,rfl⟩) | (go_at_call 47;refine i2.mono ?_;rintro e w' ⟨rfl,rfl⟩))
     go_ret
     exact ⟨rfl,rfl⟩
   | true=>
     rw [b] at i2
     rw [if_neg (by simp)]
     cases p:yb old with
     | true=>
       rw [p] at l1
       rw [if_pos (.inl rfl)]
       go_enter func24,ntmps24
       go_wp2_with (first | (go_at_call 47;refine i1.mono ?_;clear i1;rintro e w' ⟨rfl,rfl⟩) | (go_at_call 47;refine i2.mono ?_;rintro e w' ⟨rfl,rfl⟩) | (go_at_call 48;refine l1.mono ?_;rintro e w' ⟨rfl,rfl⟩))
       go_ret
       exact ⟨rfl,rfl⟩
     | false=>
       rw [p] at l1
       cases q:yb fresh with
       | true=>
         rw [q] at l2
         rw [if_pos (.inr rfl)]
         go_enter func24,ntmps24
         go_wp2_with (first | (go_at_call 47;refine i1.mono ?_;clear i1;rintro e w' ⟨rfl,rfl⟩) | (go_at_call 47;refine i2.mono ?_;rintro e w' ⟨rfl,rfl⟩) | (go_at_call 48;refine l1.mono ?_;clear l1;rintro e w' ⟨rfl,rfl⟩) | (go_at_call 48;refine l2.mono ?_;rintro e w' ⟨rfl,rfl⟩))
         go_ret
         exact ⟨rfl,rfl⟩
       | false=>
         rw [q] at l2
         rw [if_neg (by simp)]
         by_cases c0:c<0
         ·rw [if_pos (.inl c0)]
          go_enter func24,ntmps24
          go_wp2_with (first | (go_at_call 47;refine i1.mono ?_;clear i1;rintro e w' ⟨rfl,rfl⟩) | (go_at_call 47;refine i2.mono ?_;rintro e w' ⟨rfl,rfl⟩) | (go_at_call 48;refine l1.mono ?_;clear l1;rintro e w' ⟨rfl,rfl⟩) | (go_at_call 48;refine l2.mono ?_;rintro e w' ⟨rfl,rfl⟩))
          go_ret
          exact ⟨rfl,rfl⟩
         ·by_cases c1:10<c
          ·rw [if_pos (.inr c1)]
           go_enter func24,ntmps24
           go_wp2_with (first | (go_at_call 47;refine i1.mono ?_;clear i1;rintro e w' ⟨rfl,rfl⟩) | (go_at_call 47;refine i2.mono ?_;rintro e w' ⟨rfl,rfl⟩) | (go_at_call 48;refine l1.mono ?_;clear l1;rintro e w' ⟨rfl,rfl⟩) | (go_at_call 48;refine l2.mono ?_;rintro e w' ⟨rfl,rfl⟩))
           go_ret
           exact ⟨rfl,rfl⟩
          ·rw [if_neg (by simp [c0,c1])]
           go_enter func24,ntmps24
           go_wp2_with (first | (go_at_call 47;refine i1.mono ?_;clear i1;rintro e w' ⟨rfl,rfl⟩) | (go_at_call 47;refine i2.mono ?_;rintro e w' ⟨rfl,rfl⟩) | (go_at_call 48;refine l1.mono ?_;clear l1;rintro e w' ⟨rfl,rfl⟩) | (go_at_call 48;refine l2.mono ?_;rintro e w' ⟨rfl,rfl⟩))
           go_ret
           exact ⟨rfl,rfl⟩
theorem XR (w:World):Calls prog 26 #[.string ByteArray.empty] w fun e w'=>e= .returned (.slice none 0 0)/\w=w':=by
 go_enter func26,ntmps26
 go_wp2
 go_ret
 exact ⟨rfl,rfl⟩
theorem Yz (s:ByteArray) (m:Int) (w:World) (hs:s.size<4294967281) (h0:s.toList.isEmpty=false) (hm:w.cell? ⟨0,0,none⟩=some (.int .i64 m)):
 Calls prog 26 #[.string s] w fun e w'=>e= .returned (.slice (some ⟨w.heap.size,0,none⟩) (Lib.countB (trimB s) nl+1) (Lib.countB (trimB s) nl+1))/\w.alloc (.cells ((linesB s).map Value.string).toArray 9)=w':=by
 have ht:(trimB s).size<=s.size:=by
  have e:(trimB s).size=(Lib.trimSuffix s.data.toList [10]).length:=by unfold trimB;rfl
  rw [e]
  unfold Lib.trimSuffix
  split
  ·have:s.data.toList.length=s.size:=rfl
   rw [List.length_take];omega
  ·exact Nat.le_refl _
 have hc:=Tryz.strings_TrimSuffix s ⟨#[10]⟩ w (by omega)
 have hc':=hc.mono (R':=fun e w'=>e= .returned (.string (trimB s))/\w=w') (fun _ _ h=>⟨h.1,h.2.symm⟩)
 have hd:=Tryz.strings_Split (trimB s) ⟨#[10]⟩ m w (by omega) hm (by decide)
 have hl:linesB s=Lib.splitB nl 0 (Lib.countB (trimB s) nl) (trimB s):=by unfold linesB;rw [h0];simp
 have hd':=hd.mono (R':=fun e w'=>e= .returned (.slice (some ⟨w.heap.size,0,none⟩) (Lib.countB (trimB s) nl+1) (Lib.countB (trimB s) nl+1))/\w.alloc (.cells ((linesB s).map Value.string).toArray 9)=w') (fun _ _ h=>⟨h.1,by rw [h.2,hl];rfl⟩)
 clear hc hd hl ht
 generalize Lib.countB (trimB s) nl=N at hd' ⊢
 generalize linesB s=L at hd' ⊢
 generalize trimB s=t at hc' hd'
 go_enter func26,ntmps26
 go_wp2_with (first | (go_at_call 55;refine hc'.mono ?_;rintro e w' ⟨rfl,rfl⟩) | (go_at_call 54;refine hd'.mono ?_;rintro e w' ⟨rfl,rfl⟩))
 go_ret
 exact ⟨rfl,rfl⟩
theorem jE (s:ByteArray) (h0:s.toList.isEmpty=false):(linesB s).length=Lib.countB (trimB s) nl+1:=by
 unfold linesB
 rw [h0]
 exact Lib.splitB_all nl (by decide) 0 _ _ rfl
theorem kE {s:ByteArray} (h:s.toList.isEmpty=true):s=ByteArray.empty:=by
 apply ByteArray.ext
 apply Array.toList_inj.1
 have:s.toList= []:=by simpa using h
 rw [ByteArray.toList_eq] at this
 rw [this];rfl
theorem Xy (s:ByteArray) (m:Int) (w:World) (hs:s.size<4294967281) (hm:w.cell? ⟨0,0,none⟩=some (.int .i64 m)):
 Calls prog 26 #[.string s] w fun e w'=> ∃a cap,e= .returned (.slice a (linesB s).length cap)/\qa w'.heap.size w' (.slice a (linesB s).length cap) (linesB s)/\Below w.heap.size w w':=by
 by_cases h0:s.toList.isEmpty=true
 ·have hl:linesB s= []:=by unfold linesB;rw [if_pos h0]
  rw [hl]
  have:=kE h0
  subst this
  refine (XR w).mono ?_
  rintro e w' ⟨rfl,rfl⟩
  exact ⟨none,0,rfl,.inl ⟨rfl,none,0,rfl⟩,Below.refl _ _⟩
 ·replace h0:s.toList.isEmpty=false:=by simpa using h0
  have hl:=jE s h0
  refine (Yz s m w hs h0 hm).mono ?_
  rintro e w' ⟨rfl,rfl⟩
  refine ⟨_,_,by rw [hl],.inr ⟨w.heap.size,0,_,rfl,by simp,fun i hi=> ?_⟩,(Below.refl _ _).alloc (Nat.le_refl _) _⟩
  refine za (t:=9) (fr:=(0,0)) (heap_alloc_new w _) ?_
  simp [hi,List.getD]
def zJ (B:Nat) (w:World) (v:Value) (L:List zk):Prop:=
 (L= []/\ ∃a c,v= .slice a 0 c)\/ ∃b cap,v= .slice (some ⟨b,0,none⟩) L.length cap/\b<B/\
  ∀i (h:i<L.length),w.cell? ⟨b,i*2,none⟩=some (.int .u8 (L[i].kind:Nat))/\w.cell? ⟨b,i*2+1,none⟩=some (.string L[i].text)
theorem zJ.of_owns {base:Nat} {w:World} {v:Value} {L:List zk} (h:w.ownsRow base 120 2 v L.length (zg L)):zJ w.heap.size w v L:=by
 by_cases h0:L.length=0
 ·have:L= []:=List.eq_nil_of_length_eq_zero h0
  subst this
  rcases h.2 with ⟨e,_⟩ | ⟨g,cap,cur,e,_⟩
  ·exact .inl ⟨rfl,_,_,e⟩
  ·exact .inl ⟨rfl,_,_,e⟩
 ·obtain ⟨g,cap,rfl,_,hg,_⟩:=zv h (by omega)
  exact .inr ⟨g,cap,rfl,hg,fun i hi=>Xl h hi⟩
theorem zJ.below {B:Nat} {w w':World} {v:Value} {L:List zk} (h:zJ B w v L) (hb:Below B w w'):zJ B w' v L:=by
 rcases h with h | ⟨b,cap,e,hB,hc⟩
 ·exact .inl h
 ·exact .inr ⟨b,cap,e,hB,fun i hi=>⟨(hb.cell (p:=⟨b,i*2,none⟩) hB).trans (hc i hi).1,(hb.cell (p:=⟨b,i*2+1,none⟩) hB).trans (hc i hi).2⟩⟩
theorem zJ.slice {B:Nat} {w:World} {v:Value} {L:List zk} (h:zJ B w v L): ∃a cap,v= .slice a L.length cap:=by
 rcases h with ⟨rfl,a,c,rfl⟩ | ⟨b,cap,rfl,_⟩
 ·exact ⟨a,c,rfl⟩
 ·exact ⟨_,_,rfl⟩
theorem zJ.at {B n cap:Nat} {w:World} {a:Option Addr} {L:List zk} (h:zJ B w (.slice a n cap) L) {i:Nat} (hi:i<L.length):
 ∃b,a=some ⟨b,0,none⟩/\b<B/\w.cell? ⟨b,i*2,none⟩=some (.int .u8 (L[i].kind:Nat))/\w.cell? ⟨b,i*2+1,none⟩=some (.string L[i].text):=by
 rcases h with ⟨rfl,_⟩ | ⟨b,cap,e,hb,hc⟩
 ·simp at hi
 ·cases e;exact ⟨b,rfl,hb,hc i hi⟩
def XD (L:List zk) (c k j:Nat):Bool:=(L.take k).zipIdx.any fun s=>s.1.kind !=32 && decide (s.2<=j+c) && decide (j<=s.2+c)
def kU (L:List zk) (c:Nat):List Bool:=(List.range L.length).map (XD L c L.length)
theorem Qu (L:List zk) (c k j:Nat) (hk:k<L.length):XD L c (k+1) j=(XD L c k j || (L[k].kind !=32 && decide (k<=j+c) && decide (j<=k+c))):=by
 unfold XD
 rw [List.take_succ_eq_append_getElem hk,List.zipIdx_append,List.any_append]
 simp [Nat.min_eq_left (Nat.le_of_lt hk)]
def Near (L:List zk) (c k:Nat) (bs:List Bool):Prop:=bs.length=L.length/\ ∀j,j<L.length->bs.getD j false=XD L c k j
theorem Ww {L:List zk} {c:Nat} {bs:List Bool} (h:Near L c L.length bs):bs=kU L c:=by
 apply List.ext_getElem
 ·simp [kU,h.1]
 ·intro i h1 h2
  have:=h.2 i (by rw [<-h.1];exact h1)
  simp [List.getD,h1] at this
  simp [kU,this]
theorem Ko {L:List zk} {c k:Nat} {bs:List Bool} (h:Near L c k bs) (hk:k<L.length) (h32:L[k].kind=32):Near L c (k+1) bs:=
 ⟨h.1,fun j hj=>by rw [h.2 j hj,Qu L c k j hk,h32];simp⟩
def qB (L:List zk) (c k i:Nat) (bs:List Bool):Prop:=bs.length=L.length/\ ∀j,j<L.length->bs.getD j false=(XD L c k j || (decide (k<=j+c) && decide (j<i)))
theorem XS {L:List zk} {c k:Nat} {bs:List Bool} (h:Near L c k bs):qB L c k (k-c) bs:=
 ⟨h.1,fun j hj=>by
  rw [h.2 j hj]
  have:(decide (k<=j+c) && decide (j<k-c))=false:=by simp<;>omega
  rw [this,Bool.or_false]⟩
theorem QU {L:List zk} {c k i:Nat} {bs:List Bool} (h:qB L c k i bs) (hi:i<L.length) (hk:k<=i+c):qB L c k (i+1) (bs.set i true):=by
 refine ⟨by simp [h.1],fun j hj=> ?_⟩
 by_cases e:i=j
 ·subst e
  have:(decide (k<=i+c) && decide (i<i+1))=true:=by simp [hk]
  rw [this];simp [List.getD,h.1,hi]
 ·have e1:(bs.set i true).getD j false=bs.getD j false:=by simp [List.getD,e]
  rw [e1,h.2 j hj]
  have:decide (j<i+1)=decide (j<i):=by
   rw [decide_eq_decide];omega
  rw [this]
theorem Kl {L:List zk} {c k i:Nat} {bs:List Bool} (h:qB L c k i bs) (hk:k<L.length) (h32:L[k].kind≠32) (hi:k+c<i\/L.length<=i) (hi2:i<=k+c+1):Near L c (k+1) bs:=by
 refine ⟨h.1,fun j hj=> ?_⟩
 rw [h.2 j hj,Qu L c k j hk]
 have e1:(L[k].kind !=32)=true:=by simpa using h32
 have e2:decide (j<i)=decide (j<=k+c):=by rw [decide_eq_decide];omega
 rw [e1,e2,Bool.true_and]
theorem Ka:(prog.info? 4).map (fun i=>(i.zero,i.size,i.bytes))=some (some (.bool false),1,1):=by kernel_rfl
def zY (l:List Bool):List Value:=l.map fun b=> .bool b
theorem jJ {w:World} {base n cap g:Nat} {l:List Bool} (h:w.ownsRow base 4 1 (.slice (some ⟨g,0,none⟩) n cap) n (zY l)) {i:Nat} (hi:i<l.length):
 w.cell? ⟨g,i,none⟩=some (.bool (l.getD i false)):=by
 obtain ⟨hl,hr⟩:=h
 rcases hr with ⟨e,_⟩ | ⟨g',cap',cur,e,hb,hg,h1,h2,h3,h4⟩
 ·cases e
 ·cases e
  have a:(zY l)[i]? =some (.bool (l.getD i false)):=by simp [zY,List.getD,hi]
  rw [<-h4,List.getElem?_take] at a
  split at a
  ·exact za hg (by simpa using a)
  ·cases a
theorem Yy {w:World} {base n cap g:Nat} {l:List Bool} (h:w.ownsRow base 4 1 (.slice (some ⟨g,0,none⟩) n cap) n (zY l)) (i:Nat) (b:Bool):
 (w.setCell ⟨g,i,none⟩ (.bool b)).ownsRow base 4 1 (.slice (some ⟨g,0,none⟩) n cap) n (zY (l.set i b)):=by
 obtain ⟨hl,hr⟩:=h
 rcases hr with ⟨e,_⟩ | ⟨g',cap',cur,e,hb,hg,h1,h2,h3,h4⟩
 ·cases e
 ·cases e
  refine ⟨by simpa [zY] using hl,.inr ⟨g,cap,_,rfl,hb,zb _ _ _ _ _ _ _ hg,h1,h2,by simpa using h3,?_⟩⟩
  have:zY (l.set i b)=(zY l).set i (.bool b):=by simp [zY,List.map_set]
  rw [this,<-h4]
  simp [List.take_set]
theorem Dv {cap:Nat} {a:Option Addr} {L:List zk} {w:World} (c:Nat) (hS:zJ w.heap.size w (.slice a L.length cap) L) (hc:c<=10) (hL:L.length<=1000):
 Calls prog 56 #[.slice a L.length cap,.int .i64 c] w fun e w'=>
  e= .returned (.slice (some ⟨w.heap.size,0,none⟩) L.length L.length)/\w'.ownsRow w.heap.size 4 1 (.slice (some ⟨w.heap.size,0,none⟩) L.length L.length) L.length (zY (kU L c))/\Below w.heap.size w w':=by
 have hmk:=fun w=>run_make_row' (P:=prog) 97 4 (.bool false) 1 underlying97 Ka rfl .i64 .i64 L.length (by omega) (by omega) w
 have hstart:(w.alloc (.cells (madeCells #[.bool false] L.length) 4)).ownsRow w.heap.size 4 1 (.slice (some ⟨w.heap.size,0,none⟩) L.length L.length) L.length (zY (List.replicate L.length false)):=
  ⟨by simp [zY],.inr ⟨_,_,_,rfl,Nat.le_refl _,heap_alloc_new w _,Nat.le_refl _,by unfold maxLen;omega,by rw [yD];simp,by rw [yD];simp [zY]⟩⟩
 have hb0:Below w.heap.size w (w.alloc (.cells (madeCells #[.bool false] L.length) 4)):=(Below.refl _ _).alloc (Nat.le_refl _) _
 have hn0:Near L c 0 (List.replicate L.length false):=⟨by simp,fun j hj=>by simp [XD,List.getD,hj]⟩
 go_enter func56,ntmps56
 go_wp2
 go_loopg [14] L.length (fun g t wr=> ∃(k:Nat) (bs:List Bool),g=L.length-k/\k<=L.length/\t= .int .i64 k/\Near L c k bs/\wr.ownsRow w.heap.size 4 1 (.slice (some ⟨w.heap.size,0,none⟩) L.length L.length) L.length (zY bs)/\Below w.heap.size w wr)
 case atStart=>exact ⟨0,_,by omega,by omega,rfl,hn0,hstart,hb0⟩
 case round=>
  obtain ⟨k,bs,hgk,hkl,rfl,hnear,hrow,hbel⟩:=hrel
  have hA:Hid (gk=L.length-k/\Near L c k bs):=⟨hgk,hnear⟩
  clear hgk hnear hn0 hmk hstart hb0
  by_cases hlt:k<L.length
  ·have hltI:(k:Int)<L.length:=by omega
   obtain ⟨b,rfl,hbB,q0,q1⟩:=(hS.below hbel).at hlt
   have hsz:=hbel.size
   by_cases h32:L[k].kind=32
   ·rw [h32] at q0
    have q0':wr.cell? ⟨b,k*2,none⟩=some (.int .u8 32):=q0
    have hn2:Hid (Near L c (k+1) bs):=Ko hA.out.2 hlt h32
    clear q0 h32 hS
    generalize L[k].text=T at q1
    go_wp2
    go_roundg (L.length-(k+1))
    case measure=>have:=hA.out.1;omega
    case rel=>exact ⟨k+1,bs,rfl,by omega,by go_num,hn2,hrow.alloc _,hbel.alloc hsz _⟩
   ·have hne:(((L[k].kind:Nat):Int)==32)=false:=by rw [beq_eq_false_iff_ne];omega
    have h32':Hid (L[k].kind≠32):=h32
    clear h32
    have hI0:Hid (qB L c k (k-c) bs):=XS hA.out.2
    have hmax:max ((k:Int)-c) 0=((k-c:Nat):Int):=by omega
    have hQ:Hid (∀bs',qB L c k (k+c+1) bs'->True):=fun _ _=>trivial
    clear hQ
    have hS':=hS
    clear hS
    have hend:Hid (∀i bs',qB L c k i bs'->(k+c<i\/L.length<=i)->i<=k+c+1->Near L c (k+1) bs'):=fun i bs' h1 h2 h3=>Kl h1 hlt h32'.out h2 h3
    generalize L[k].kind=KK at q0 hne
    generalize L[k].text=T at q1
    go_wp2
    have hrow1:=hrow.alloc (.cells #[.int .u8 (KK:Int),.string T] 120)
    have hbel1:=hbel.alloc hsz (.cells #[.int .u8 (KK:Int),.string T] 120)
    generalize wr.alloc (.cells #[.int .u8 (KK:Int),.string T] 120)=wa at hrow1 hbel1 ⊢
    clear q0 q1 hrow hbel
    go_loopg [8] (L.length+20-(k-c)) (fun g t wi=> ∃(i:Nat) (bs':List Bool),g+i=L.length+20/\k-c<=i/\i<=k+c+1/\t= .int .i64 i/\qB L c k i bs'/\wi.ownsRow w.heap.size 4 1 (.slice (some ⟨w.heap.size,0,none⟩) L.length L.length) L.length (zY bs')/\Below w.heap.size w wi)
    case atStart=>exact ⟨k-c,bs,by omega,by omega,by omega,rfl,hI0.out,hrow1,hbel1⟩
    case round=>
     obtain ⟨i,bs',hgi,hi1,hi2,rfl,hI,hrow2,hbel2⟩:=hrel
     have hI':Hid (qB L c k i bs'):=hI
     clear hI hrow1 hbel1 hI0
     have hfz:=qK hrow2
     by_cases hin:i<=k+c/\i<L.length
     ·have t1:(i:Int)<=(k:Int)+c:=by omega
      have t2:(i:Int)<L.length:=by omega
      have hlb:bs'.length=L.length:=hI'.out.1
      have hcell:=jJ hrow2 (i:=i) (by omega)
      generalize bs'.getD i false=bb at hcell
      clear hlb
      have hn2:Hid (qB L c k (i+1) (bs'.set i true)):=QU hI'.out hin.2 (by omega)
      have hr3:=Yy hrow2 i true
      have hb3:=hbel2.setCell (p:=⟨w.heap.size,i,none⟩) (Nat.le_refl _) (.bool true)
      have hgi':Hid (gk+i=L.length+20-(k-c)+(k-c)):=by unfold Hid;omega
      have hin2:Hid (i<=k+c/\i<L.length):=hin
      clear hin hgi
      go_wp2
      go_roundg (gk-1)
      case measure=>have:=hgi'.out;have:=hin2.out;omega
      case rel=>exact ⟨i+1,bs'.set i true,by have:=hgi'.out;have:=hin2.out;omega,by omega,by have:=hin2.out;omega,by go_num,hn2,hr3,hb3⟩
     ·have hn2:Hid (Near L c (k+1) bs'):=hend.out i bs' hI'.out (by omega) hi2
      by_cases t1:(i:Int)<=(k:Int)+c
      ·have t2: ¬((i:Int)<L.length):=by omega
       clear hin
       go_wp2
       go_roundg (L.length-(k+1))
       case measure=>have:=hA.out.1;omega
       case rel=>exact ⟨k+1,bs',rfl,by omega,by go_num,hn2,hrow2,hbel2⟩
      ·clear hin
       go_wp2
       go_roundg (L.length-(k+1))
       case measure=>have:=hA.out.1;omega
       case rel=>exact ⟨k+1,bs',rfl,by omega,by go_num,hn2,hrow2,hbel2⟩
  ·have hltI: ¬((k:Int)<L.length):=by omega
   have hkn:k=L.length:=by omega
   have hfin:bs=kU L c:=Ww (by rw [hkn] at hA;exact hA.out.2)
   subst hfin
   clear hkn
   go_wp2
   go_ret
   exact ⟨rfl,hrow,hbel⟩
theorem Km {P:Program} {ops:Array Oper} {o:Oper} {a:Act} {w:World} {K:Act->World->Prop} {Q:Exit->Act->World->Prop} {E:Prop}
 (hg:o.guard=none) (f:FuncId) (xs:Array Operand) (ts:Array TypeId) (hop:o.op=Op.call { callee:=Callee.value (.func f),args:=xs,argTypes:=ts })
 (args:Array Value) (ha:xs.map a.eval=args) (hrun:(callFunc f args).run P w= .ok (.enter f args) w) (R:Value->World->Prop)
 (hc:Calls P f args w fun e w'=> ∃v,e= .returned v/\R v w') (hK: ∀v w',R v w'->K (a.put o.dst v) w'):
 if Region.wanted o (yielded ops a.tmps)=true then Oper.wp P o a w K Q else E:=by
 have hw:Region.wanted o (yielded ops a.tmps)=true:=by simp [Region.wanted,hg]
 rw [if_pos hw]
 unfold Oper.wp
 have e:(execOp a.eval o).run P w= .ok (.enter f args) w:=by
  simp [execOp,hop,resolve,invoke,Act.eval,Deferred.ofValue,ha,hrun]
 rw [e]
 refine hc.mono ?_
 rintro e w' ⟨v,rfl,hR⟩
 exact hK v w' hR
theorem Fw (s:ByteArray) (w:World):(callFunc 79 #[.string s]).run prog w= .ok (.enter 79 #[.string s]) w:=by kernel_rfl
theorem Xo (s:ByteArray) (w:World) (hs:s.size<=281474976710656):Calls prog 79 #[.string s] w fun e w'=>e= .returned (.string s)/\Below w.heap.size w w':=by
 have hc:=Tryz.stringslite_Clone s w hs
 go_enter func79,ntmps79
 go_wp2_with (go_at_call 112;refine hc.mono ?_;rintro e w' ⟨rfl,hb⟩)
 go_ret
 exact ⟨rfl,hb⟩
structure zx where
 fr:Nat
 fc:Nat
 tr:Nat
 tc:Nat
 lines:List zk
abbrev HV:=zx×Value
def xo (p:HV):List Value:= [.int .i64 (p.1.fr:Nat),.int .i64 (p.1.fc:Nat),.int .i64 (p.1.tr:Nat),.int .i64 (p.1.tc:Nat),p.2]
def hunkCells (l:List HV):List Value:=l.flatMap xo
theorem jI (a b:List HV):hunkCells (a++b)=hunkCells a++hunkCells b:=by simp [hunkCells]
theorem Xs (l:List HV):(hunkCells l).length=l.length*5:=by
 induction l with
 | nil=>rfl
 | cons s l ih=>show (xo s++hunkCells l).length=_;rw [List.length_append,ih];simp [xo];omega
theorem yQ (l:List HV): ∀(i:Nat) (h:i<l.length),(hunkCells l)[i*5]? =some (.int .i64 (l[i].1.fr:Nat))/\(hunkCells l)[i*5+1]? =some (.int .i64 (l[i].1.fc:Nat))/\
 (hunkCells l)[i*5+2]? =some (.int .i64 (l[i].1.tr:Nat))/\(hunkCells l)[i*5+3]? =some (.int .i64 (l[i].1.tc:Nat))/\(hunkCells l)[i*5+4]? =some l[i].2:=by
 induction l with
 | nil=>intro i h;simp at h
 | cons s l ih=>
   intro i h
   have e:hunkCells (s::l)= .int .i64 (s.1.fr:Nat):: .int .i64 (s.1.fc:Nat):: .int .i64 (s.1.tr:Nat):: .int .i64 (s.1.tc:Nat)::s.2::hunkCells l:=rfl
   cases i with
   | zero=>simp [e]
   | succ i=>
     have:=ih i (by simpa using h)
     rw [e,show (i+1)*5=i*5+1+1+1+1+1 by omega]
     simpa using this
theorem Jt (l:List HV) (p:HV): ∀(i:Nat),i<l.length->
 ((((hunkCells l).set (i*5) (.int .i64 (p.1.fr:Nat))).set (i*5+1) (.int .i64 (p.1.fc:Nat))).set (i*5+2) (.int .i64 (p.1.tr:Nat)) |>.set (i*5+3) (.int .i64 (p.1.tc:Nat))).set (i*5+4) p.2=hunkCells (l.set i p):=by
 induction l with
 | nil=>intro i h;simp at h
 | cons s l ih=>
   intro i h
   have e: ∀s l,hunkCells (s::l)= .int .i64 (s.1.fr:Nat):: .int .i64 (s.1.fc:Nat):: .int .i64 (s.1.tr:Nat):: .int .i64 (s.1.tc:Nat)::s.2::hunkCells l:=fun _ _=>rfl
   cases i with
   | zero=>simp [e]
   | succ i=>
     have:=ih i (by simpa using h)
     rw [List.set_cons_succ,e,e,<-this,show (i+1)*5=i*5+1+1+1+1+1 by omega]
     simp
theorem xN {w:World} {base n cap g:Nat} {l:List HV} (h:w.ownsRow base 61 5 (.slice (some ⟨g,0,none⟩) n cap) n (hunkCells l)) {i:Nat} (hi:i<l.length):
 w.cell? ⟨g,i*5,none⟩=some (.int .i64 (l[i].1.fr:Nat))/\w.cell? ⟨g,i*5+1,none⟩=some (.int .i64 (l[i].1.fc:Nat))/\w.cell? ⟨g,i*5+2,none⟩=some (.int .i64 (l[i].1.tr:Nat))/\
 w.cell? ⟨g,i*5+3,none⟩=some (.int .i64 (l[i].1.tc:Nat))/\w.cell? ⟨g,i*5+4,none⟩=some l[i].2:=by
 obtain ⟨hl,hr⟩:=h
 rcases hr with ⟨e,_⟩ | ⟨g',cap',cur,e,hb,hg,h1,h2,h3,h4⟩
 ·cases e
 ·cases e
  obtain ⟨a,b,c,d,e⟩:=yQ l i hi
  rw [<-h4] at a b c d e
  have f: ∀(j:Nat) (u:Value),(cur.toList.take (n*5))[j]? =some u->cur[j]? =some u:=by
   intro j u hu
   rw [List.getElem?_take] at hu
   split at hu
   ·simpa using hu
   ·cases hu
  exact ⟨za hg (f _ _ a),za hg (f _ _ b),za hg (f _ _ c),za hg (f _ _ d),za hg (f _ _ e)⟩
theorem jd {w w':World} {base n cap g:Nat} {l:List HV} (h:w.ownsRow base 61 5 (.slice (some ⟨g,0,none⟩) n cap) n (hunkCells l)) (hn:n=l.length) {i:Nat} (hi:i<l.length) (p:HV)
 (hw: ∀cur,w.heap[g]? =some (.cells cur 61 (0,0))->cur.toList.take (n*5)=hunkCells l-> ∃cur',w'.heap[g]? =some (.cells cur' 61 (0,0))/\cur'.size=cur.size/\
  cur'.toList.take (n*5)=((((cur.toList.take (n*5)).set (i*5) (.int .i64 (p.1.fr:Nat))).set (i*5+1) (.int .i64 (p.1.fc:Nat))).set (i*5+2) (.int .i64 (p.1.tr:Nat)) |>.set (i*5+3) (.int .i64 (p.1.tc:Nat))).set (i*5+4) p.2):
 w'.ownsRow base 61 5 (.slice (some ⟨g,0,none⟩) n cap) n (hunkCells (l.set i p)):=by
 subst hn
 obtain ⟨hl,hr⟩:=h
 rcases hr with ⟨e,_⟩ | ⟨g',cap',cur,e,hb,hg,h1,h2,h3,h4⟩
 ·cases e
 ·cases e
  obtain ⟨cur',k1,k2,k3⟩:=hw cur hg h4
  refine ⟨by rw [Xs];simp,.inr ⟨g,cap,cur',rfl,hb,k1,h1,h2,by omega,?_⟩⟩
  rw [k3,h4,Jt l p i hi]
theorem zR {w w1:World} {base e size n N:Nat} {v:Value} {xs:List Value} (h:w.ownsRow base e size v n xs) (hb:Below N w w1) (hN: ∀k,v.ownBlock=some k->k<N):w1.ownsRow base e size v n xs:=by
 obtain ⟨hl,hr⟩:=h
 refine ⟨hl,?_⟩
 rcases hr with hn | ⟨g,cap,cur,rfl,hbb,hg,rest⟩
 ·exact .inl hn
 ·exact .inr ⟨g,cap,cur,rfl,hbb,(hb.block g (hN g rfl)).trans hg,rest⟩
structure HSv (base g n cap:Nat) (hv:List HV) (w:World):Prop where
 len:n=hv.length
 row:w.ownsRow base 61 5 (.slice (some ⟨g,0,none⟩) n cap) n (hunkCells hv)
 lines: ∀p∈hv,w.ownsRow base 93 2 p.2 p.1.lines.length (zg p.1.lines)
 apart:hv.Pairwise fun p q=>p.2.ownBlock=none\/p.2.ownBlock≠q.2.ownBlock
def xp (h:zx) (s:zk):zx:=
 { h with lines:=h.lines++ [s],fc:=h.fc+(if s.kind=43 then 0 else 1),tc:=h.tc+(if s.kind=45 then 0 else 1) }
theorem yJ:(prog.info? 93).map (fun i=>(i.zero,i.size,i.bytes))=some (some (.agg #[.int .u8 0,.string ByteArray.empty]),2,24):=by kernel_rfl
end Go.Proofs.YtcclgodahlinbaaGreatDoor
