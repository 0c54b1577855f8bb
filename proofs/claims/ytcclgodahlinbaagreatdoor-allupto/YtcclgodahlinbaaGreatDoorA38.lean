import Derived.Test.YtcclgodahlinbaaGreatDoorA18
import Derived.Test.YtcclgodahlinbaaGreatDoorA16
import Derived.Test.YtcclgodahlinbaaGreatDoorA13
namespace Go.Proofs.YtcclgodahlinbaaGreatDoor
set_option maxHeartbeats 16000000
open Tryz Go.RowKit Go
set_option maxRecDepth 100000
def Rd.endB (st:Rd):Bool:=st.hs.isEmpty || (decide (st.f=0) && decide (st.t=0) && st.b)
theorem DF {st:Rd} :st.endB=true ↔ st.ended:=by
 unfold Rd.endB Rd.ended
 simp [Bool.or_eq_true,Bool.and_eq_true,and_assoc]
def hdOk (st:Rd) (l:List UInt8):Bool:=(zI l).ok && fitsI (zI l).hi st.en st.gr
def hdM (l:List UInt8):zx:=⟨(zI l).fr.toNat,(zI l).fc.toNat,(zI l).tr.toNat,(zI l).tc.toNat,[]⟩
def hdNext (st:Rd) (l:List UInt8):Rd:=⟨st.hs++ [hdM l],(placeI (zI l).fr (zI l).fc+(zI l).fc).toNat,st.gr+(zI l).tc-(zI l).fc,(zI l).fc.toNat,(zI l).tc.toNat,false⟩
def ka (hs:List zx) (s:zk):List zx:=hs.dropLast++(match hs.getLast? with
 | some h=> [{ h with lines:=h.lines++ [s] }]
 | none=> [])
def kV (c:UInt8) (r:List UInt8):zk:=⟨c.toNat,⟨r.toArray⟩⟩
def lnNext (st:Rd) (c:UInt8) (r:List UInt8):Rd:=⟨ka st.hs (kV c r),st.en,st.gr,(st.f-kF c.toNat:Int).toNat,(st.t-kT c.toNat:Int).toNat,st.b || c.toNat !=32⟩
def rdStep (st:Rd) (l:List UInt8):Option Rd:=
 if st.f=0/\st.t=0 then (if (st.endB && hdOk st l)=true then some (hdNext st l) else none)
 else match l with
  | []=>none
  | c::r=>if zF c.toNat st.f st.t=true then some (lnNext st c r) else none
structure Bi (n:Nat) (st:Rd):Prop where
 hn:st.hs.length<=n
 g1: -(100000*(n:Int))<=st.gr
 g2:st.gr<=100000*n
 f:st.f<=100000
 t:st.t<=100000
 en:st.en<=300000
 nil:st.hs= []->st.f=0/\st.t=0
 ln: ∀h∈st.hs,h.lines.length<=n/\(h.fr<=100000/\h.fc<=100000/\h.tr<=100000/\h.tc<=100000)/\ ∀s∈h.lines,s.kind<256/\s.text.size<=20000
theorem Bi.start:Bi 0 Rd.start:=⟨by simp [Rd.start],by simp [Rd.start],by simp [Rd.start],by simp [Rd.start],by simp [Rd.start],by simp [Rd.start],fun _=>⟨rfl,rfl⟩,by simp [Rd.start]⟩
theorem KN {st:Rd} {l:List UInt8} (h:hdOk st l=true):HI.ofM (hdM l)=(zI l).hi/\numOk (zI l).fr (zI l).fc=true/\numOk (zI l).tr (zI l).tc=true/\(hdM l).fr<=100000/\(hdM l).fc<=100000/\(hdM l).tr<=100000/\(hdM l).tc<=100000:=by
 unfold hdOk at h
 rw [Bool.and_eq_true] at h
 obtain ⟨n1,n2,_⟩:=qj.1 h.2
 have m1:=zH.1 n1
 have m2:=zH.1 n2
 unfold HP.hi at m1 m2 n1 n2
 simp only at m1 m2 n1 n2
 refine ⟨?_,n1,n2,?_,?_,?_,?_⟩
 ·unfold HI.ofM hdM HP.hi
  simp only [HI.mk.injEq,and_true]
  exact ⟨by omega,by omega,by omega,by omega⟩
 all_goals (unfold hdM;simp only;omega)
theorem KJ {hs:List zx} (h:hs≠ []): ∃init x,hs=init++ [x]/\hs.dropLast=init/\hs.getLast? =some x:=by
 refine ⟨hs.dropLast,hs.getLast h,(List.dropLast_concat_getLast h).symm,rfl,List.getLast?_eq_some_getLast h⟩
theorem ZY {init:List zx} {x:zx} {s:zk} :ka (init++ [x]) s=init++ [{ x with lines:=x.lines++ [s] }]:=by
 unfold ka
 simp
theorem kFT {k:Nat} {f t:Int} (h:zF k f t=true):0<=f-kF k/\0<=t-kT k/\(k=32\/k=45\/k=43)/\0<=kF k/\kF k<=1/\0<=kT k/\kT k<=1:=by
 unfold zF yn at h
 simp only [Bool.and_eq_true,decide_eq_true_eq,Bool.or_eq_true,beq_iff_eq] at h
 refine ⟨h.1.2,h.2,by omega,?_,?_,?_,?_⟩
 all_goals (first | unfold kF | unfold kT)
 all_goals (split<;>omega)
theorem Bi.step {n:Nat} {st st':Rd} {l:List UInt8} (h:Bi n st) (hl:l.length<=20000) (hs:rdStep st l=some st'):Bi (n+1) st':=by
 unfold rdStep at hs
 by_cases hf:st.f=0/\st.t=0
 ·rw [if_pos hf] at hs
  by_cases hk:(st.endB && hdOk st l)=true
  ·rw [if_pos hk] at hs
   obtain rfl:=Option.some.inj hs
   rw [Bool.and_eq_true] at hk
   obtain ⟨e,n1,n2,q1,q2,q3,q4⟩:=KN hk.2
   have m1:=zH.1 n1
   have m2:=zH.1 n2
   have hp:=xE n1
   refine ⟨by simp [hdNext];exact h.hn,?_,?_,?_,?_,?_,?_,?_⟩
   ·have:=h.g1;show _<=st.gr+_-_;omega
   ·have:=h.g2;show st.gr+_-_<=_;omega
   ·show (zI l).fc.toNat<=_;omega
   ·show (zI l).tc.toNat<=_;omega
   ·show (placeI _ _+_).toNat<=_;omega
   ·intro e;simp [hdNext] at e
   ·intro x hx
    rcases List.mem_append.1 hx with hx | hx
    ·have:=h.ln x hx;exact ⟨by omega,this.2⟩
    ·rw [List.mem_singleton] at hx
     subst hx
     exact ⟨by simp [hdM],⟨q1,q2,q3,q4⟩,by simp [hdM]⟩
  ·rw [if_neg hk] at hs;cases hs
 ·rw [if_neg hf] at hs
  cases l with
  | nil=>cases hs
  | cons c r=>
    by_cases hk:zF c.toNat st.f st.t=true
    ·simp only [hk,if_true] at hs
     obtain rfl:=Option.some.inj hs
     obtain ⟨k1,k2,k3,k4,k5,k6,k7⟩:=kFT hk
     have hne:st.hs≠ []:=fun e=>hf (h.nil e)
     obtain ⟨init,x,e,e1,e2⟩:=KJ hne
     have hadd:ka st.hs (kV c r)=init++ [{ x with lines:=x.lines++ [kV c r] }]:=by rw [e];exact ZY
     have hlen:st.hs.length=init.length+1:=by rw [e];simp
     refine ⟨?_,?_,?_,?_,?_,?_,?_,?_⟩
     ·show (ka _ _).length<=_;rw [hadd];have:=h.hn;simp;omega
     ·have:=h.g1;show _<=st.gr;omega
     ·have:=h.g2;show st.gr<=_;omega
     ·have:=h.f;show (_:Int).toNat<=_;omega
     ·have:=h.t;show (_:Int).toNat<=_;omega
     ·exact h.en
     ·intro e3;have e4:ka st.hs (kV c r)= []:=e3;rw [hadd] at e4;simp at e4
     ·intro y hy
      have hy2:y∈ka st.hs (kV c r):=hy
      rw [hadd] at hy2
      rcases List.mem_append.1 hy2 with hy2 | hy2
      ·have:=h.ln y (by rw [e];simp [hy2]);exact ⟨by omega,this.2⟩
      ·rw [List.mem_singleton] at hy2
       have hx:=h.ln x (by rw [e];simp)
       subst hy2
       refine ⟨by simp;exact hx.1,hx.2.1,?_⟩
       intro s hs
       rcases List.mem_append.1 hs with hs | hs
       ·exact hx.2.2 s hs
       ·rw [List.mem_singleton] at hs
        subst hs
        refine ⟨?_,?_⟩
        ·show c.toNat<256;exact UInt8.toNat_lt c
        ·show (⟨r.toArray⟩:ByteArray).size<=_
         rw [xq];simp at hl;omega
    ·simp only [hk] at hs;cases hs
theorem KP {S:Nat} {st:Rd} {v:Value} {hv:List HV} {w:World} {l:List UInt8} (hR:RdM S st v hv w) (hl:l.length<=20000) (hg1: -10000000000<=st.gr) (hg2:st.gr<=10000000000) (hlen:st.hs.length<=100000) (hg:yr w):
 Calls prog 77 #[.pointer (some ⟨S,0,none⟩),.string ⟨l.toArray⟩] w fun e w'=>e= .returned (.bool (hdOk st l))/\(hdOk st l=true-> ∃v' hv',RdM S (hdNext st l) v' hv' w')/\Below S w w':=by
 have hrh:=Jp (d:=l) (by omega) hg
 have hlt:=hR.lt
 have hA:Hid (∀w1,Below w.heap.size w w1->RdM S st v hv w1):=fun w1 hb=>hR.below hb
 have hOk:hdOk st l=((zI l).ok && fitsI (zI l).hi st.en st.gr):=rfl
 cases hok:(zI l).ok with
 | false=>
   have hF:hdOk st l=false:=by rw [hOk,hok];rfl
   rw [hF]
   rw [hok] at hrh
   clear hF hok hOk
   unfold qn at hrh
   generalize (⟨l.toArray⟩:ByteArray)=s0 at *
   generalize (zI l).hi=h at *
   go_enter func77,ntmps77
   go_wp2_with (go_at_call 111;refine hrh.mono ?_;rintro e w1 ⟨rfl,hb1⟩)
   go_quiet (fail)
   go_wp2_with fail
   go_ret
   have hbF:=(hb1.mono (by omega:S<=w.heap.size)).alloc (by have:=hb1.size;omega) (.cells #[.int .i64 h.fr,.int .i64 h.fc,.int .i64 h.tr,.int .i64 h.tc,.slice none 0 0] 61)
   first | exact ⟨rfl,Below.drewN' hbF⟩ | exact ⟨rfl,fun h=>(by cases h),Below.drewN' hbF⟩
 | true=>
   cases hft:fitsI (zI l).hi st.en st.gr with
   | false=>
     have hF:hdOk st l=false:=by rw [hOk,hok,hft];rfl
     rw [hF]
     rw [hok] at hrh
     clear hF hok hOk
     unfold qn at hrh
     generalize (⟨l.toArray⟩:ByteArray)=s0 at *
     generalize (zI l).hi=h at *
     go_enter func77,ntmps77
     go_wp2_with (go_at_call 111;refine hrh.mono ?_;rintro e w1 ⟨rfl,hb1⟩)
     have hR1:=hA.out w1 hb1
     have hz1':=hb1.size
     have hB1:=heap_alloc_new w1 (ya h (.slice none 0 0))
     have hS1:=(Below.heap_alloc w1 (ya h (.slice none 0 0)) S hR1.lt).trans hR1.blk
     have hsz1:(w1.alloc (ya h (.slice none 0 0))).heap.size=w1.heap.size+1:=by simp
     have hbe1:Below S w (w1.alloc (ya h (.slice none 0 0))):=(hb1.mono (by omega)).alloc (by omega) _
     generalize w1.alloc (ya h (.slice none 0 0))=W2 at *
     have htk:=JP h none 0 0 W2.drew (show W2.drew.heap[S]? =_ from hS1) (by omega) (by omega)
     rw [hft] at htk
     have y0:=za (k:=0) hB1 rfl
     have y1:=za (k:=1) hB1 rfl
     have y2:=za (k:=2) hB1 rfl
     have y3:=za (k:=3) hB1 rfl
     have y4:=za (k:=4) hB1 rfl
     unfold qn at htk
     refine zK 7 yg (by kernel_rfl) ?_
     simp only [List.take_succ_cons,List.take_zero,List.drop_succ_cons,List.drop_zero]
     repeat still_step
     refine wpStill_nil ?_
     go_wp2_with (go_at_call 68;refine htk.mono ?_;rintro e w3 ⟨rfl, -,hg3⟩)
     go_ret
     have hbF:Below S w w3:=(hbe1.drew).grown hg3 (by show S<=W2.heap.size;omega) (fun k e=>by cases e;exact Nat.le_refl _)
     first | exact ⟨rfl,hbF⟩ | exact ⟨rfl,fun h=>(by cases h),hbF⟩
   | true=>
     have hF:hdOk st l=true:=by rw [hOk,hok,hft];rfl
     obtain ⟨hnm,n1,n2, -⟩:=KN hF
     have hpr:=xE n1
     have hm1:=zH.1 n1
     have hEn:Hid (((placeI (zI l).fr (zI l).fc+(zI l).fc).toNat:Int)=placeI (zI l).hi.fr (zI l).hi.fc+(zI l).hi.fc):=by
      show ((placeI (zI l).fr (zI l).fc+(zI l).fc).toNat:Int)=placeI (zI l).fr (zI l).fc+(zI l).fc
      omega
     have hNx:Hid (hdNext st l=⟨st.hs++ [hdM l],(placeI (zI l).fr (zI l).fc+(zI l).fc).toNat,st.gr+(zI l).hi.tc-(zI l).hi.fc,(hdM l).fc,(hdM l).tc,false⟩):=rfl
     rw [hF]
     rw [hok] at hrh
     rw [<-hnm] at hrh hft hEn hNx
     generalize (placeI (zI l).fr (zI l).fc+(zI l).fc).toNat=EN at *
     have hl0:(hdM l).lines= []:=rfl
     clear hF hok hOk hnm n1 n2 hpr hm1
     generalize hdNext st l=stN at *
     generalize hdM l=h at *
     unfold qn HI.ofM at hrh
     obtain ⟨i0,hi,hz0,hz1,hz2⟩:=info_parts qk
     have hvl:hv.length<=100000:=by have:=congrArg List.length hR.hs;rw [List.length_map] at this;omega
     have hone: ∀u∈ [Value.int .i64 (h.fr:Int),.int .i64 (h.fc:Int),.int .i64 (h.tr:Int),.int .i64 (h.tc:Int),.slice none 0 0],u.oneCell'=true:=by intro u hu;simp at hu;rcases hu with rfl | rfl | rfl | rfl | rfl<;>rfl
     generalize (⟨l.toArray⟩:ByteArray)=s0 at *
     go_enter func77,ntmps77
     go_wp2_with (go_at_call 111;refine hrh.mono ?_;rintro e w1 ⟨rfl,hb1⟩)
     have hR1:=hA.out w1 hb1
     have hz1':=hb1.size
     have hB1:=heap_alloc_new w1 (jy h)
     have hS1:=(Below.heap_alloc w1 (jy h) S hR1.lt).trans hR1.blk
     have hso1:=hR1.hso.alloc (jy h)
     have hsz1:(w1.alloc (jy h)).heap.size=w1.heap.size+1:=by simp
     have hbe1:Below S w (w1.alloc (jy h)):=(hb1.mono (by omega)).alloc (by omega) _
     generalize w1.alloc (jy h)=W2 at *
     have htk:=JP (HI.ofM h) none 0 0 W2.drew (show W2.drew.heap[S]? =_ from hS1) (by omega) (by omega)
     rw [hft,<-hEn.out] at htk
     have hTG:Hid ((HI.ofM h).tc=(h.tc:Int)/\(HI.ofM h).fc=(h.fc:Int)):=⟨rfl,rfl⟩
     rw [hTG.out.1,hTG.out.2] at htk hNx
     have y0:=za (k:=0) hB1 rfl
     have y1:=za (k:=1) hB1 rfl
     have y2:=za (k:=2) hB1 rfl
     have y3:=za (k:=3) hB1 rfl
     have y4:=za (k:=4) hB1 rfl
     unfold qn HI.ofM at htk
     clear hft hEn
     refine zK 7 yg (by kernel_rfl) ?_
     simp only [List.take_succ_cons,List.take_zero,List.drop_succ_cons,List.drop_zero]
     repeat still_step
     refine wpStill_nil ?_
     go_wp2_with (go_at_call 68;refine htk.mono ?_;rintro e w3 ⟨rfl,hS3',hg3⟩)
     have hS3:w3.heap[S]? =some (kh v EN (st.gr+h.tc-h.fc) st.f st.t st.b):=hS3' (by trivial)
     clear hS3'
     have hsz3:=hg3.size
     have hsz3':w1.heap.size+1<=w3.heap.size:=by have e:W2.drew.heap.size=W2.heap.size:=rfl;omega
     have hB3:w3.heap[w1.heap.size]? =some (jy h):=(hg3.block w1.heap.size (by show w1.heap.size<W2.heap.size;omega) (fun e=>by have:=Option.some.inj e;omega)).trans hB1
     have hso3:HSo (S+1) v hv w3:=HSo.kept (w:=W2.drew) (by rcases hso1 with h | ⟨g,cap,e,hb,hs⟩;exact .inl h;exact .inr ⟨g,cap,e,hb,hs.len,hs.row,hs.lines,hs.apart⟩) hg3 (fun k e=>by cases e;exact .inr ⟨_,_,_,hS1,by decide,by decide⟩)
     have hbe3:Below S w w3:=(hbe1.drew).grown hg3 (by show S<=W2.heap.size;omega) (fun k e=>by cases e;exact Nat.le_refl _)
     have hpush:Hid (∀ob w4 g cap,w4.ownsRow (S+1) 61 5 (.slice (some ⟨g,0,none⟩) (hv.length+1) cap) (hv.length+1) (hunkCells hv++xo (h,.slice none 0 0))->(w3.drew.alloc ob).grownBy w4 v.ownBlock->
         HSo (S+1) (.slice (some ⟨g,0,none⟩) (hv.length+1) cap) (hv++ [(h,.slice none 0 0)]) w4/\w4.heap[S]? =some (kh v EN (st.gr+h.tc-h.fc) st.f st.t st.b)/\w4.heap[w1.heap.size]? =some (jy h)/\Below S w w4/\w1.heap.size<w4.heap.size):=by
      intro ob w4 g cap hown hgr
      have hsz4:=hgr.size
      have hsz4':w3.heap.size+1<=w4.heap.size:=by
       have e:(w3.drew.alloc ob).heap.size=w3.heap.size+1:=by simp
       omega
      have hvb: ∀k,v.ownBlock=some k->S+1<=k/\k<w3.heap.size:=fun k e=>hso3.owns.lt k e
      have hso3d:HSo (S+1) v hv w3.drew:=by rcases hso3 with h | ⟨g,cap,e,hb,hs⟩;exact .inl h;exact .inr ⟨g,cap,e,hb,hs.len,hs.row,hs.lines,hs.apart⟩
      have hpv:=hso3d.push h hl0 hgr hown
      have hgb:S+1<=g:=(hown.lt g rfl).1
      have hl1:(hv++ [(h,Value.slice none 0 0)]).length=hv.length+1:=by simp
      have hkeep: ∀k,k<w3.heap.size->some k≠v.ownBlock->w4.heap[k]? =w3.heap[k]? :=fun k hk hne=>(hgr.block k (by simp;omega) hne).trans (Below.heap_alloc w3.drew ob k hk)
      refine ⟨.inr ⟨g,cap,by rw [hl1],hgb,hpv⟩,?_,?_,?_,by omega⟩
      ·exact (hkeep S (by omega) (fun e=>by have:=hvb S e.symm;omega)).trans hS3
      ·refine (hkeep w1.heap.size (by omega) (fun e=> ?_)).trans hB3
       have hvp:=(hR1.hso.owns).lt w1.heap.size e.symm
       omega
      ·exact (hbe3.drew.alloc (by show S<=w3.heap.size;omega) ob).grown hgr (by simp;omega) (fun k e=>by have:=hvb k e;omega)
     have hown3:=hso3.owns
     obtain ⟨av,cv,rfl⟩:=zn hown3
     clear y0 y1 y2 y3 y4
     have x0:w3.cell? ⟨S,0,none⟩=some (.slice av hv.length cv):=za (k:=0) hS3 rfl
     have y0:w3.cell? ⟨w1.heap.size,0,none⟩=some (.int .i64 (h.fr:Int)):=za (k:=0) hB3 rfl
     have y1:w3.cell? ⟨w1.heap.size,1,none⟩=some (.int .i64 (h.fc:Int)):=za (k:=1) hB3 rfl
     have y2:w3.cell? ⟨w1.heap.size,2,none⟩=some (.int .i64 (h.tr:Int)):=za (k:=2) hB3 rfl
     have y3:w3.cell? ⟨w1.heap.size,3,none⟩=some (.int .i64 (h.tc:Int)):=za (k:=3) hB3 rfl
     have y4:w3.cell? ⟨w1.heap.size,4,none⟩=some (.slice none 0 0):=za (k:=4) hB3 rfl
     have x0a:(w3.alloc (.cells #[.int .i64 (h.fr:Int),.int .i64 (h.fc:Int),.int .i64 (h.tr:Int),.int .i64 (h.tc:Int),.slice none 0 0] 61)).cell? ⟨S,0,none⟩=some (.slice av hv.length cv):=(World.cell?_of_block (Below.heap_alloc w3 _ S (by omega))).trans x0
     have hmx:hv.length+1<=maxLen:=by unfold maxLen;omega
     have hbase:S+1<=(w3.drew.alloc (.cells #[.int .i64 (h.fr:Int),.int .i64 (h.fc:Int),.int .i64 (h.tr:Int),.int .i64 (h.tc:Int),.slice none 0 0] 61)).heap.size:=by simp;omega
     have hneS: ¬w1.heap.size=S:=by omega
     have hneS': ¬S=w1.heap.size:=by omega
     have hro:=fun w=>UT h none 0 0 w
     unfold kp at hro
     go_region_law (refine yo rfl (.tmp 26) (.tmp 28) 30 rfl (S+1) 61 i0 _ 5 56 underlying30 hi hz0 hz1 hz2 rfl (by decide) (.slice av hv.length cv) hv.length (hunkCells hv) (by simp [Act.eval]) (World.ownsRow.alloc (w:=w3.drew) hown3 _) ⟨w3.heap.size,0,none⟩ 1 1 [.int .i64 (h.fr:Int),.int .i64 (h.fc:Int),.int .i64 (h.tr:Int),.int .i64 (h.tc:Int),.slice none 0 0] (by simp [Act.eval]) rfl (zt w3.drew _ _) hone hmx (by omega) hbase ?_;intro v' w4 hown4 hgr4 _;obtain ⟨g',cap',rfl,hg',_⟩:=zv hown4 (Nat.succ_pos _);obtain ⟨hso4,hS4,hB4,hbe4,hlt4⟩:=hpush.out _ w4 g' cap' hown4 hgr4;have x4:w4.cell? ⟨S,0,none⟩=some (.slice av hv.length cv):=za (k:=0) hS4 rfl;have xf: ∀k,w4.frozen? ⟨S,k,none⟩=false:=fun k=>zi (k:=k) hS4;have q0:w4.cell? ⟨w1.heap.size,0,none⟩=some (.int .i64 (h.fr:Int)):=za (k:=0) hB4 rfl;have q1:w4.cell? ⟨w1.heap.size,1,none⟩=some (.int .i64 (h.fc:Int)):=za (k:=1) hB4 rfl;have q2:w4.cell? ⟨w1.heap.size,2,none⟩=some (.int .i64 (h.tr:Int)):=za (k:=2) hB4 rfl;have q3:w4.cell? ⟨w1.heap.size,3,none⟩=some (.int .i64 (h.tc:Int)):=za (k:=3) hB4 rfl;have q4:w4.cell? ⟨w1.heap.size,4,none⟩=some (.slice none 0 0):=za (k:=4) hB4 rfl)
     all_goals
      go_wp2_with fail
      refine (hro _).mono ?_
      rintro e w6 ⟨rfl,hb6⟩
      have hsz6:=hb6.size
      rw [World.size_setCell] at hsz6
      have hS6:=(hb6.block S (by rw [World.size_setCell];omega)).trans (zb w4 S 0 (.slice (some ⟨g',0,none⟩) (hv.length+1) cap') _ _ _ hS4)
      have xf6: ∀k,w6.frozen? ⟨S,k,none⟩=false:=fun k=>zi (k:=k) hS6
      have x3:w6.cell? ⟨S,3,none⟩=some (.int .i64 (st.f:Int)):=za (k:=3) hS6 rfl
      have x4':w6.cell? ⟨S,4,none⟩=some (.int .i64 (st.t:Int)):=za (k:=4) hS6 rfl
      have x5:w6.cell? ⟨S,5,none⟩=some (.bool st.b):=za (k:=5) hS6 rfl
      go_wp2_with fail
      go_ret
      have hfin:RdM S stN (.slice (some ⟨g',0,none⟩) (hv.length+1) cap') (hv++ [(h,.slice none 0 0)]) (((w6.setCell ⟨S,3,none⟩ (.int .i64 (h.fc:Int))).setCell ⟨S,4,none⟩ (.int .i64 (h.tc:Int))).setCell ⟨S,5,none⟩ (.bool false)):=by
       rw [hNx.out]
       refine ⟨?_,?_,?_⟩
       ·exact zb _ _ _ _ _ _ _ (zb _ _ _ _ _ _ _ (zb _ _ _ _ _ _ _ hS6))
       ·have a1:=hso4.kept (zc w4 S 0 (.slice (some ⟨g',0,none⟩) (hv.length+1) cap')) (fun k e=>by cases e;exact .inr ⟨_,_,_,hS4,by decide,by decide⟩)
        exact (a1.below hb6).kept (zh (zh (zc _ _ _ _) (zc _ _ _ _)) (zc _ _ _ _)) (fun k e=>by cases e;exact .inr ⟨_,_,_,hS6,by decide,by decide⟩)
       ·rw [List.map_append,hR1.hs]
        rfl
      have hbF:=((((hbe4.setCell (p:=⟨S,0,none⟩) (Nat.le_refl _) (.slice (some ⟨g',0,none⟩) (hv.length+1) cap')).trans (hb6.mono (by rw [World.size_setCell];omega))).setCell (p:=⟨S,3,none⟩) (Nat.le_refl _) (.int .i64 (h.fc:Int))).setCell (p:=⟨S,4,none⟩) (Nat.le_refl _) (.int .i64 (h.tc:Int))).setCell (p:=⟨S,5,none⟩) (Nat.le_refl _) (.bool false)
      first | exact ⟨rfl,⟨_,_,hfin⟩,hbF⟩ | exact ⟨rfl,fun _=>⟨_,_,hfin⟩,hbF⟩
end Go.Proofs.YtcclgodahlinbaaGreatDoor
