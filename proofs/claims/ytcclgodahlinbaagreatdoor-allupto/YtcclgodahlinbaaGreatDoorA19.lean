import Derived.Test.YtcclgodahlinbaaGreatDoorA18
import Derived.Test.YtcclgodahlinbaaGreatDoorA14
import Derived.Test.YtcclgodahlinbaaGreatDoorA15
import Derived.Test.YtcclgodahlinbaaGreatDoorA09
namespace Go.Proofs.YtcclgodahlinbaaGreatDoor
set_option maxHeartbeats 16000000
open Tryz Go.RowKit Go
set_option maxRecDepth 100000
def wordB (i:Nat):ByteArray:=⟨(qW i).toArray⟩
theorem Jo (i:Nat):(wordB i).data.toList=qW i:=by simp [wordB]
theorem Zi (i:Nat):(wordB i).size=(qW i).length:=by show (qW i).toArray.size=_;simp
abbrev Di:Obj:= .cells #[.string ⟨#[64,64,32,45]⟩,.string ⟨#[44]⟩,.string ⟨#[32,43]⟩,.string ⟨#[44]⟩] 9 (0,0)
def XY (xs:List Nat) (j:Nat):Value:= .int .i64 (xs.getD j 0:Nat)
abbrev Tu (xs:List Nat):Obj:= .cells #[XY xs 0,XY xs 1,XY xs 2,XY xs 3] 198 (0,0)
theorem Da {xs:List Nat} {n:Nat} (h:xs.length<4):(#[XY xs 0,XY xs 1,XY xs 2,XY xs 3]:Array Value).setIfInBounds xs.length (.int .i64 (n:Int))= #[XY (xs++ [n]) 0,XY (xs++ [n]) 1,XY (xs++ [n]) 2,XY (xs++ [n]) 3]:=by
 match xs,h with
 | [],_=>rfl
 | [_],_=>rfl
 | [_,_],_=>rfl
 | [_,_,_],_=>rfl
def YT (L:List UInt8) (e:Ending):Prop:=
 (∃a b c d:Nat,a<=100000/\b<=100000/\c<=100000/\d<=100000/\L=yv a b c d/\e= .returned (.tuple #[qn ⟨a,b,c,d,[]⟩ (.slice none 0 0),.bool true]))\/
 ((∀a b c d:Nat,a<=100000->b<=100000->c<=100000->d<=100000->L≠yv a b c d)/\ ∃h:HI,h.lines= []/\e= .returned (.tuple #[qn h (.slice none 0 0),.bool false]))
theorem JK (i:Nat):1<=(qW i).length/\(qW i).length<=4:=by unfold qW;split<;>simp
theorem Gg {i:Nat} {ys:List Nat} (h:i<ys.length):Ze i (ys.drop i)=qW i++(Lib.decDigits ys[i]++Ze (i+1) (ys.drop (i+1))):=by
 unfold Ze
 rw [List.drop_eq_getElem_cons h]
 simp [qm]
structure ZE (s:ByteArray) (xs:List Nat) (p:Nat):Prop where
 pre:s.data.toList.take p=qm 0 xs
 le:p<=s.size
 lim: ∀x∈xs,x<=100000
 agr:TQ s.data.toList xs
theorem ZE.start (s:ByteArray):ZE s [] 0:=⟨by simp [qm],by omega,by simp,fun a b c d _ _ _ _ _=>by simp⟩
theorem ZE.rest {s:ByteArray} {xs:List Nat} {p:Nat} (h:ZE s xs p) (h4:xs.length<4) {a b c d:Nat} (ha:a<=100000) (hb:b<=100000) (hc:c<=100000) (hd:d<=100000) (hL:s.data.toList=yv a b c d):
 ∃y,y<=100000/\ [a,b,c,d][xs.length]? =some y/\xs= [a,b,c,d].take xs.length/\s.data.toList.drop p=qW xs.length++(Lib.decDigits y++Ze (xs.length+1) ([a,b,c,d].drop (xs.length+1))):=by
 have hx:=h.agr a b c d ha hb hc hd hL
 have hr:=Xx h.pre hx (by rw [hL,Yi])
 have hl:xs.length< [a,b,c,d].length:=by simpa using h4
 refine ⟨[a,b,c,d][xs.length],?_,List.getElem?_eq_getElem hl,hx,by rw [hr,Gg hl]⟩
 have key: ∀y∈ [a,b,c,d],y<=100000:=by simp;omega
 exact key _ (List.getElem_mem hl)
theorem Zg (s:ByteArray):s.data.toList.length=s.size:=rfl
theorem ZE.noword {s:ByteArray} {xs:List Nat} {p:Nat} (h:ZE s xs p) (h4:xs.length<4) (hno:s.size<p+(wordB xs.length).size\/s.extract p (p+(wordB xs.length).size)≠wordB xs.length): ∀a b c d:Nat,a<=100000->b<=100000->c<=100000->d<=100000->s.data.toList≠yv a b c d:=by
 intro a b c d ha hb hc hd hL
 obtain ⟨y,_,_,_,hr⟩:=h.rest h4 ha hb hc hd hL
 have hlen:=congrArg List.length hr
 simp only [List.length_drop,List.length_append,Zg] at hlen
 rw [Zi] at hno
 rcases hno with h1 | h1
 ·have:=JK xs.length;omega
 ·apply h1
  apply ByteArray.ext
  apply Array.toList_inj.1
  rw [Jo,ByteArray.data_extract,Array.toList_extract]
  simp only [List.extract_eq_take_drop]
  rw [hr,show p+(qW xs.length).length-p=(qW xs.length).length by omega,List.take_left' rfl]
theorem Fh {s:ByteArray} {p i:Nat} (hw:s.extract p (p+(wordB i).size)=wordB i):s.data.toList.take (p+(wordB i).size)=s.data.toList.take p++qW i:=by
 have e:=congrArg (fun b:ByteArray=>b.data.toList) hw
 simp only [ByteArray.data_extract,Array.toList_extract,List.extract_eq_take_drop] at e
 rw [Jo,show p+(wordB i).size-p=(wordB i).size by omega] at e
 rw [List.take_add,e]
theorem ZE.nofig {s:ByteArray} {xs:List Nat} {p:Nat} (h:ZE s xs p) (h4:xs.length<4) (hno: ∀m E,¬Fig (s.data.toList.drop (p+(wordB xs.length).size)) m E): ∀a b c d:Nat,a<=100000->b<=100000->c<=100000->d<=100000->s.data.toList≠yv a b c d:=by
 intro a b c d ha hb hc hd hL
 obtain ⟨y,hy,_,_,hr⟩:=h.rest h4 ha hb hc hd hL
 refine hno y (Ze (xs.length+1) ([a,b,c,d].drop (xs.length+1))) ⟨hy,?_,?_⟩
 ·rw [<-List.drop_drop,hr,Zi,List.drop_left' rfl]
 ·exact QR (xs.length+1) (by omega) _ (fun _ _=>trivial) (by omega)
theorem ZE.next {s:ByteArray} {xs:List Nat} {p n:Nat} (h:ZE s xs p) (h4:xs.length<4) (hl:p+(wordB xs.length).size<=s.size) (hw:s.extract p (p+(wordB xs.length).size)=wordB xs.length)
 (hf:Fig (s.data.toList.drop (p+(wordB xs.length).size)) n (s.data.toList.drop (p+(wordB xs.length).size+(Lib.decDigits n).length))):ZE s (xs++ [n]) (p+(wordB xs.length).size+(Lib.decDigits n).length):=by
 obtain ⟨f1,f2,f3⟩:=hf
 have hlen:=congrArg List.length f2
 simp only [List.length_drop,List.length_append,Zg] at hlen
 have hle:p+(wordB xs.length).size+(Lib.decDigits n).length<=s.size:=by
  have hp:=Wb n
  omega
 refine ⟨?_,hle,?_,?_⟩
 ·rw [List.take_add,Fh hw,h.pre,Je,f2,List.take_left' rfl]
  simp
 ·intro x hx
  rcases List.mem_append.1 hx with hx | hx
  ·exact h.lim x hx
  ·rw [List.mem_singleton] at hx;omega
 ·intro a b c d ha hb hc hd hL
  obtain ⟨y,hy,hget,hx,hr⟩:=h.rest h4 ha hb hc hd hL
  have hdr:s.data.toList.drop (p+(wordB xs.length).size)=Lib.decDigits y++Ze (xs.length+1) ([a,b,c,d].drop (xs.length+1)):=by rw [<-List.drop_drop,hr,Zi,List.drop_left' rfl]
  have hd1:xR (s.data.toList.drop (p+(wordB xs.length).size))=Lib.decDigits y:=by rw [hdr];exact QW (QR (xs.length+1) (by omega) _ (fun _ _=>trivial) (by omega))
  have hd2:xR (s.data.toList.drop (p+(wordB xs.length).size))=Lib.decDigits n:=by rw [f2];exact QW f3
  have hny:n=y:=Ts (hd2.symm.trans hd1)
  subst hny
  rw [List.length_append,List.length_singleton,List.take_add_one,<-hx,hget]
  rfl
theorem ZE.done {s:ByteArray} {xs:List Nat} {p:Nat} (h:ZE s xs p) (h4:xs.length=4): ∃a b c d,xs= [a,b,c,d]/\a<=100000/\b<=100000/\c<=100000/\d<=100000/\
 (s.extract p s.size=⟨#[32,64,64]⟩->s.data.toList=yv a b c d)/\(s.extract p s.size≠⟨#[32,64,64]⟩-> ∀a b c d:Nat,a<=100000->b<=100000->c<=100000->d<=100000->s.data.toList≠yv a b c d):=by
 match xs,h4,h with
 | [a,b,c,d],_,h=>
   have hext:(s.extract p s.size).data.toList=s.data.toList.drop p:=by
    rw [ByteArray.data_extract,Array.toList_extract,List.extract_eq_take_drop]
    rw [List.take_of_length_le (by rw [List.length_drop,Zg];omega)]
   refine ⟨a,b,c,d,rfl,h.lim a (by simp),h.lim b (by simp),h.lim c (by simp),h.lim d (by simp),fun e=> ?_,fun hne a' b' c' d' ha hb hc hd hL=> ?_⟩
   ·rw [e] at hext
    rw [Yi,<-h.pre]
    have:s.data.toList=s.data.toList.take p++s.data.toList.drop p:=(List.take_append_drop _ _).symm
    rw [<-hext] at this
    exact this
   ·have hx:=h.agr a' b' c' d' ha hb hc hd hL
    have hr:=Xx h.pre hx (by rw [hL,Yi])
    apply hne
    apply ByteArray.ext
    apply Array.toList_inj.1
    rw [hext,hr]
    rfl
theorem UB (s:ByteArray) (w:World) (hs:s.size<=4000000000):
 Calls prog 123 #[.string s] w fun e w'=>YT s.data.toList e/\Below w.heap.size w w':=by
 obtain ⟨W0,hW0⟩: ∃W0,((w.alloc (.cells #[.int .i64 0,.int .i64 0,.int .i64 0,.int .i64 0,.slice none 0 0] 61)).alloc (.cells #[.int .i64 0,.int .i64 0,.int .i64 0,.int .i64 0] 198)).alloc (.cells #[.string ⟨#[64,64,32,45]⟩,.string ⟨#[44]⟩,.string ⟨#[32,43]⟩,.string ⟨#[44]⟩] 9)=W0:=⟨_,rfl⟩
 have hb0:Below w.heap.size w W0:=by rw [<-hW0];exact (((Below.refl _ _).alloc (Nat.le_refl _) _).alloc (by simp) _).alloc (by simp;omega) _
 have hH0:W0.heap[w.heap.size]? =some (.cells #[.int .i64 0,.int .i64 0,.int .i64 0,.int .i64 0,.slice none 0 0] 61 (0,0)):=by
  rw [<-hW0,Below.heap_alloc _ _ _ (by simp;omega),Below.heap_alloc _ _ _ (by simp)];exact heap_alloc_new w _
 have hN0:W0.heap[w.heap.size+1]? =some (Tu []):=by
  rw [<-hW0,Below.heap_alloc _ _ _ (by simp)]
  have:=heap_alloc_new (w.alloc (.cells #[.int .i64 0,.int .i64 0,.int .i64 0,.int .i64 0,.slice none 0 0] 61)) (.cells #[.int .i64 0,.int .i64 0,.int .i64 0,.int .i64 0] 198)
  rw [World.size_alloc] at this
  exact this
 have hQ0:W0.heap[w.heap.size+2]? =some Di:=by
  rw [<-hW0]
  have:=heap_alloc_new ((w.alloc (.cells #[.int .i64 0,.int .i64 0,.int .i64 0,.int .i64 0,.slice none 0 0] 61)).alloc (.cells #[.int .i64 0,.int .i64 0,.int .i64 0,.int .i64 0] 198)) (.cells #[.string ⟨#[64,64,32,45]⟩,.string ⟨#[44]⟩,.string ⟨#[32,43]⟩,.string ⟨#[44]⟩] 9)
  rw [World.size_alloc,World.size_alloc] at this
  exact this
 go_enter func123,ntmps123
 go_wp2_with fail
 clear hW0
 go_loopg [5,7] 4 (fun g t5 t7 wr=> ∃(xs:List Nat) (p i:Nat),g=4-i/\i<=4/\Hid (xs.length=i)/\t5= .int .i64 p/\t7= .int .i64 i/\p<=s.size/\Hid (ZE s xs p)/\wr.heap[w.heap.size+1]? =some (Tu xs)/\wr.heap[w.heap.size]? =some (.cells #[.int .i64 0,.int .i64 0,.int .i64 0,.int .i64 0,.slice none 0 0] 61 (0,0))/\wr.heap[w.heap.size+2]? =some Di/\Below w.heap.size w wr)
 case atStart=>exact ⟨[],0,0,rfl,by omega,rfl,rfl,rfl,by omega,ZE.start s,hN0,hH0,hQ0,hb0⟩
 case round=>
  obtain ⟨xs,p,i,hgk,hi4,hxl,rfl,rfl,hps,hd,hN,hH,hQ,hbel⟩:=hrel
  have hG:Hid (_=4-i):=hgk
  clear hgk hN0 hH0 hQ0 hb0
  have hlt1:w.heap.size+2<wr.heap.size:=(Array.getElem?_eq_some_iff.1 hQ).1
  have k0:wr.cell? ⟨w.heap.size,0,none⟩=some (.int .i64 0):=za hH rfl
  have k1:wr.cell? ⟨w.heap.size,1,none⟩=some (.int .i64 0):=za hH rfl
  have k2:wr.cell? ⟨w.heap.size,2,none⟩=some (.int .i64 0):=za hH rfl
  have k3:wr.cell? ⟨w.heap.size,3,none⟩=some (.int .i64 0):=za hH rfl
  have k4:wr.cell? ⟨w.heap.size,4,none⟩=some (.slice none 0 0):=za hH rfl
  have kf: ∀k,wr.frozen? ⟨w.heap.size,k,none⟩=false:=fun k=>zi hH
  have hfail:Hid ((∀a b c d:Nat,a<=100000->b<=100000->c<=100000->d<=100000->s.data.toList≠yv a b c d)->YT s.data.toList (.returned (.tuple #[.agg #[.int .i64 0,.int .i64 0,.int .i64 0,.int .i64 0,.slice none 0 0],.bool false]))):=fun h=> .inr ⟨h,⟨0,0,0,0,[]⟩,rfl,rfl⟩
  by_cases hi:i<4
  ·have hiI:(i:Int)<4:=by omega
   have hwd:wr.cell? ⟨w.heap.size+2,i,none⟩=some (.string (wordB i)):=by
    rcases (by omega:i=0\/i=1\/i=2\/i=3) with rfl | rfl | rfl | rfl<;>exact za hQ rfl
   have hnc: ∃v,wr.cell? ⟨w.heap.size+1,i,none⟩=some (.int .i64 v):=by
    rcases (by omega:i=0\/i=1\/i=2\/i=3) with rfl | rfl | rfl | rfl<;>exact ⟨_,za hN rfl⟩
   obtain ⟨nv,hnc⟩:=hnc
   have hnf: ∀k,wr.frozen? ⟨w.heap.size+1,k,none⟩=false:=fun k=>zi hN
   have hwz:1<=(wordB i).size/\(wordB i).size<=4:=by rw [Zi];exact JK i
   have h4:Hid (xs.length<4):=by show _<_;rw [hxl.out];exact hi
   by_cases hlong:(s.size:Int)<p+(wordB i).size
   ·have hno:=hd.out.noword h4.out (.inl (by rw [hxl.out];omega))
    have hE:Hid _:=hfail.out hno
    clear hno hfail hd hQ hN hnc hnf
    generalize wordB i=wd at *
    go_wp2_with fail
    refine bodyPost_ret (v:= .tuple #[.agg #[.int .i64 0,.int .i64 0,.int .i64 0,.int .i64 0,.slice none 0 0],.bool false]) ?_ rfl ⟨hE.out,?_⟩
    ·simp [results,results123,go_sem,k0,k1,k2,k3,k4]
    ·exact ((((hbel.setCell (p:=⟨w.heap.size,0,none⟩) (Nat.le_refl _) _).setCell (p:=⟨w.heap.size,1,none⟩) (Nat.le_refl _) _).setCell (p:=⟨w.heap.size,2,none⟩) (Nat.le_refl _) _).setCell (p:=⟨w.heap.size,3,none⟩) (Nat.le_refl _) _).setCell (p:=⟨w.heap.size,4,none⟩) (Nat.le_refl _) _
   ·have hl1:(p:Int)+(wordB i).size<=s.size:=by omega
    by_cases hwe:s.extract p (p+(wordB i).size)=wordB i
    ·have hq1:((s.extract p (p+(wordB i).size)).toList==(wordB i).toList)=true:=by rw [hwe];simp
     have hq2:((s.extract p (p+(wordB i).size)).toList !=(wordB i).toList)=false:=by rw [hwe];simp
     have hfg:=Gs s (p+(wordB i).size) wr (by omega) hs
     have hnx:Hid (∀n,Fig (s.data.toList.drop (p+(wordB i).size)) n (s.data.toList.drop (p+(wordB i).size+(Lib.decDigits n).length))->ZE s (xs++ [n]) (p+(wordB i).size+(Lib.decDigits n).length)):=by
      intro n hf
      have h:=hd.out.next (n:=n) h4.out (by rw [hxl.out];omega) (by rw [hxl.out];exact hwe) (by rw [hxl.out];exact hf)
      rw [hxl.out] at h
      exact h
     have hnn:Hid ((∀m E,¬Fig (s.data.toList.drop (p+(wordB i).size)) m E)-> ∀a b c d:Nat,a<=100000->b<=100000->c<=100000->d<=100000->s.data.toList≠yv a b c d):=by
      intro hno
      exact hd.out.nofig h4.out (by rw [hxl.out];exact hno)
     clear hwe hd
     push_cast at hfg
     generalize wordB i=wd at *
     go_wp2_with fail
     refine hfg.mono ?_
     rintro e w2 ⟨hfe,rfl⟩
     rcases hfe with ⟨n,hf,rfl⟩ | ⟨hno,rfl⟩
     ·have hnx2:Hid _:=hnx.out n hf
      have hn5:n<=100000:=hf.1
      clear hf hnx hnn hfail
      have hn0: ¬(n:Int)<0:=by omega
      have hset:=zb wr (w.heap.size+1) i (.int .i64 (n:Int)) _ _ _ hN
      have hso: ∀g,g≠w.heap.size+1->(wr.setCell ⟨w.heap.size+1,i,none⟩ (.int .i64 (n:Int))).heap[g]? =wr.heap[g]? :=fun g hg=>zd _ _ _ _ _ hg
      generalize Lib.decDigits n=dn at *
      go_wp2_with fail
      go_roundg (4-(i+1))
      ·refine ⟨xs++ [n],p+wd.size+dn.length,i+1,rfl,by omega,by show _=_;rw [List.length_append,hxl.out];rfl,by push_cast;rfl,by push_cast;rfl,hnx2.out.le,hnx2.out,?_,(hso _ (by omega)).trans hH,(hso _ (by omega)).trans hQ,hbel.setCell (p:=⟨w.heap.size+1,i,none⟩) (by show w.heap.size<=w.heap.size+1;omega) _⟩
       rw [hset]
       have:=Da (n:=n) h4.out
       rw [hxl.out] at this
       rw [this]
      ·have:=hG.out;omega
     ·have hE:Hid _:=hfail.out (hnn.out hno)
      clear hno hnx hnn hfail
      go_wp2_with fail
      refine bodyPost_ret (v:= .tuple #[.agg #[.int .i64 0,.int .i64 0,.int .i64 0,.int .i64 0,.slice none 0 0],.bool false]) ?_ rfl ⟨hE.out,?_⟩
      ·simp [results,results123,go_sem,k0,k1,k2,k3,k4]
      ·exact ((((hbel.setCell (p:=⟨w.heap.size,0,none⟩) (Nat.le_refl _) _).setCell (p:=⟨w.heap.size,1,none⟩) (Nat.le_refl _) _).setCell (p:=⟨w.heap.size,2,none⟩) (Nat.le_refl _) _).setCell (p:=⟨w.heap.size,3,none⟩) (Nat.le_refl _) _).setCell (p:=⟨w.heap.size,4,none⟩) (Nat.le_refl _) _
    ·have hq1:((s.extract p (p+(wordB i).size)).toList==(wordB i).toList)=false:=Xj hwe
     have hq2:((s.extract p (p+(wordB i).size)).toList !=(wordB i).toList)=true:=by simp [bne,hq1]
     have hno:=hd.out.noword h4.out (.inr (by rw [hxl.out];exact hwe))
     have hE:Hid _:=hfail.out hno
     clear hno hfail hwe hd
     generalize wordB i=wd at *
     go_wp2_with fail
     refine bodyPost_ret (v:= .tuple #[.agg #[.int .i64 0,.int .i64 0,.int .i64 0,.int .i64 0,.slice none 0 0],.bool false]) ?_ rfl ⟨hE.out,?_⟩
     ·simp [results,results123,go_sem,k0,k1,k2,k3,k4]
     ·exact ((((hbel.setCell (p:=⟨w.heap.size,0,none⟩) (Nat.le_refl _) _).setCell (p:=⟨w.heap.size,1,none⟩) (Nat.le_refl _) _).setCell (p:=⟨w.heap.size,2,none⟩) (Nat.le_refl _) _).setCell (p:=⟨w.heap.size,3,none⟩) (Nat.le_refl _) _).setCell (p:=⟨w.heap.size,4,none⟩) (Nat.le_refl _) _
  ·obtain rfl:i=4:=by omega
   obtain ⟨a,b,c,d,rfl,ha,hb,hc,hdd,hy,hn⟩:=hd.out.done hxl.out
   have hpI:(p:Int)<=s.size:=by omega
   have hE:Hid (YT s.data.toList (.returned (.tuple #[.agg #[.int .i64 (a:Int),.int .i64 (b:Int),.int .i64 (c:Int),.int .i64 (d:Int),.slice none 0 0],.bool ((s.extract p s.size).toList==(⟨#[32,64,64]⟩:ByteArray).toList)]))):=by
    show YT _ _
    by_cases he:s.extract p s.size=⟨#[32,64,64]⟩
    ·rw [he]
     exact .inl ⟨a,b,c,d,ha,hb,hc,hdd,hy he,by simp⟩
    ·rw [Xj he]
     exact .inr ⟨hn he,⟨a,b,c,d,[]⟩,rfl,rfl⟩
   clear hy hn hfail hd
   have hNN:wr.drew.heap[w.heap.size+1]? =some (.cells #[.int .i64 (a:Int),.int .i64 (b:Int),.int .i64 (c:Int),.int .i64 (d:Int)] 198 (0,0)):=hN
   generalize hEQ:((s.extract p s.size).toList==(⟨#[32,64,64]⟩:ByteArray).toList)=eq at *
   have hEQ3:((s.extract p s.size).toList== [32,64,64])=eq:=by rw [<-hEQ,show (⟨#[32,64,64]⟩:ByteArray).toList= [32,64,64] by rw [Lib.toList_data]]
   go_wp2_with fail
   refine wp_region_any yg (yS.any (I:=fun w'=>w'.heap[w.heap.size+1]? =some (.cells #[.int .i64 (a:Int),.int .i64 (b:Int),.int .i64 (c:Int),.int .i64 (d:Int)] 198 (0,0))) ?_)
   refine zp (i:=0) (n:=14) (v:= .pointer (some ⟨w.heap.size+1,0,none⟩)) rfl (by kernel_rfl) (fun c a w h=>h) ⟨by simp [Region.wanted],fun w' hw=> ?_⟩ ?_
   ·simp [execOp,go_sem,Act.eval]
   refine zp (i:=1) (n:=13) (v:= .int .i64 (a:Int)) rfl (by kernel_rfl) (fun c a w h=>h) ⟨by simp [Region.wanted],fun w' hw=> ?_⟩ ?_
   ·have hc:w'.cell? ⟨w.heap.size+1,0,none⟩=some (.int .i64 (a:Int)):=za (k:=0) hw rfl;simp [execOp,go_sem,Act.eval,Act.put,hc]
   refine zp (i:=2) (n:=12) (v:= .pointer (some ⟨w.heap.size+1,1,none⟩)) rfl (by kernel_rfl) (fun c a w h=>h) ⟨by simp [Region.wanted],fun w' hw=> ?_⟩ ?_
   ·simp [execOp,go_sem,Act.eval,Act.put]
   refine zp (i:=3) (n:=11) (v:= .int .i64 (b:Int)) rfl (by kernel_rfl) (fun c a w h=>h) ⟨by simp [Region.wanted],fun w' hw=> ?_⟩ ?_
   ·have hc:w'.cell? ⟨w.heap.size+1,1,none⟩=some (.int .i64 (b:Int)):=za (k:=1) hw rfl;simp [execOp,go_sem,Act.eval,Act.put,hc]
   refine zp (i:=4) (n:=10) (v:= .pointer (some ⟨w.heap.size+1,2,none⟩)) rfl (by kernel_rfl) (fun c a w h=>h) ⟨by simp [Region.wanted],fun w' hw=> ?_⟩ ?_
   ·simp [execOp,go_sem,Act.eval,Act.put]
   refine zp (i:=5) (n:=9) (v:= .int .i64 (c:Int)) rfl (by kernel_rfl) (fun c a w h=>h) ⟨by simp [Region.wanted],fun w' hw=> ?_⟩ ?_
   ·have hc:w'.cell? ⟨w.heap.size+1,2,none⟩=some (.int .i64 (c:Int)):=za (k:=2) hw rfl;simp [execOp,go_sem,Act.eval,Act.put,hc]
   refine zp (i:=6) (n:=8) (v:= .pointer (some ⟨w.heap.size+1,3,none⟩)) rfl (by kernel_rfl) (fun c a w h=>h) ⟨by simp [Region.wanted],fun w' hw=> ?_⟩ ?_
   ·simp [execOp,go_sem,Act.eval,Act.put]
   refine zp (i:=7) (n:=7) (v:= .int .i64 (d:Int)) rfl (by kernel_rfl) (fun c a w h=>h) ⟨by simp [Region.wanted],fun w' hw=> ?_⟩ ?_
   ·have hc:w'.cell? ⟨w.heap.size+1,3,none⟩=some (.int .i64 (d:Int)):=za (k:=3) hw rfl;simp [execOp,go_sem,Act.eval,Act.put,hc]
   refine zp (i:=8) (n:=6) (v:= .agg #[.int .i64 (a:Int),.int .i64 (b:Int),.int .i64 (c:Int),.int .i64 (d:Int),.slice none 0 0]) rfl (by kernel_rfl) (fun c a w h=>h) ⟨by simp [Region.wanted],fun w' hw=> ?_⟩ ?_
   ·simp [execOp,go_sem,Act.eval,Act.put]
   refine zp (i:=9) (n:=5) (v:= .string s) rfl (by kernel_rfl) (fun c a w h=>h) ⟨by simp [Region.wanted],fun w' hw=> ?_⟩ ?_
   ·simp [execOp,go_sem,Act.eval,Act.put]
   refine zp (i:=10) (n:=4) (v:= .int .i64 (p:Int)) rfl (by kernel_rfl) (fun c a w h=>h) ⟨by simp [Region.wanted],fun w' hw=> ?_⟩ ?_
   ·simp [execOp,go_sem,Act.eval,Act.put]
   refine zp (i:=11) (n:=3) (v:= .string (s.extract p s.size)) rfl (by kernel_rfl) (fun c a w h=>h) ⟨by simp [Region.wanted],fun w' hw=> ?_⟩ ?_
   ·have hnl: ¬s.size<p:=Nat.not_lt.2 hps;simp [execOp,go_sem,Act.eval,Act.put,hnl]
   refine zp (i:=12) (n:=2) (v:= .bool eq) rfl (by kernel_rfl) (fun c a w h=>h) ⟨by simp [Region.wanted],fun w' hw=> ?_⟩ ?_
   ·have hq2:((s.extract p s.size).toList== [32,64,64])=eq:=hEQ3;simp [execOp,go_sem,Act.eval,Act.put,hq2]
   refine yy (i:=13) (n:=1) hNN (by kernel_rfl) ?_
   refine xv (w':=((((wr.drew.setCell ⟨w.heap.size,0,none⟩ (.int .i64 (a:Int))).setCell ⟨w.heap.size,1,none⟩ (.int .i64 (b:Int))).setCell ⟨w.heap.size,2,none⟩ (.int .i64 (c:Int))).setCell ⟨w.heap.size,3,none⟩ (.int .i64 (d:Int))).setCell ⟨w.heap.size,4,none⟩ (.slice none 0 0)) rfl rfl ?_ ?_
   ·simp [execOp,go_sem,Act.eval,Act.put,k0,k1,k2,k3,k4,kf]
   have hHd:wr.drew.heap[w.heap.size]? =some (.cells #[.int .i64 0,.int .i64 0,.int .i64 0,.int .i64 0,.slice none 0 0] 61 (0,0)):=hH
   have hF:=zb _ _ 4 (.slice none 0 0) _ _ _ (zb _ _ 3 (.int .i64 (d:Int)) _ _ _ (zb _ _ 2 (.int .i64 (c:Int)) _ _ _ (zb _ _ 1 (.int .i64 (b:Int)) _ _ _ (zb _ _ 0 (.int .i64 (a:Int)) _ _ _ hHd))))
   have hbF:=((((hbel.drew.setCell (p:=⟨w.heap.size,0,none⟩) (Nat.le_refl _) (.int .i64 (a:Int))).setCell (p:=⟨w.heap.size,1,none⟩) (Nat.le_refl _) (.int .i64 (b:Int))).setCell (p:=⟨w.heap.size,2,none⟩) (Nat.le_refl _) (.int .i64 (c:Int))).setCell (p:=⟨w.heap.size,3,none⟩) (Nat.le_refl _) (.int .i64 (d:Int))).setCell (p:=⟨w.heap.size,4,none⟩) (Nat.le_refl _) (.slice none 0 0)
   refine zp (i:=14) (n:=0) (v:= .bool eq) rfl (by kernel_rfl) (fun c a w h=>h) ⟨by simp [Region.wanted],fun w' hw=> ?_⟩ ?_
   ·simp [execOp,go_sem,Act.eval,Act.put]
   refine qi ?_ (by kernel_rfl) ?_
   ·show _=_
    rw [zd _ _ _ _ _ (by omega),zd _ _ _ _ _ (by omega),zd _ _ _ _ _ (by omega),zd _ _ _ _ _ (by omega),zd _ _ _ _ _ (by omega)]
    exact hNN
   generalize ((((wr.drew.setCell ⟨w.heap.size,0,none⟩ (.int .i64 (a:Int))).setCell ⟨w.heap.size,1,none⟩ (.int .i64 (b:Int))).setCell ⟨w.heap.size,2,none⟩ (.int .i64 (c:Int))).setCell ⟨w.heap.size,3,none⟩ (.int .i64 (d:Int))).setCell ⟨w.heap.size,4,none⟩ (.slice none 0 0)=WF at *
   have s0:WF.cell? ⟨w.heap.size,0,none⟩=some (.int .i64 (a:Int)):=za (k:=0) hF rfl
   have s1:WF.cell? ⟨w.heap.size,1,none⟩=some (.int .i64 (b:Int)):=za (k:=1) hF rfl
   have s2:WF.cell? ⟨w.heap.size,2,none⟩=some (.int .i64 (c:Int)):=za (k:=2) hF rfl
   have s3:WF.cell? ⟨w.heap.size,3,none⟩=some (.int .i64 (d:Int)):=za (k:=3) hF rfl
   have s4:WF.cell? ⟨w.heap.size,4,none⟩=some (.slice none 0 0):=za (k:=4) hF rfl
   go_wp2_with fail
   refine bodyPost_ret (v:= .tuple #[.agg #[.int .i64 (a:Int),.int .i64 (b:Int),.int .i64 (c:Int),.int .i64 (d:Int),.slice none 0 0],.bool eq]) ?_ rfl ⟨hE.out,hbF⟩
   simp [results,results123,go_sem,s0,s1,s2,s3,s4]
theorem kD {P:Program} (w:World) (base:Nat) (t ty e:TypeId) (i:TypeInfo) (z:Value) (size bytes:Nat) (h1:P.underlying t=some (.slice e)) (h2:P.info? e=some i) (h3:i.zero=some z) (h4:i.size=size) (h5:i.bytes=bytes) (h6:z.cells.size=size) (h7:0<size)
 (v:Value) (n:Nat) (xs:List Value) (hown:w.ownsRow base e size v n xs)
 (ad:Addr) (m c:Nat) (news:List Value) (hn:news.length=m*size) (hc: ∀j u,news[j]? =some u->w.cell? (ad.add j)=some u) (h1c: ∀u∈news,u.oneCell'=true)
 (b1:n+m<=maxLen) (b2:(n+m)*bytes<=140737488355328) (hbase:base<=w.heap.size):
 ∃v' w',(Builtin.append_ #[t,t] ty #[v,.slice (some ad) m c]).run P w= .ok v' w'/\w'.ownsRow base e size v' (n+m) (xs++news)/\
  ((v'.ownBlock=v.ownBlock/\w.grownBy w' v.ownBlock)\/((∀g,v'.ownBlock=some g->w.heap.size<=g)/\w.grownBy w' none)):=by
 obtain ⟨v',w',hr,r2,r3,_⟩:=run_append_own (P:=P) w base t ty e i z size bytes h1 h2 h3 h4 h5 h6 h7 v n xs hown ad m c news hn hc h1c b1 b2 hbase
 refine ⟨v',w',hr,r2,?_⟩
 rcases hown.2 with ⟨rfl,rfl⟩ | ⟨g,cap,cur,rfl,hbg,hg,hnc,hcm,hcs,htake⟩
 ·have hx:xs= []:=List.eq_nil_of_length_eq_zero (by simpa using hown.1)
  subst hx
  obtain ⟨v2,w2,hr2,s2,_,_⟩:=run_append_own (P:=P) w w.heap.size t ty e i z size bytes h1 h2 h3 h4 h5 h6 h7 (.slice none 0 0) 0 [] (World.ownsRow_nil w _ e size) ad m c news hn hc h1c b1 b2 (Nat.le_refl _)
  rw [hr] at hr2
  cases hr2
  exact .inr ⟨fun g hg=>(s2.lt g hg).1,r3⟩
 ·by_cases hroom:n+m<=cap
  ·subst h4
   have hfit:n*i.size+news.length<=cur.size:=by rw [hn,hcs,<-Nat.add_mul];exact Nat.mul_le_mul_right _ hroom
   have hr2:=run_append_room (P:=P) w t ty e i h1 h2 g n cap cur hg ad m c news hn hc h1c hroom hfit
   rw [hr] at hr2
   cases hr2
   exact .inl ⟨rfl,r3⟩
  ·have holds: ∀j u,xs[j]? =some u->w.cell? ((⟨g,0,none⟩:Addr).add j)=some u:=hown.cells (g:=g) rfl
   obtain ⟨v2,w2,hr2,s2,s3⟩:=run_append_arg_grows (P:=P) w t ty e i z size bytes h1 h2 h3 h4 h5 h6 h7 ⟨g,0,none⟩ n cap xs hown.1 holds ad m c news hn hc (by omega) b1 b2
   rw [hr] at hr2
   cases hr2
   exact .inr ⟨fun k hk=>(s2.lt k hk).1,s3⟩
theorem xr {P:Program} {ops:Array Oper} {rest:List Oper} {o:Oper} {a:Act} {w:World} {Q:Exit->Act->World->Prop} (hgd:o.guard=none) (s x:Operand) (t:TypeId)
 (ho:o.op= .call { callee:= .builtin .append,args:= #[s,x],argTypes:= #[t,t] })
 (base:Nat) (e:TypeId) (i:TypeInfo) (z:Value) (size bytes:Nat) (ht:P.underlying t=some (.slice e)) (hi:P.info? e=some i) (hz:i.zero=some z)
 (hsize:i.size=size) (hby:i.bytes=bytes) (hzs:z.cells.size=size) (hsz:0<size)
 (v:Value) (n:Nat) (xs:List Value) (hs:a.eval s=v) (hown:w.ownsRow base e size v n xs)
 (ad:Addr) (m c:Nat) (news:List Value) (hx:a.eval x= .slice (some ad) m c) (hl:news.length=m*size) (hnews: ∀j u,news[j]? =some u->w.cell? (ad.add j)=some u) (h1: ∀u∈news,u.oneCell'=true)
 (h63:n+m<=maxLen) (hbytes:(n+m)*bytes<=140737488355328) (hbase:base<=w.heap.size)
 (h: ∀v' w',w'.ownsRow base e size v' (n+m) (xs++news)->((v'.ownBlock=v.ownBlock/\w.grownBy w' v.ownBlock)\/((∀g,v'.ownBlock=some g->w.heap.size<=g)/\w.grownBy w' none))->wpList P ops Q rest (a.put o.dst v') w'):wpList P ops Q (o::rest) a w:=by
 refine wpList_plain hgd fun K hK=> ?_
 obtain ⟨v',w',hr,r1,r2⟩:=kD (P:=P) w base t o.type e i z size bytes ht hi hz hsize hby hzs hsz v n xs hown ad m c news hl hnews h1 h63 hbytes hbase
 unfold Oper.wp execOp
 simp only [ho,resolve,invoke,builtin,Sem.run_bind,Sem.run_pure,Result.andThen_ok,List.map_toArray,List.map_cons,List.map_nil,hs,hx,hr]
 exact hK _ _ (h v' w' r1 r2)
theorem zu {w w':World} {base e size n:Nat} {v:Value} {xs:List Value} (h:w.ownsRow base e size v n xs) (hs: ∀g,v.ownBlock=some g->w'.heap[g]? =w.heap[g]?):w'.ownsRow base e size v n xs:=by
 refine ⟨h.1,?_⟩
 rcases h.2 with h | ⟨g,cap,cur,rfl,hb,hg,r⟩
 ·exact .inl h
 ·exact .inr ⟨g,cap,cur,rfl,hb,(hs g rfl).trans hg,r⟩
def qx (T k:Nat) (pat:List Value) (W:World) (v:Value):Prop:=
 ∃al n cl,v= .slice al n cl/\n<=2000000/\((n=0/\al=none)\/ ∃g cur fr,al=some ⟨g,0,none⟩/\W.heap[g]? =some (.cells cur T fr)/\ ∀i,i<n-> ∀j,j<k->cur[i*k+j]? =pat[j]?)
theorem qx.lt {T k:Nat} {pat:List Value} {W:World} {v:Value} (h:qx T k pat W v): ∀g,v.ownBlock=some g->g<W.heap.size/\ ∃cur fr,W.heap[g]? =some (.cells cur T fr):=by
 intro g hg
 obtain ⟨al,n,cl,rfl,hn,h⟩:=h
 rcases h with ⟨_,rfl⟩ | ⟨g2,cur,fr,rfl,hg2,hc⟩
 ·cases hg
 ·cases hg
  exact ⟨(Array.getElem?_eq_some_iff.1 hg2).1,cur,fr,hg2⟩
theorem qx.same {T k:Nat} {pat:List Value} {W W':World} {v:Value} (h:qx T k pat W v) (hs: ∀g,v.ownBlock=some g->(∃cur fr,W.heap[g]? =some (.cells cur T fr))->W'.heap[g]? =W.heap[g]?):qx T k pat W' v:=by
 obtain ⟨al,n,cl,rfl,hn,h⟩:=h
 refine ⟨al,n,cl,rfl,hn,?_⟩
 rcases h with h | ⟨g,cur,fr,rfl,hg,hc⟩
 ·exact .inl h
 ·exact .inr ⟨g,cur,fr,rfl,(hs g rfl ⟨cur,fr,hg⟩).trans hg,hc⟩
def zP (pat:List Value):Nat->List Value
 | 0=> []
 | n+1=>zP pat n++pat
theorem zW (pat:List Value): ∀n,(zP pat n).length=n*pat.length
 | 0=>by simp [zP]
 | n+1=>by rw [zP,List.length_append,zW pat n,Nat.succ_mul]
theorem jn (pat:List Value): ∀(n i j:Nat),i<n->j<pat.length->(zP pat n)[i*pat.length+j]? =pat[j]?
 | 0,i,j,h,_=>by omega
 | n+1,i,j,h,hj=>by
   rw [zP]
   by_cases hi:i<n
   ·have h1:i*pat.length+j<n*pat.length:=by
     have:(i+1)*pat.length<=n*pat.length:=Nat.mul_le_mul_right _ hi
     rw [Nat.succ_mul] at this
     omega
    rw [List.getElem?_append_left (by rw [zW];exact h1),jn pat n i j hi hj]
   ·obtain rfl:i=n:=by omega
    rw [List.getElem?_append_right (by rw [zW];omega),zW]
    congr 1
    omega
theorem qx.of_owns {base T n m:Nat} {pat:List Value} {W:World} {v:Value} {al:Option Addr} {cl:Nat} (h:W.ownsRow base T pat.length v n (zP pat n)) (hm:m<=n) (hn:n<=2000000) (hv:v.ownBlock=(Value.slice al m cl).ownBlock) (hal: ∀a,al=some a->a=⟨a.block,0,none⟩):qx T pat.length pat W (.slice al m cl):=by
 refine ⟨al,m,cl,rfl,by omega,?_⟩
 rcases h.2 with ⟨rfl,h0⟩ | ⟨g,cap,cur,rfl,hb,hg,h1,h2,h3,h4⟩
 ·left
  refine ⟨by omega,?_⟩
  cases al with
  | none=>rfl
  | some a=>simp [Value.ownBlock] at hv
 ·right
  cases al with
  | none=>simp [Value.ownBlock] at hv
  | some a=>
    simp [Value.ownBlock] at hv
    refine ⟨g,cur,_,?_,hg,fun i hi j hj=> ?_⟩
    ·rw [hal a rfl,<-hv]
    ·rw [<-jn pat n i j (by omega) hj,<-h4,List.getElem?_take]
     have hlt:i*pat.length+j<n*pat.length:=by
      have:(i+1)*pat.length<=n*pat.length:=Nat.mul_le_mul_right _ (by omega)
      rw [Nat.succ_mul] at this
      omega
     rw [if_pos hlt]
     simp
end Go.Proofs.YtcclgodahlinbaaGreatDoor
