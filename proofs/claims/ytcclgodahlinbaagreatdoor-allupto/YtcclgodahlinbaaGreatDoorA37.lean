import Derived.Test.YtcclgodahlinbaaGreatDoorA20
import Derived.BigQuiet
import Derived.Deep.QuietTactic
import Derived.Test.YtcclgodahlinbaaGreatDoorA36
import Derived.Test.YtcclgodahlinbaaGreatDoorA31
namespace Go.Proofs.YtcclgodahlinbaaGreatDoor
set_option maxHeartbeats 16000000
open Tryz Go.RowKit Go
set_option maxRecDepth 100000
theorem EI {W:World} {g o t:Nat} {cur:Array Value} {fr:Nat×Nat} (h:W.heap[g]? =some (.cells cur t fr)):W.cell? ⟨g,o,none⟩=cur[o]? :=by
 cases hc:cur[o]? with
 | some v=>exact za h hc
 | none=>simp [World.cell?,h,hc]
theorem ZJ.look {base rowT markT T k:Nat} {pat:Value->List Value} {v vm:Value} {E:List (Value×Value)} {W:World} (K:ZJ base rowT markT T k pat v vm E W):
 ∃a c a' c',v= .slice a E.length c/\vm= .slice a' E.length c'/\ ∀i,i<E.length-> ∃g g' al n cl mv,a=some ⟨g,0,none⟩/\a'=some ⟨g',0,none⟩/\n<=2000000/\JR markT mv/\(∀W',Below W.heap.size W W'->W'.cell? ⟨g,i,none⟩=some (.slice al n cl)/\W'.cell? ⟨g',i,none⟩=some mv)/\
  ∀j,j<n-> ∃b,al=some ⟨b,0,none⟩/\b<W.heap.size/\ ∀W',Below W.heap.size W W'-> ∀t,t<k->W'.cell? ⟨b,j*k+t,none⟩=(pat mv)[t]? :=by
 obtain ⟨a,c,e1⟩:=zn K.row
 obtain ⟨a',c',e2⟩:=zn K.marks
 refine ⟨a,c,a',c',e1,e2,fun i hi=> ?_⟩
 have r1:=K.row
 have r2:=K.marks
 rw [e1] at r1
 rw [e2] at r2
 obtain ⟨g,_,e3,_,hg,_⟩:=zv r1 (by omega)
 obtain ⟨g',_,e4,_,hg',_⟩:=zv r2 (by omega)
 have hag:a=some ⟨g,0,none⟩:=by cases e3;rfl
 have hag':a'=some ⟨g',0,none⟩:=by cases e4;rfl
 subst hag
 subst hag'
 have c1:=r1.cellAt i (by omega)
 have c2:=r2.cellAt i (by omega)
 have hi1:i<(E.map (·.1)).length:=by simpa using hi
 have hi2:i<(E.map (·.2)).length:=by simpa using hi
 rw [List.getElem?_eq_getElem hi1,List.getElem_map] at c1
 rw [List.getElem?_eq_getElem hi2,List.getElem_map] at c2
 obtain ⟨al,n,cl,e5,hn,hM⟩:=K.ok E[i] (List.getElem_mem hi)
 rw [e5] at c1
 refine ⟨g,g',al,n,cl,E[i].2,rfl,rfl,hn,K.mv E[i] (List.getElem_mem hi),fun W' hb=>⟨(hb.cell (p:=⟨g,i,none⟩) hg).trans c1,(hb.cell (p:=⟨g',i,none⟩) hg').trans c2⟩,fun j hj=> ?_⟩
 rcases hM with ⟨h0,_⟩ | ⟨b,cur,fr,rfl,hbb,hc⟩
 ·omega
 ·have hlt:=(Array.getElem?_eq_some_iff.1 hbb).1
  refine ⟨b,rfl,hlt,fun W2 hb2 t ht=> ?_⟩
  rw [<-hc j hj t ht,hb2.cell (p:=⟨b,j*k+t,none⟩) hlt]
  exact EI hbb
theorem DS {base wb:Nat} {x:WV} {B:Bk} {w:World} (K:zC base wb x B w) (lh:B.h.length<=900000000000) (ll:B.l.length<=900000000000) (ls:B.s.length<=900000000000) (lr:B.r.length<=900000000000):
 Calls prog 22 #[.pointer (some ⟨wb,0,none⟩)] w fun e w'=>e= .returned (.bool true)/\Below w.heap.size w w':=by
 have hwb:wb<w.heap.size:=(Array.getElem?_eq_some_iff.1 K.blk).1
 have hx:Hid (∀W,Below w.heap.size w W->W.heap[wb]? =some x.obj):=fun W hb=>(hb.block wb hwb).trans K.blk
 obtain ⟨ah,ch,ah',ch',eh,ehm,Lh⟩:=K.h.look
 obtain ⟨al,cl,al',cl',el,elm,Ll⟩:=K.l.look
 obtain ⟨aS,cs,aS',cs',es,esm,Ls⟩:=K.s.look
 obtain ⟨ar,cr,ar',cr',er,erm,Lr⟩:=K.r.look
 have Lh:Hid _:=Lh
 have Ll:Hid _:=Ll
 have Ls:Hid _:=Ls
 have Lr:Hid _:=Lr
 have hcell:Hid (∀W,Below w.heap.size w W->W.cell? ⟨wb,0,none⟩=some (.slice ah B.h.length ch)/\W.cell? ⟨wb,1,none⟩=some (.slice ah' B.h.length ch')/\W.cell? ⟨wb,2,none⟩=some (.slice al B.l.length cl)/\W.cell? ⟨wb,3,none⟩=some (.slice al' B.l.length cl')/\W.cell? ⟨wb,4,none⟩=some (.slice aS B.s.length cs)/\W.cell? ⟨wb,5,none⟩=some (.slice aS' B.s.length cs')/\W.cell? ⟨wb,6,none⟩=some (.slice ar B.r.length cr)/\W.cell? ⟨wb,7,none⟩=some (.slice ar' B.r.length cr')):=by
  intro W hb
  have h:=hx.out W hb
  rw [<-eh,<-ehm,<-el,<-elm,<-es,<-esm,<-er,<-erm]
  exact ⟨za h rfl,za h rfl,za h rfl,za h rfl,za h rfl,za h rfl,za h rfl,za h rfl⟩
 have nh:Hid (B.h.length=B.h.length):=rfl
 generalize B.h.length=Nh at *
 generalize B.l.length=Nl at *
 generalize B.s.length=Ns at *
 generalize B.r.length=Nr at *
 clear K hx eh ehm el elm es esm er erm nh
 have e0: ∀x:Int,(x !=x)=false:=by simp
 have e1: ∀x:ByteArray,(x.toList==x.toList)=true:=by simp
 go_enter func22,ntmps22
 go_wp2_with fail
 go_loopg [3] Nh (fun g t wr=> ∃i:Nat,g=Nh-i/\i<=Nh/\t= .int .i64 i/\Below w.heap.size w wr)
 case atStart=>exact ⟨0,by omega,by omega,rfl,Below.refl _ _⟩
 case round=>
  rename World=>wr
  obtain ⟨i,hgi,hiN,rfl,hbr⟩:=hrel
  have hG:Hid (_=Nh-i):=hgi
  clear hgi
  have hc:=hcell.out wr hbr
  have p0:=hc.1
  clear hc
  by_cases hi:i<Nh
  ·have hiI:(i:Int)<Nh:=by omega
   obtain ⟨g,g',ae,n,ce,mv,rfl,rfl,hn,hmv,hd,hel⟩:=Lh.out i hi
   have hd:Hid _:=hd
   have hel:Hid _:=hel
   obtain ⟨d0,d1⟩:=hd.out wr hbr
   obtain ⟨c,hcb,rfl⟩:=hmv.1 rfl
   clear hmv
   go_wp2_with fail
   go_loopg [4] n (fun g t wi=> ∃k:Nat,g=n-k/\k<=n/\t= .int .i64 k/\Below w.heap.size w wi)
   case atStart=>exact ⟨0,by omega,by omega,rfl,hbr⟩
   case round=>
    rename World=>wi
    obtain ⟨k,hgk,hkn,rfl,hbi⟩:=hrel
    have hGk:Hid (_=n-k):=hgk
    clear hgk p0 d0 d1
    have hc:=hcell.out wi hbi
    have p0:=hc.1
    have p1:=hc.2.1
    clear hc
    obtain ⟨d0,d1⟩:=hd.out wi hbi
    have hzi:=hbi.size
    by_cases hk:k<n
    ·have hkI:(k:Int)<n:=by omega
     obtain ⟨b,rfl,hb,hcl⟩:=hel.out k hk
     have c0:wi.cell? ⟨b,k*5,none⟩=some (.int .i64 (-(c:Int))):=hcl wi hbi 0 (by decide)
     have c1:wi.cell? ⟨b,k*5+1,none⟩=some (.int .i64 0):=hcl wi hbi 1 (by decide)
     have c2:wi.cell? ⟨b,k*5+2,none⟩=some (.int .i64 (c:Int)):=hcl wi hbi 2 (by decide)
     have c3:wi.cell? ⟨b,k*5+3,none⟩=some (.int .i64 0):=hcl wi hbi 3 (by decide)
     have c4:wi.cell? ⟨b,k*5+4,none⟩=some (.slice none 0 0):=hcl wi hbi 4 (by decide)
     clear hcl
     have hbU:=hbi.alloc hzi (Obj.cells #[.int .i64 (-(c:Int)),.int .i64 0,.int .i64 (c:Int),.int .i64 0,.slice none 0 0] 61)
     have hX:=heap_alloc_new wi (Obj.cells #[.int .i64 (-(c:Int)),.int .i64 0,.int .i64 (c:Int),.int .i64 0,.slice none 0 0] 61)
     have hcU:=hcell.out (wi.alloc (Obj.cells #[.int .i64 (-(c:Int)),.int .i64 0,.int .i64 (c:Int),.int .i64 0,.slice none 0 0] 61)) hbU
     have u1:=hcU.2.1
     obtain ⟨_,v1⟩:=hd.out (wi.alloc (Obj.cells #[.int .i64 (-(c:Int)),.int .i64 0,.int .i64 (c:Int),.int .i64 0,.slice none 0 0] 61)) hbU
     have z0:(wi.alloc (Obj.cells #[.int .i64 (-(c:Int)),.int .i64 0,.int .i64 (c:Int),.int .i64 0,.slice none 0 0] 61)).cell? ⟨wi.heap.size,0,none⟩=some (.int .i64 (-(c:Int))):=za hX rfl
     have z1:(wi.alloc (Obj.cells #[.int .i64 (-(c:Int)),.int .i64 0,.int .i64 (c:Int),.int .i64 0,.slice none 0 0] 61)).cell? ⟨wi.heap.size,1,none⟩=some (.int .i64 0):=za hX rfl
     have z2:(wi.alloc (Obj.cells #[.int .i64 (-(c:Int)),.int .i64 0,.int .i64 (c:Int),.int .i64 0,.slice none 0 0] 61)).cell? ⟨wi.heap.size,2,none⟩=some (.int .i64 (c:Int)):=za hX rfl
     have z3:(wi.alloc (Obj.cells #[.int .i64 (-(c:Int)),.int .i64 0,.int .i64 (c:Int),.int .i64 0,.slice none 0 0] 61)).cell? ⟨wi.heap.size,3,none⟩=some (.int .i64 0):=za hX rfl
     have z4:(wi.alloc (Obj.cells #[.int .i64 (-(c:Int)),.int .i64 0,.int .i64 (c:Int),.int .i64 0,.slice none 0 0] 61)).cell? ⟨wi.heap.size,4,none⟩=some (.slice none 0 0):=za hX rfl
     clear hX hcU
     go_wp2_with fail
     generalize wi.alloc (Obj.cells #[.int .i64 (-(c:Int)),.int .i64 0,.int .i64 (c:Int),.int .i64 0,.slice none 0 0] 61)=U at *
     clear p0 p1 d0 d1 c0 c1 c2 c3 c4
     go_quiet (fail)
     go_wp2_with fail
     go_roundg (n-(k+1))
     ·exact ⟨k+1,rfl,by omega,by push_cast;rfl,Below.drewN' hbU⟩
     ·have:=hGk.out;omega
    ·have hkI: ¬((k:Int)<n):=by omega
     go_wp2_with fail
     go_roundg (Nh-(i+1))
     ·exact ⟨i+1,rfl,by omega,by push_cast;rfl,hbi⟩
     ·have:=hG.out;omega
  ·have hiI: ¬((i:Int)<Nh):=by omega
   go_wp2_with fail
   go_loopg [6] Nl (fun g t wr=> ∃i:Nat,g=Nl-i/\i<=Nl/\t= .int .i64 i/\Below w.heap.size w wr)
   case atStart=>exact ⟨0,by omega,by omega,rfl,hbr⟩
   case round=>
    rename World=>wr
    obtain ⟨i,hgi,hiN,rfl,hbr⟩:=hrel
    have hG:Hid (_=Nl-i):=hgi
    clear hgi
    have hc:=hcell.out wr hbr
    have p0:=hc.2.2.1
    clear hc
    by_cases hi:i<Nl
    ·have hiI:(i:Int)<Nl:=by omega
     obtain ⟨g,g',ae,n,ce,mv,rfl,rfl,hn,hmv,hd,hel⟩:=Ll.out i hi
     have hd:Hid _:=hd
     have hel:Hid _:=hel
     obtain ⟨d0,d1⟩:=hd.out wr hbr
     obtain ⟨t,rfl⟩:=hmv.2 rfl
     clear hmv
     go_wp2_with fail
     go_loopg [7] n (fun g t wi=> ∃k:Nat,g=n-k/\k<=n/\t= .int .i64 k/\Below w.heap.size w wi)
     case atStart=>exact ⟨0,by omega,by omega,rfl,hbr⟩
     case round=>
      rename World=>wi
      obtain ⟨k,hgk,hkn,rfl,hbi⟩:=hrel
      have hGk:Hid (_=n-k):=hgk
      clear hgk p0 d0 d1
      have hc:=hcell.out wi hbi
      have p0:=hc.2.2.1
      have p1:=hc.2.2.2.1
      clear hc
      obtain ⟨d0,d1⟩:=hd.out wi hbi
      have hzi:=hbi.size
      by_cases hk:k<n
      ·have hkI:(k:Int)<n:=by omega
       obtain ⟨b,rfl,hb,hcl⟩:=hel.out k hk
       have c0:wi.cell? ⟨b,k*2,none⟩=some (.int .u8 63):=hcl wi hbi 0 (by decide)
       have c1:wi.cell? ⟨b,k*2+1,none⟩=some (.string t):=hcl wi hbi 1 (by decide)
       clear hcl
       go_wp2_with fail
       go_quiet (fail)
       go_wp2_with fail
       go_roundg (n-(k+1))
       ·exact ⟨k+1,rfl,by omega,by push_cast;rfl,Below.drewN' hbi⟩
       ·have:=hGk.out;omega
      ·have hkI: ¬((k:Int)<n):=by omega
       go_wp2_with fail
       go_roundg (Nl-(i+1))
       ·exact ⟨i+1,rfl,by omega,by push_cast;rfl,hbi⟩
       ·have:=hG.out;omega
    ·have hiI: ¬((i:Int)<Nl):=by omega
     go_wp2_with fail
     go_loopg [8] Ns (fun g t wr=> ∃i:Nat,g=Ns-i/\i<=Ns/\t= .int .i64 i/\Below w.heap.size w wr)
     case atStart=>exact ⟨0,by omega,by omega,rfl,hbr⟩
     case round=>
      rename World=>wr
      obtain ⟨i,hgi,hiN,rfl,hbr⟩:=hrel
      have hG:Hid (_=Ns-i):=hgi
      clear hgi
      have hc:=hcell.out wr hbr
      have p0:=hc.2.2.2.2.1
      clear hc
      by_cases hi:i<Ns
      ·have hiI:(i:Int)<Ns:=by omega
       obtain ⟨g,g',ae,n,ce,mv,rfl,rfl,hn,hmv,hd,hel⟩:=Ls.out i hi
       have hd:Hid _:=hd
       have hel:Hid _:=hel
       obtain ⟨d0,d1⟩:=hd.out wr hbr
       obtain ⟨c,hcb,rfl⟩:=hmv.1 rfl
       clear hmv
       go_wp2_with fail
       go_loopg [9] n (fun g t wi=> ∃k:Nat,g=n-k/\k<=n/\t= .int .i64 k/\Below w.heap.size w wi)
       case atStart=>exact ⟨0,by omega,by omega,rfl,hbr⟩
       case round=>
        rename World=>wi
        obtain ⟨k,hgk,hkn,rfl,hbi⟩:=hrel
        have hGk:Hid (_=n-k):=hgk
        clear hgk p0 d0 d1
        have hc:=hcell.out wi hbi
        have p0:=hc.2.2.2.2.1
        have p1:=hc.2.2.2.2.2.1
        clear hc
        obtain ⟨d0,d1⟩:=hd.out wi hbi
        have hzi:=hbi.size
        by_cases hk:k<n
        ·have hkI:(k:Int)<n:=by omega
         obtain ⟨b,rfl,hb,hcl⟩:=hel.out k hk
         have c0:wi.cell? ⟨b,k*3,none⟩=some (.bool false):=hcl wi hbi 0 (by decide)
         have c1:wi.cell? ⟨b,k*3+1,none⟩=some (.int .i64 (c:Int)):=hcl wi hbi 1 (by decide)
         have c2:wi.cell? ⟨b,k*3+2,none⟩=some (.int .i64 (-(c:Int))):=hcl wi hbi 2 (by decide)
         clear hcl
         go_wp2_with fail
         go_quiet (fail)
         go_wp2_with fail
         go_roundg (n-(k+1))
         ·exact ⟨k+1,rfl,by omega,by push_cast;rfl,Below.drewN' hbi⟩
         ·have:=hGk.out;omega
        ·have hkI: ¬((k:Int)<n):=by omega
         go_wp2_with fail
         go_roundg (Ns-(i+1))
         ·exact ⟨i+1,rfl,by omega,by push_cast;rfl,hbi⟩
         ·have:=hG.out;omega
      ·have hiI: ¬((i:Int)<Ns):=by omega
       go_wp2_with fail
       go_loopg [10] Nr (fun g t wr=> ∃i:Nat,g=Nr-i/\i<=Nr/\t= .int .i64 i/\Below w.heap.size w wr)
       case atStart=>exact ⟨0,by omega,by omega,rfl,hbr⟩
       case round=>
        rename World=>wr
        obtain ⟨i,hgi,hiN,rfl,hbr⟩:=hrel
        have hG:Hid (_=Nr-i):=hgi
        clear hgi
        have hc:=hcell.out wr hbr
        have p0:=hc.2.2.2.2.2.2.1
        clear hc
        by_cases hi:i<Nr
        ·have hiI:(i:Int)<Nr:=by omega
         obtain ⟨g,g',ae,n,ce,mv,rfl,rfl,hn,hmv,hd,hel⟩:=Lr.out i hi
         have hd:Hid _:=hd
         have hel:Hid _:=hel
         obtain ⟨d0,d1⟩:=hd.out wr hbr
         obtain ⟨t,rfl⟩:=hmv.2 rfl
         clear hmv
         go_wp2_with fail
         go_loopg [11] n (fun g t wi=> ∃k:Nat,g=n-k/\k<=n/\t= .int .i64 k/\Below w.heap.size w wi)
         case atStart=>exact ⟨0,by omega,by omega,rfl,hbr⟩
         case round=>
          rename World=>wi
          obtain ⟨k,hgk,hkn,rfl,hbi⟩:=hrel
          have hGk:Hid (_=n-k):=hgk
          clear hgk p0 d0 d1
          have hc:=hcell.out wi hbi
          have p0:=hc.2.2.2.2.2.2.1
          have p1:=hc.2.2.2.2.2.2.2
          clear hc
          obtain ⟨d0,d1⟩:=hd.out wi hbi
          have hzi:=hbi.size
          by_cases hk:k<n
          ·have hkI:(k:Int)<n:=by omega
           obtain ⟨b,rfl,hb,hcl⟩:=hel.out k hk
           have c0:wi.cell? ⟨b,k*2,none⟩=some (.int .u8 63):=hcl wi hbi 0 (by decide)
           have c1:wi.cell? ⟨b,k*2+1,none⟩=some (.string t):=hcl wi hbi 1 (by decide)
           clear hcl
           go_wp2_with fail
           go_quiet (fail)
           go_wp2_with fail
           go_roundg (n-(k+1))
           ·exact ⟨k+1,rfl,by omega,by push_cast;rfl,Below.drewN' hbi⟩
           ·have:=hGk.out;omega
          ·have hkI: ¬((k:Int)<n):=by omega
           go_wp2_with fail
           go_roundg (Nr-(i+1))
           ·exact ⟨i+1,rfl,by omega,by push_cast;rfl,hbi⟩
           ·have:=hG.out;omega
        ·have hiI: ¬((i:Int)<Nr):=by omega
         go_wp2_with fail
         go_ret
         exact ⟨rfl,hbr⟩
theorem zs.below {base:Nat} {w w':World} (h:zs base w w' (fun _=>False)) (hb:w.heap.size<=base):Below w.heap.size w w':=by
 refine ⟨h.2.2.1,h.2.2.2.1,h.2.2.2.2,h.1,fun g hg=> ?_⟩
 exact h.low (fun _ h=>h.elim) (by omega) hg
theorem zs.thenB {base:Nat} {w w1 w2:World} {s:Nat->Prop} (h:zs base w w1 s) (hb:Below w1.heap.size w1 w2):zs base w w2 s:=
 (h.trans (zs.of_below (base:=base) hb)).mono fun _ _ h=>h.elim id False.elim
theorem zs.then {base:Nat} {w w1 w2:World} (h:zs base w w1 (fun _=>False)) (k:zs base w1 w2 (fun _=>False)):zs base w w2 (fun _=>False):=
 (h.trans k).mono fun _ _ h=>h.elim id id
theorem EO {base wb M:Nat} {x:WV} {B:Bk} {w:World} {kd n m:Int} {a b:ByteArray} {ap:Option Addr} {np cp:Nat} (hk:kd<=2) (K:zC base wb x B w) (R:jc M x B) (hM:M<=600000000000) (hm:w.cell? ⟨0,0,none⟩=some (.int .i64 m)) (hbase:base<=w.heap.size)
 (h1:a.size<=4000000000) (h2:b.size<=4000000000):
 Calls prog 21 #[.pointer (some ⟨wb,0,none⟩),.agg #[.int .i64 kd,.int .i64 n,.string a,.string b,.slice ap np cp]] w fun e w'=>e= .returned (.bool true)/\ ∃(x':WV) (B':Bk),zC base wb x' B' w'/\jc (M+2000) x' B'/\zs base w w' (fun _=>False):=by
 have hmlt:=World.block_lt_of_cell? _ _ hm
 obtain ⟨W0,hW0⟩: ∃W0,w.alloc (.cells #[.int .i64 kd,.int .i64 n,.string a,.string b,.slice ap np cp] 57)=W0:=⟨_,rfl⟩
 have b0:Below w.heap.size w W0:=by rw [<-hW0];exact (Below.refl _ _).alloc (Nat.le_refl _) _
 have z0:W0.heap.size=w.heap.size+1:=by rw [<-hW0];simp
 have hO0:W0.heap[w.heap.size]? =some (.cells #[.int .i64 kd,.int .i64 n,.string a,.string b,.slice ap np cp] 57 (0,0)):=by rw [<-hW0];exact heap_alloc_new w _
 have hm0:W0.cell? ⟨0,0,none⟩=some (.int .i64 m):=(b0.cell (p:=⟨0,0,none⟩) hmlt).trans hm
 have o0:W0.cell? ⟨w.heap.size,0,none⟩=some (.int .i64 kd):=za hO0 rfl
 have o1:W0.cell? ⟨w.heap.size,1,none⟩=some (.int .i64 n):=za hO0 rfl
 have o2:W0.cell? ⟨w.heap.size,2,none⟩=some (.string a):=za hO0 rfl
 have o3:W0.cell? ⟨w.heap.size,3,none⟩=some (.string b):=za hO0 rfl
 have o4:W0.cell? ⟨w.heap.size,4,none⟩=some (.slice ap np cp):=za hO0 rfl
 have K0:=K.old (W':=W0) fun g hg=>b0.block g hg
 have hend:Hid (∀w',(∃(x':WV) (B':Bk),zC base wb x' B' w'/\jc (M+2000) x' B'/\zs base W0 w' (fun _=>False))-> ∃(x':WV) (B':Bk),zC base wb x' B' w'/\jc (M+2000) x' B'/\zs base w w' (fun _=>False)):=by
  rintro w' ⟨x',B',k1,k2,k3⟩
  exact ⟨x',B',k1,k2,((zs.of_below (base:=base) b0).trans k3).mono fun _ _ h=>h.elim id id⟩
 go_enter func21,ntmps21
 by_cases k1:kd=1
 ·have hd:=ET (kd:=kd) (n:=n) (m:=m) (a:=a) (b:=b) (ap:=ap) (np:=np) (cp:=cp) K0 R hM hm0 (by omega) h1 h2
  have q1:(kd==1)=true:=by simp [k1]
  clear k1 K K0 hO0 hm hm0
  go_wp2_with fail
  clear hW0
  refine hd.mono ?_
  rintro e W1 ⟨rfl,hR⟩
  have hRH:=hend.out W1 hR
  have hRH':Hid _:=hRH
  clear hR hRH hend hd
  go_wp2_with fail
  go_ret
  exact ⟨rfl,hRH'.out⟩
 have q1:(kd==1)=false:=by simp [k1]
 by_cases k2:kd=2
 ·have hd:=Gi (kd:=kd) (n:=n) (a:=a) (b:=b) (ap:=ap) (np:=np) (cp:=cp) K0 R hM (by omega) h1 h2
  have q2:(kd==2)=true:=by simp [k2]
  clear k1 k2 K K0 hO0 hm hm0
  go_wp2_with fail
  clear hW0
  refine hd.mono ?_
  rintro e W1 ⟨rfl,hR⟩
  have hRH:=hend.out W1 hR
  have hRH':Hid _:=hRH
  clear hR hRH hend hd
  go_wp2_with fail
  go_ret
  exact ⟨rfl,hRH'.out⟩
 have q2:(kd==2)=false:=by simp [k2]
 have q3:(kd==3)=false:=by simp;omega
 have q4:(kd==4)=false:=by simp;omega
 have q5:(kd==5)=false:=by simp;omega
 have q6:(kd==6)=false:=by simp;omega
 have q7:(kd==7)=false:=by simp;omega
 have hRH:=hend.out W0 ⟨x,B,K0,⟨by have:=R.c;omega,by have:=R.h;omega,by have:=R.l;omega,by have:=R.s;omega,by have:=R.r;omega⟩,zs.refl base W0⟩
 have hRH':Hid _:=hRH
 clear hRH hend K K0 hO0 hm hm0 k1 k2
 go_wp2_with fail
 go_ret
 exact ⟨rfl,hRH'.out⟩
def qz (base:Nat) (w:World) (v:Value) (hs:List HI):Prop:= ∀w',zs base w w' (fun g=>w.heap.size<=g)->yH w.heap.size w' v hs
theorem qz.now {base:Nat} {w:World} {v:Value} {hs:List HI} (h:qz base w v hs):yH w.heap.size w v hs:=h w ((zs.refl base w).mono fun _ _ h=>h.elim)
theorem qz.on {base:Nat} {w w1:World} {v:Value} {hs:List HI} {s:Nat->Prop} (h:qz base w v hs) (F:zs base w w1 s) (hg: ∀g,s g->w.heap.size<=g):qz base w1 v hs:=fun w' F'=>
 (h w' ((F.trans F').mono fun g _ k=>k.elim (hg g) fun k=>Nat.le_trans F.1 k)).mono F.1
theorem qz.of_low {B base:Nat} {w:World} {v:Value} {hs:List HI} (h:yH B w v hs) (hB:B<=base) (hw:B<=w.heap.size):qz base w v hs:=fun w' F=>by
 refine (h.below ⟨F.2.2.1,F.2.2.2.1,F.2.2.2.2,by have:=F.1;omega,fun g hg=> ?_⟩).mono hw
 rcases F.2.1 g (by omega) with e | e | ⟨_,_,_,_,_,e⟩
 ·exact e
 ·omega
 ·omega
theorem HSo.at_types {B:Nat} {w w':World} {v:Value} {hv:List HV} (h:HSo B v hv w) (hs: ∀g c t f,w.heap[g]? =some (.cells c t f)->t=61\/t=93->B<=g->w'.heap[g]? =w.heap[g]?):HSo B v hv w':=by
 rcases h with h | ⟨g,cap,e,hb,s⟩
 ·exact .inl h
 ·refine .inr ⟨g,cap,e,hb,s.len,zu s.row fun k hk=> ?_,fun p hp=>zu (s.lines p hp) fun k hk=> ?_,s.apart⟩
  ·obtain ⟨c,hc⟩:=ze s.row hk
   exact hs k c _ _ hc (.inl rfl) (s.row.lt k hk).1
  ·obtain ⟨c,hc⟩:=ze (s.lines p hp) hk
   exact hs k c _ _ hc (.inr rfl) ((s.lines p hp).lt k hk).1
theorem HSo.frame {B base:Nat} {w w':World} {v:Value} {hv:List HV} {s:Nat->Prop} (h:HSo B v hv w) (F:zs base w w' s) (hs: ∀g,B<=g->g<w.heap.size-> ¬s g):HSo B v hv w':=
 h.at_types fun g c t f hg ht hb=>F.at hg (by rcases ht with rfl | rfl<;>decide) (hs g hb (Array.getElem?_eq_some_iff.1 hg).1)
theorem HSo.stays {B base:Nat} {w:World} {v:Value} {hv:List HV} (h:HSo B v hv w):qz base w v ((hv.map (·.1)).map HI.ofM):=fun w' F=>by
 have hz:=F.1
 have hE:(w'.heap.extract 0 w.heap.size).size=w.heap.size:=by simp;omega
 have hb: ∀g,g<w.heap.size->w'.heap[g]? =(w'.heap.extract 0 w.heap.size)[g]? :=fun g hg=>by simp [Array.getElem?_extract];omega
 have h2:HSo B v hv { w' with heap:=w'.heap.extract 0 w.heap.size } :=h.at_types fun g c t f hg ht _=>by
  have hlt:=(Array.getElem?_eq_some_iff.1 hg).1
  show (w'.heap.extract 0 w.heap.size)[g]? =_
  rw [<-hb g hlt]
  exact F.at hg (by rcases ht with rfl | rfl<;>decide) (by omega)
 have h3:=yH.of_hunks (zO.of_owns h2)
 have h4:=h3.below (w':=w') ⟨rfl,rfl,rfl,by show (w'.heap.extract 0 w.heap.size).size<=_;omega,fun g hg=>hb g (by rw [<-hE];exact hg)⟩
 exact h4.mono (by show (w'.heap.extract 0 w.heap.size).size<=_;omega)
theorem Yc.stays {B base:Nat} {w:World} {v:Value} {hs:List zx} (h:Yc B w v hs):qz base w v (hs.map HI.ofM):=by
 obtain ⟨hv,h1,rfl⟩:=h
 exact h1.stays
theorem Yc.frame {B base:Nat} {w w':World} {v:Value} {hs:List zx} {s:Nat->Prop} (h:Yc B w v hs) (F:zs base w w' s) (hg: ∀g,B<=g->g<w.heap.size-> ¬s g):Yc B w' v hs:=by
 obtain ⟨hv,h1,h2⟩:=h
 exact ⟨hv,h1.frame F hg,h2⟩
theorem qO.hunks0 {base ga cap:Nat} {vr:Value} {bs:List (HI×Nat)} {Z:List Value} {W:World} (L:qO base ga vr bs Z W) {ms:List zx} (hm:bs.map (·.1)=ms.map HI.ofM):zO W.heap.size W (.slice (some ⟨ga,0,none⟩) ms.length cap) ms:=by
 refine .inr ⟨ga,cap,rfl,(Array.getElem?_eq_some_iff.1 L.all).1,fun i hi=> ?_⟩
 have hlen:bs.length=ms.length:=by have:=congrArg List.length hm;simpa using this
 have hi':i<bs.length:=by omega
 have e:bs[i].1=HI.ofM ms[i]:=by
  have h1:(bs.map (·.1))[i]'(by simpa using hi')=(ms.map HI.ofM)[i]'(by simpa using hi):=by simp only [hm]
  simpa using h1
 obtain ⟨h0,h1,h2,h3,h4⟩:=ZP bs Z hi'
 have hl:=(L.line bs[i] (List.getElem_mem hi')).2
 rw [e] at h0 h1 h2 h3 h4 hl
 refine ⟨_,_,za L.all (by simpa [HI.ofM] using h0),za L.all (by simpa [HI.ofM] using h1),za L.all (by simpa [HI.ofM] using h2),za L.all (by simpa [HI.ofM] using h3),za L.all (by simpa [HI.ofM] using h4),.inr ⟨bs[i].2,_,rfl,(Array.getElem?_eq_some_iff.1 hl).1,fun j hj=> ?_⟩⟩
 have hj':j<(ms[i].lines++ [ym,ym]).length:=by simp;omega
 obtain ⟨c0,c1⟩:=yR (ms[i].lines++ [ym,ym]) j hj'
 rw [List.getElem_append_left hj] at c0 c1
 exact ⟨za hl (by simpa [yO,HI.ofM] using c0),za hl (by simpa [yO,HI.ofM] using c1)⟩
theorem qO.h0 {base ga cap:Nat} {vr:Value} {bs:List (HI×Nat)} {Z:List Value} {W:World} (L:qO base ga vr bs Z W) {hs:List HI} (hm:bs.map (·.1)=hs):KC W.heap.size W (.slice (some ⟨ga,0,none⟩) hs.length cap) hs:=
 ⟨L.hunks hm,fun ms e=>by subst e;rw [List.length_map];exact L.hunks0 hm⟩
def UE (base wb:Nat) (x:WV) (B:Bk) (n lo hi:Nat) (w w':World):Prop:=
 ∃(x':WV) (E:List (Value×Value)),zC base wb x' { B with l:=B.l++E } w'/\E.length<=4*n/\x'.c<=x.c+n/\zs base w w' (fun g=>lo<=g/\g<hi)/\ ∀p∈E,∀g,p.1.ownBlock=some g->(lo<=g/\g<hi)\/w.heap.size<=g
def KL (base:Nat) (w:World) (a:Option Addr) (cap:Nat) (hs:List HI) (vx va vr:Value) (w1:World):Prop:=
 KC w1.heap.size w1 vx hs/\ ∀(wb:Nat) (x:WV) (B:Bk) (w2:World),zC base wb x B w->Below w1.heap.size w1 w2->x.c<=7000000000000->B.l.length<=700000000000->
  Calls prog 87 #[.pointer (some ⟨wb,0,none⟩),va,vr,.agg #[.slice a hs.length cap]] w2 fun e w'=>e= .returned (.bool true)/\UE base wb x B hs.length w.heap.size w1.heap.size w2 w'
theorem qO.later {base ga:Nat} {vr:Value} {bs:List (HI×Nat)} {Z:List Value} {W W':World} (L:qO base ga vr bs Z W) (hb:Below W.heap.size W W'):qO base ga vr bs Z W':=
 ⟨(hb.block ga (Array.getElem?_eq_some_iff.1 L.all).1).trans L.all,L.lo,zu L.rows fun g hg=>hb.block g (L.rows.lt g hg).2,fun p hp=>⟨(L.line p hp).1,(hb.block p.2 (Array.getElem?_eq_some_iff.1 (L.line p hp).2).1).trans (L.line p hp).2⟩,L.apart⟩
theorem QH {base:Nat} {hs:List HI} {a:Option Addr} {cap:Nat} {w:World} (S:qz base w (.slice a hs.length cap) hs) (hL:Lim hs) (hbase:base<=w.heap.size):
 Calls prog 86 #[.agg #[.slice a hs.length cap]] w fun e w1=> ∃ax cx va vr,e= .returned (.tuple #[.agg #[.slice ax hs.length cx],va,vr])/\KL base w a cap hs (.slice ax hs.length cx) va vr w1/\Below w.heap.size w w1:=by
 by_cases hn:0<hs.length
 ·refine (Ew S.now hL hn).mono ?_
  rintro e w1 ⟨ga,vr,bs,rfl,hm,L,hb⟩
  refine ⟨some ⟨ga,0,none⟩,hs.length+2,.slice (some ⟨ga,0,none⟩) (hs.length+2) (hs.length+2),vr,rfl,⟨L.h0 hm,fun wb x B w2 K hb2 hc hl=> ?_⟩,hb⟩
  have hz1:=hb.size
  have hz2:=hb2.size
  have hw2:Below w.heap.size w w2:=hb.trans (hb2.mono hz1)
  have K2:zC base wb x B w2:=K.old fun g hg=>hw2.block g hg
  have hga:=(Array.getElem?_eq_some_iff.1 L.all).1
  have hq: ∀q∈bs,w.heap.size+2<=q.2/\q.2<w1.heap.size:=fun q hq=>⟨(L.line q hq).1,(Array.getElem?_eq_some_iff.1 (L.line q hq).2).1⟩
  have hlo:=L.lo
  refine (KM (bl:=w.heap.size+2) K2 (L.later hb2) hm hn hL (by omega) (by omega) (fun p hp q hq'=> ?_) ?_ (fun g hg=> ?_) (fun w' F=> ?_) hc hl).mono ?_
  ·cases hv:p.1.ownBlock with
   | none=>exact .inl rfl
   | some g=>
     right
     intro e
     cases e
     have h1:=((K.l.ok p hp).lt q.2 hv).1
     have h2:=hq q hq'
     omega
  ·show ∀p∈B.h,_
   intro p hp
   cases hv:p.1.ownBlock with
   | none=>exact .inl rfl
   | some g=>
     right
     intro e
     cases e
     have h1:=((K.h.ok p hp).lt ga hv).1
     omega
  ·have h1:=(L.rows.lt g hg).1
   refine ⟨fun e=> ?_,fun e=> ?_⟩
   ·have:=(K.l.row.lt g e).2
    omega
   ·have:=(K.l.marks.lt g e).2
    omega
  ·exact (S w' (((zs.of_below (base:=base) hw2).trans F).mono fun g _ k=>k.elim (fun k=>k.elim) fun k=>by
    rcases k with rfl | ⟨q,h1,rfl⟩
    ·omega
    ·have:=hq q h1;omega)).mono hw2.size
  ·rintro e w' ⟨rfl,x',E,k1,k2,k3,k4,k5⟩
   refine ⟨rfl,x',E,k1,by omega,by omega,k4.mono fun g _ k=> ?_,fun p hp g e=> ?_⟩
   ·rcases k with rfl | ⟨q,h1,rfl⟩
    ·omega
    ·have:=hq q h1;omega
   ·rcases k5 p hp g e with ⟨q,h1,rfl⟩ | k
    ·have:=hq q h1;left;omega
    ·exact .inr k
 ·have h0:hs= []:=List.eq_nil_of_length_eq_zero (by omega)
  subst h0
  refine Eq.mono ?_
  rintro e w1 ⟨rfl,hb⟩
  refine ⟨none,0,.slice none 0 0,.slice none 0 0,rfl,⟨⟨.inl ⟨rfl,_,_,rfl⟩,fun ms e=> ?_⟩,fun wb x B w2 K hb2 hc hl=> ?_⟩,hb⟩
  ·have:ms= []:=by cases ms with
    | nil=>rfl
    | cons _ _=>simp at e
   subst this
   exact .inl ⟨rfl,_,_,rfl⟩
  ·have hw2:Below w.heap.size w w2:=hb.trans (hb2.mono hb.size)
   refine Jg.mono ?_
   rintro e w' ⟨rfl,hb3⟩
   refine ⟨rfl,x,[],?_,by simp,by simp,(zs.of_below hb3).mono fun _ _ h=>h.elim,fun p hp=>(by cases hp)⟩
   have K3:zC base wb x B w':=(K.old (W':=w2) fun g hg=>hw2.block g hg).old fun g hg=>hb3.block g hg
   simpa using K3
end Go.Proofs.YtcclgodahlinbaaGreatDoor
