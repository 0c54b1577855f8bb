import Derived.Test.YtcclgodahlinbaaGreatDoorA14
import Derived.Test.YtcclgodahlinbaaGreatDoorA12
import Derived.Test.YtcclgodahlinbaaGreatDoorA15
namespace Go.Proofs.YtcclgodahlinbaaGreatDoor
set_option maxHeartbeats 16000000
open Tryz Go.RowKit Go
set_option maxRecDepth 100000
def Dd (o f:List ByteArray) (i j:Nat):Nat:=Dn.yY (o.drop i) (f.drop j)
theorem TJ (o f:List ByteArray) (j:Nat):Dd o f o.length j=f.length-j:=by
 unfold Dd;rw [List.drop_length,Dn.yx,List.length_drop]
theorem QZ (o f:List ByteArray) (i:Nat):Dd o f i f.length=o.length-i:=by
 unfold Dd;rw [List.drop_length,Dn.xt,List.length_drop]
theorem Tt {o f:List ByteArray} {i j:Nat} (hi:i<o.length) (hj:j<f.length) (h:o[i]=f[j]):Dd o f i j=Dd o f (i+1) (j+1):=by
 unfold Dd;rw [List.drop_eq_getElem_cons hi,List.drop_eq_getElem_cons hj,h,Dn.je]
theorem Dm {o f:List ByteArray} {i j:Nat} (hi:i<o.length) (hj:j<f.length) (h: ¬o[i]=f[j]):Dd o f i j=1+min (Dd o f (i+1) j) (Dd o f i (j+1)):=by
 unfold Dd
 rw [List.drop_eq_getElem_cons hi,List.drop_eq_getElem_cons hj,Dn.ZD h]
theorem VZ (o f:List ByteArray) (i j:Nat):Dd o f i j<=o.length+f.length:=by
 unfold Dd
 have: ∀l r:List ByteArray,Dn.yY l r<=l.length+r.length:=by
  intro l
  induction l with
  | nil=>intro r;rw [Dn.yx];simp
  | cons a l ih=>intro r;have:=Dn.GJ a l r;have:=ih r;simp;omega
 have h:=this (o.drop i) (f.drop j)
 rw [List.length_drop,List.length_drop] at h
 omega
theorem UQ (o f:List ByteArray) {i j:Nat} (hi:i<o.length) (hj:j<f.length) (h:o[i]=f[j]):Dn.Xa (o.drop i) (f.drop j)=⟨32,o[i]⟩::Dn.Xa (o.drop (i+1)) (f.drop (j+1)):=by
 rw [List.drop_eq_getElem_cons hi,List.drop_eq_getElem_cons hj,Dn.Wu,if_pos h]
theorem QF (o f:List ByteArray) {i j:Nat} (hi:i<o.length) (hj:j<=f.length) (h: ∀hj:j<f.length,¬o[i]=f[j]) (hd:Dd o f (i+1) j+1=Dd o f i j):Dn.Xa (o.drop i) (f.drop j)=⟨45,o[i]⟩::Dn.Xa (o.drop (i+1)) (f.drop j):=by
 by_cases hj2:j<f.length
 ·have hne:=h hj2
  have hD:=Dm hi hj2 hne
  unfold Dd at hd hD
  rw [List.drop_eq_getElem_cons hi,List.drop_eq_getElem_cons hj2] at hd hD ⊢
  rw [Dn.Wu,if_neg hne,if_pos (by omega)]
 ·obtain rfl:j=f.length:=by omega
  rw [List.drop_length,List.drop_eq_getElem_cons hi,Dn.PZ]
theorem JF (o f:List ByteArray) {i j:Nat} (hi:i<=o.length) (hj:j<f.length) (h: ∀hi:i<o.length,¬o[i]=f[j]/\ ¬Dd o f (i+1) j+1=Dd o f i j):Dn.Xa (o.drop i) (f.drop j)=⟨43,f[j]⟩::Dn.Xa (o.drop i) (f.drop (j+1)):=by
 by_cases hi2:i<o.length
 ·obtain ⟨hne,hd⟩:=h hi2
  have hD:=Dm hi2 hj hne
  unfold Dd at hd hD
  rw [List.drop_eq_getElem_cons hi2,List.drop_eq_getElem_cons hj] at hd hD ⊢
  rw [Dn.Wu,if_neg hne,if_neg (by omega)]
 ·obtain rfl:i=o.length:=by omega
  rw [List.drop_length,List.drop_eq_getElem_cons hj,Dn.Tn]
def Yd (D:Nat->Nat) (m q:Nat):List Value:=(List.range (m+1)).map fun j=> .int .i64 (((if q<=j then D j else 0):Nat):Int)
def YO (B n m p:Nat):List Value:=(List.range (n+1)).map fun k=>if p<=k then .slice (some ⟨B+1+(n-k),0,none⟩) (m+1) (m+1) else .slice none 0 0
theorem KZ {D:Nat->Nat} {m q j:Nat} (h1:q<=j) (h2:j<=m):(Yd D m q).toArray[j]? =some (.int .i64 (D j:Int)):=by
 have:j<m+1:=by omega
 simp [Yd,this,h1]
theorem Pc {D:Nat->Nat} {m q j:Nat} (h2:j<=m):(Yd D m q).toArray[j]? =some (.int .i64 (((if q<=j then D j else 0):Nat):Int)):=by
 have:j<m+1:=by omega
 simp [Yd,this]
theorem GN {B n m p k:Nat} (h1:p<=k) (h2:k<=n):(YO B n m p).toArray[k]? =some (.slice (some ⟨B+1+(n-k),0,none⟩) (m+1) (m+1)):=by
 have:k<n+1:=by omega
 simp [YO,this,h1]
theorem Dt {B n m p k:Nat} (h2:k<=n): ∃v,(YO B n m p).toArray[k]? =some v/\ ∃a x y,v= .slice a x y:=by
 have:k<n+1:=by omega
 refine ⟨_,by simp [YO,this];rfl,?_⟩
 split
 ·exact ⟨_,_,_,rfl⟩
 ·exact ⟨_,_,_,rfl⟩
theorem Dp {D:Nat->Nat} {m q:Nat} (_h:q<=m):(Yd D m (q+1)).toArray.setIfInBounds q (.int .i64 (D q:Int))=(Yd D m q).toArray:=by
 apply Array.ext'
 apply List.ext_getElem
 ·simp [Yd]
 ·intro i h1 h2
  simp [Yd] at h1
  simp [Yd,List.getElem_set]
  by_cases e:q=i
  ·subst e;simp
  ·have e1:(q+1<=i) ↔ (q<=i):=by omega
   simp [e,e1]
theorem DN {B n m p:Nat} (_h:p<=n):(YO B n m (p+1)).toArray.setIfInBounds p (.slice (some ⟨B+1+(n-p),0,none⟩) (m+1) (m+1))=(YO B n m p).toArray:=by
 apply Array.ext'
 apply List.ext_getElem
 ·simp [YO]
 ·intro i h1 h2
  simp [YO] at h1
  simp [YO,List.getElem_set]
  by_cases e:p=i
  ·subst e;simp
  ·have e1:(p+1<=i) ↔ (p<=i):=by omega
   simp [e,e1]
theorem DB (D:Nat->Nat) (m:Nat):madeCells #[.int .i64 0] (m+1)=(Yd D m (m+1)).toArray:=by
 rw [yD]
 apply Array.ext'
 apply List.ext_getElem
 ·simp [Yd]
 ·intro i h1 h2
  simp at h1
  have: ¬m+1<=i:=by omega
  simp [Yd,this]
theorem Dq (B n m:Nat):madeCells #[.slice none 0 0] (n+1)=(YO B n m (n+1)).toArray:=by
 rw [yD]
 apply Array.ext'
 apply List.ext_getElem
 ·simp [YO]
 ·intro i h1 h2
  simp at h1
  have: ¬n+1<=i:=by omega
  simp [YO,this]
structure Tab (o f:List ByteArray) (B p:Nat) (w:World):Prop where
 size:w.heap.size=B+1+(o.length+1-p)
 tab:w.heap[B]? =some (.cells (YO B o.length f.length p).toArray 25 (0,0))
 rows: ∀k,p<=k->k<=o.length->w.heap[B+1+(o.length-k)]? =some (.cells (Yd (Dd o f k) f.length 0).toArray 3 (0,0))
structure jh (o f:List ByteArray) (B i q:Nat) (w:World):Prop where
 size:w.heap.size=B+1+(o.length+1-i)
 tab:w.heap[B]? =some (.cells (YO B o.length f.length i).toArray 25 (0,0))
 rows: ∀k,i<k->k<=o.length->w.heap[B+1+(o.length-k)]? =some (.cells (Yd (Dd o f k) f.length 0).toArray 3 (0,0))
 row:w.heap[B+1+(o.length-i)]? =some (.cells (Yd (Dd o f i) f.length q).toArray 3 (0,0))
theorem jh.done {o f:List ByteArray} {B i:Nat} {w:World} (h:jh o f B i 0 w):Tab o f B i w:=
 ⟨h.size,h.tab,fun k h1 h2=>by
  by_cases e:i=k
  ·subst e;exact h.row
  ·exact h.rows k (by omega) h2⟩
theorem jh.link {o f:List ByteArray} {B i q k:Nat} {w:World} (h:jh o f B i q w) (h1:i<=k) (h2:k<=o.length):w.cell? ⟨B,k,none⟩=some (.slice (some ⟨B+1+(o.length-k),0,none⟩) (f.length+1) (f.length+1)):=
 za h.tab (GN h1 h2)
theorem jh.full {o f:List ByteArray} {B i q k j:Nat} {w:World} (h:jh o f B i q w) (h1:i<k) (h2:k<=o.length) (hj:j<=f.length):w.cell? ⟨B+1+(o.length-k),j,none⟩=some (.int .i64 (Dd o f k j:Int)):=
 za (h.rows k h1 h2) (KZ (Nat.zero_le _) hj)
theorem jh.own {o f:List ByteArray} {B i q j:Nat} {w:World} (h:jh o f B i q w) (h1:q<=j) (hj:j<=f.length):w.cell? ⟨B+1+(o.length-i),j,none⟩=some (.int .i64 (Dd o f i j:Int)):=
 za h.row (KZ h1 hj)
theorem jh.there {o f:List ByteArray} {B i q j:Nat} {w:World} (h:jh o f B i q w) (hj:j<=f.length): ∃z:Int,w.cell? ⟨B+1+(o.length-i),j,none⟩=some (.int .i64 z):=
 ⟨_,za h.row (Pc hj)⟩
theorem jh.warm {o f:List ByteArray} {B i q:Nat} {w:World} (h:jh o f B i q w) (j:Nat):w.frozen? ⟨B+1+(o.length-i),j,none⟩=false:=zi h.row
theorem jh.put {o f:List ByteArray} {B i q:Nat} {w:World} (h:jh o f B i (q+1) w) (hq:q<=f.length) (hi:i<=o.length) {z:Int} (hz:z=(Dd o f i q:Int)):jh o f B i q (w.setCell ⟨B+1+(o.length-i),q,none⟩ (.int .i64 z)):=by
 subst hz
 refine ⟨by rw [World.size_setCell];exact h.size,?_,fun k h1 h2=> ?_,?_⟩
 ·rw [zd _ _ _ _ _ (by omega)];exact h.tab
 ·rw [zd _ _ _ _ _ (by omega)];exact h.rows k h1 h2
 ·rw [zb _ _ _ _ _ _ _ h.row,Dp hq]
theorem Tab.row {o f:List ByteArray} {B p:Nat} {w:World} (h:Tab o f B (p+1) w) (hp:p<=o.length):
 jh o f B p (f.length+1) ((w.alloc (.cells (madeCells #[.int .i64 0] (f.length+1)) 3)).setCell ⟨B,p,none⟩ (.slice (some ⟨w.heap.size,0,none⟩) (f.length+1) (f.length+1))):=by
 have hs:=h.size
 have e:w.heap.size=B+1+(o.length-p):=by omega
 refine ⟨by rw [World.size_setCell,World.size_alloc];omega,?_,fun k h1 h2=> ?_,?_⟩
 ·rw [zb _ _ _ _ _ _ _ ((Below.heap_alloc w _ B (by omega)).trans h.tab),e,DN hp]
 ·rw [zd _ _ _ _ _ (by omega),Below.heap_alloc w _ _ (by omega)];exact h.rows k (by omega) h2
 ·rw [zd _ _ _ _ _ (by omega),<-e,heap_alloc_new,DB (Dd o f p)]
theorem Tab.link {o f:List ByteArray} {B p k:Nat} {w:World} (h:Tab o f B p w) (h2:k<=o.length): ∃a x y,w.cell? ⟨B,k,none⟩=some (.slice a x y):=by
 obtain ⟨v,hv,a,x,y,rfl⟩:=Dt (B:=B) (m:=f.length) (p:=p) h2
 exact ⟨a,x,y,za h.tab hv⟩
theorem Tab.warm {o f:List ByteArray} {B p:Nat} {w:World} (h:Tab o f B p w) (j:Nat):w.frozen? ⟨B,j,none⟩=false:=zi h.tab
theorem Tab.cells {o f:List ByteArray} {B i j:Nat} {w w':World} (h:Tab o f B 0 w) (hb:Below w.heap.size w w') (hi:i<=o.length) (hj:j<=f.length):
 w'.cell? ⟨B,i,none⟩=some (.slice (some ⟨B+1+(o.length-i),0,none⟩) (f.length+1) (f.length+1))/\w'.cell? ⟨B+1+(o.length-i),j,none⟩=some (.int .i64 (Dd o f i j:Int)):=by
 have hs:=h.size
 refine ⟨?_,?_⟩
 ·exact (hb.cell (p:=⟨B,i,none⟩) (by show B<_;omega)).trans (za h.tab (GN (Nat.zero_le _) hi))
 ·exact (hb.cell (p:=⟨B+1+(o.length-i),j,none⟩) (by show B+1+(o.length-i)<_;omega)).trans (za (h.rows i (Nat.zero_le _) hi) (KZ (Nat.zero_le _) hj))
theorem DG:(prog.info? 3).map (fun i=>(i.zero,i.size,i.bytes))=some (some (.int .i64 0),1,8):=by kernel_rfl
theorem Fj:(prog.info? 25).map (fun i=>(i.zero,i.size,i.bytes))=some (some (.slice none 0 0),1,24):=by kernel_rfl
theorem Eo (n:Nat) (hn:n<=1000) (w:World):(Instr.makeSlice 25 (.int .i64 ((n:Int)+1)) (.int .i64 ((n:Int)+1))).run prog w= .ok (.slice (some ⟨w.heap.size,0,none⟩) (n+1) (n+1)) (w.alloc (.cells (madeCells #[.int .i64 0] (n+1)) 3)):=by
 have h:=run_make_row' (P:=prog) 25 3 (.int .i64 0) 8 underlying25 DG rfl .i64 .i64 (n+1) (by omega) (by omega) w
 rw [show ((n+1:Nat):Int)=(n:Int)+1 by omega] at h
 exact h
theorem Gy (n:Nat) (hn:n<=1000) (w:World):(Instr.makeSlice 148 (.int .i64 ((n:Int)+1)) (.int .i64 ((n:Int)+1))).run prog w= .ok (.slice (some ⟨w.heap.size,0,none⟩) (n+1) (n+1)) (w.alloc (.cells (madeCells #[.slice none 0 0] (n+1)) 25)):=by
 have h:=run_make_row' (P:=prog) 148 25 (.slice none 0 0) 24 underlying148 Fj rfl .i64 .i64 (n+1) (by omega) (by omega) w
 rw [show ((n+1:Nat):Int)=(n:Int)+1 by omega] at h
 exact h
theorem GU {o f:List ByteArray} {ao af:Option Addr} {co cf:Nat} {w:World} (hO:qa w.heap.size w (.slice ao o.length co) o) (hF:qa w.heap.size w (.slice af f.length cf) f) (hno:o.length<=1000) (hnf:f.length<=1000):
 Calls prog 39 #[.slice ao o.length co,.slice af f.length cf] w fun e w'=> ∃a c,e= .returned (.slice a (Dn.WT o f).length c)/\w'.ownsRow w.heap.size 93 2 (.slice a (Dn.WT o f).length c) (Dn.WT o f).length (zg (Dn.WT o f))/\Below w.heap.size w w':=by
 obtain ⟨i0,hi,hz0,hz1,hz2⟩:=info_parts yJ
 have hmkT:=Gy o.length hno
 have hmkR:=Eo f.length hnf
 have hT0:Tab o f w.heap.size (o.length+1) (w.alloc (.cells (madeCells #[.slice none 0 0] (o.length+1)) 25)):=by
  refine ⟨by simp,?_,fun k h1 h2=>by omega⟩
  rw [heap_alloc_new,Dq w.heap.size o.length f.length]
 have hb0:=(Below.refl w.heap.size w).alloc (Nat.le_refl _) (.cells (madeCells #[.slice none 0 0] (o.length+1)) 25)
 go_enter func39,ntmps39
 go_wp2_with fail
 go_loopg [8] (o.length+1) (fun g t wr=> ∃p:Nat,g=p/\p<=o.length+1/\t= .int .i64 ((p:Int)-1)/\Tab o f w.heap.size p wr/\Below w.heap.size w wr)
 case atStart=>exact ⟨o.length+1,rfl,Nat.le_refl _,by rw [show ((o.length+1:Nat):Int)-1=o.length by omega],hT0,hb0⟩
 case round=>
  obtain ⟨p,hgp,hpl,rfl,hT,hbel⟩:=hrel
  have hG:Hid (gk=p):=hgp
  clear hgp hT0 hb0
  have hsw:=hbel.size
  cases p with
  | zero=>
    have hiI: ¬((0:Int)<=((0:Nat):Int)-1):=by omega
    have hstart:Hid (([]:List zk)++Dn.Xa (o.drop 0) (f.drop 0)=Dn.WT o f):=by show _=_;rw [Dn.TY];rfl
    go_wp2_with fail
    go_loopg [10,11,12] (o.length+f.length) (fun g v ti tj wj=> ∃(i j:Nat) (acc:List zk),g=(o.length-i)+(f.length-j)/\i<=o.length/\j<=f.length/\ti= .int .i64 i/\tj= .int .i64 j/\acc.length<=i+j/\wj.ownsRow wr.heap.size 93 2 v acc.length (zg acc)/\Hid (acc++Dn.Xa (o.drop i) (f.drop j)=Dn.WT o f)/\Below wr.heap.size wr wj)
    case atStart=>exact ⟨0,0,[],by omega,by omega,by omega,rfl,rfl,by simp,World.ownsRow_nil _ _ _ _,hstart,Below.refl _ _⟩
    case round=>
     rename World=>wj
     obtain ⟨i,j,acc,hgi,hil,hjl,rfl,rfl,hal,hown,hacc,hbj⟩:=hrel
     have hGq:Hid (_=(o.length-i)+(f.length-j)):=hgi
     clear hgi hstart
     have hszj:=hbj.size
     obtain ⟨al,cl,rfl⟩:=zn hown
     have hon: ∀(t:ByteArray) (k:Int),∀u∈ [Value.int .u8 k,.string t],u.oneCell'=true:=by intro t k u hu;simp at hu;rcases hu with rfl | rfl<;>rfl
     have hbwj:=hbel.trans (hbj.mono hsw)
     obtain ⟨q0,q1⟩:=hT.cells hbj hil hjl
     have hiI2:(i:Int)<(o.length:Int)+1:=by omega
     have hjI2:(j:Int)<(f.length:Int)+1:=by omega
     have hD0:Dd o f i j<=2000:=by have:=VZ o f i j;omega
     by_cases hi1:i<o.length
     ·have hiI3:(i:Int)<o.length:=by omega
      have hiI4:(i:Int)+1<(o.length:Int)+1:=by omega
      obtain ⟨q2,q3⟩:=hT.cells hbj (show i+1<=o.length by omega) hjl
      have hD1:Dd o f (i+1) j<=2000:=by have:=VZ o f (i+1) j;omega
      obtain ⟨bo,oo,rfl,hbo,so⟩:=(hO.below hbwj).at hi1
      rw [show o.getD i ByteArray.empty=o[i] by simp [List.getD,hi1]] at so
      have hdec:decide ((i:Int)<o.length)=true:=by simpa using hiI3
      by_cases hj1:j<f.length
      ·have hjI3:(j:Int)<f.length:=by omega
       have hdej:decide ((j:Int)<f.length)=true:=by simpa using hjI3
       obtain ⟨bf,of,rfl,hbf,sf⟩:=(hF.below hbwj).at hj1
       rw [show f.getD j ByteArray.empty=f[j] by simp [List.getD,hj1]] at sf
       by_cases e3:o[i]=f[j]
       ·have hq3:(o[i].toList==f[j].toList)=true:=by rw [e3];simp
        have hN:Hid ((acc++ [⟨32,o[i]⟩])++Dn.Xa (o.drop (i+1)) (f.drop (j+1))=Dn.WT o f):=by
         show _=_
         rw [<-hacc.out,UQ o f hi1 hj1 e3];simp
        clear hacc e3
        generalize o[i]=so' at *
        generalize f[j]=sf' at *
        go_wp2_with fail
        go_quiet (fail)
        go_wp2_with (at_builtin;refine zm rfl (.tmp 173) (.tmp 179) 59 rfl wr.heap.size 93 i0 _ 2 24 underlying59 hi hz0 hz1 hz2 rfl (by decide) (.slice al acc.length cl) acc.length (zg acc) rfl (World.ownsRow.alloc (w:=wj.drewN _) hown _) ⟨wj.heap.size,0,none⟩ 1 1 [.int .u8 32,.string so'] rfl rfl (zt (wj.drewN _) [.int .u8 32,.string so'] 93) (hon _ _) (by unfold maxLen;omega) (by omega) (by simp;omega) ?_;intro v' w3 hown3 hgr hnew;have hb3:=((Below.drewN' hbj).alloc hszj _).grown hgr (by simp;omega) (fun j e=>by have:=(hown.lt j e).1;omega))
        go_wp2_with fail
        go_roundg ((o.length-(i+1))+(f.length-(j+1)))
        ·exact ⟨i+1,j+1,acc++ [⟨32,so'⟩],rfl,by omega,by omega,by push_cast;rfl,by push_cast;rfl,by simp;omega,by rw [zB,List.length_append];exact hown3,hN,hb3⟩
        ·have:=hGq.out;omega
       ·have hq3:(o[i].toList==f[j].toList)=false:=Xj e3
        by_cases e4:Dd o f (i+1) j+1=Dd o f i j
        ·have hq4:(((Dd o f (i+1) j:Nat):Int)+1==(Dd o f i j:Int))=true:=by simp;omega
         have hN:Hid ((acc++ [⟨45,o[i]⟩])++Dn.Xa (o.drop (i+1)) (f.drop j)=Dn.WT o f):=by
          show _=_
          rw [<-hacc.out,QF o f hi1 hjl (fun _=>e3) e4];simp
         clear hacc e3 e4
         generalize o[i]=so' at *
         generalize f[j]=sf' at *
         generalize Dd o f (i+1) j=d1 at *
         generalize Dd o f i j=d0 at *
         go_wp2_with fail
         go_quiet (fail)
         go_wp2_with fail
         go_quiet (fail)
         go_wp2_with (at_builtin;refine zm rfl (.tmp 208) (.tmp 214) 59 rfl wr.heap.size 93 i0 _ 2 24 underlying59 hi hz0 hz1 hz2 rfl (by decide) (.slice al acc.length cl) acc.length (zg acc) rfl (World.ownsRow.alloc (w:=wj.drewN _) hown _) ⟨wj.heap.size,0,none⟩ 1 1 [.int .u8 45,.string so'] rfl rfl (zt (wj.drewN _) [.int .u8 45,.string so'] 93) (hon _ _) (by unfold maxLen;omega) (by omega) (by simp;omega) ?_;intro v' w3 hown3 hgr hnew;have hb3:=((Below.drewN' hbj).alloc hszj _).grown hgr (by simp;omega) (fun j e=>by have:=(hown.lt j e).1;omega))
         go_wp2_with fail
         go_roundg ((o.length-(i+1))+(f.length-j))
         ·exact ⟨i+1,j,acc++ [⟨45,so'⟩],rfl,by omega,by omega,by push_cast;rfl,rfl,by simp;omega,by rw [zB,List.length_append];exact hown3,hN,hb3⟩
         ·have:=hGq.out;omega
        ·have hq4:(((Dd o f (i+1) j:Nat):Int)+1==(Dd o f i j:Int))=false:=by simp;omega
         have hN:Hid ((acc++ [⟨43,f[j]⟩])++Dn.Xa (o.drop i) (f.drop (j+1))=Dn.WT o f):=by
          show _=_
          rw [<-hacc.out,JF o f hil hj1 (fun _=>⟨e3,e4⟩)];simp
         clear hacc e3 e4
         generalize o[i]=so' at *
         generalize f[j]=sf' at *
         generalize Dd o f (i+1) j=d1 at *
         generalize Dd o f i j=d0 at *
         go_wp2_with fail
         go_quiet (fail)
         go_wp2_with fail
         go_quiet (fail)
         go_wp2_with (at_builtin;refine zm rfl (.tmp 143) (.tmp 149) 59 rfl wr.heap.size 93 i0 _ 2 24 underlying59 hi hz0 hz1 hz2 rfl (by decide) (.slice al acc.length cl) acc.length (zg acc) rfl (World.ownsRow.alloc (w:=wj.drewN _) hown _) ⟨wj.heap.size,0,none⟩ 1 1 [.int .u8 43,.string sf'] rfl rfl (zt (wj.drewN _) [.int .u8 43,.string sf'] 93) (hon _ _) (by unfold maxLen;omega) (by omega) (by simp;omega) ?_;intro v' w3 hown3 hgr hnew;have hb3:=((Below.drewN' hbj).alloc hszj _).grown hgr (by simp;omega) (fun j e=>by have:=(hown.lt j e).1;omega))
         go_wp2_with fail
         go_roundg ((o.length-i)+(f.length-(j+1)))
         ·exact ⟨i,j+1,acc++ [⟨43,sf'⟩],rfl,by omega,by omega,rfl,by push_cast;rfl,by simp;omega,by rw [zB,List.length_append];exact hown3,hN,hb3⟩
         ·have:=hGq.out;omega
      ·have hjI3: ¬((j:Int)<f.length):=by omega
       have hdej:decide ((j:Int)<f.length)=false:=by simpa using hjI3
       have e4:Dd o f (i+1) j+1=Dd o f i j:=by
        have ej:j=f.length:=by omega
        rw [ej,QZ,QZ];omega
       have hq4:(((Dd o f (i+1) j:Nat):Int)+1==(Dd o f i j:Int))=true:=by simp;omega
       have hN:Hid ((acc++ [⟨45,o[i]⟩])++Dn.Xa (o.drop (i+1)) (f.drop j)=Dn.WT o f):=by
        show _=_
        rw [<-hacc.out,QF o f hi1 hjl (fun h=>absurd h hj1) e4];simp
       clear hacc e4
       generalize o[i]=so' at *
       generalize Dd o f (i+1) j=d1 at *
       generalize Dd o f i j=d0 at *
       go_wp2_with fail
       go_quiet (fail)
       go_wp2_with fail
       go_quiet (fail)
       go_wp2_with (at_builtin;refine zm rfl (.tmp 208) (.tmp 214) 59 rfl wr.heap.size 93 i0 _ 2 24 underlying59 hi hz0 hz1 hz2 rfl (by decide) (.slice al acc.length cl) acc.length (zg acc) rfl (World.ownsRow.alloc (w:=wj.drewN _) hown _) ⟨wj.heap.size,0,none⟩ 1 1 [.int .u8 45,.string so'] rfl rfl (zt (wj.drewN _) [.int .u8 45,.string so'] 93) (hon _ _) (by unfold maxLen;omega) (by omega) (by simp;omega) ?_;intro v' w3 hown3 hgr hnew;have hb3:=((Below.drewN' hbj).alloc hszj _).grown hgr (by simp;omega) (fun j e=>by have:=(hown.lt j e).1;omega))
       go_wp2_with fail
       go_roundg ((o.length-(i+1))+(f.length-j))
       ·exact ⟨i+1,j,acc++ [⟨45,so'⟩],rfl,by omega,by omega,by push_cast;rfl,rfl,by simp;omega,by rw [zB,List.length_append];exact hown3,hN,hb3⟩
       ·have:=hGq.out;omega
     ·have hiI3: ¬((i:Int)<o.length):=by omega
      have hdec:decide ((i:Int)<o.length)=false:=by simpa using hiI3
      by_cases hj1:j<f.length
      ·have hjI3:(j:Int)<f.length:=by omega
       obtain ⟨bf,of,rfl,hbf,sf⟩:=(hF.below hbwj).at hj1
       rw [show f.getD j ByteArray.empty=f[j] by simp [List.getD,hj1]] at sf
       have hN:Hid ((acc++ [⟨43,f[j]⟩])++Dn.Xa (o.drop i) (f.drop (j+1))=Dn.WT o f):=by
        show _=_
        rw [<-hacc.out,JF o f hil hj1 (fun h=>absurd h hi1)];simp
       clear hacc
       generalize f[j]=sf' at *
       go_wp2_with fail
       go_quiet (fail)
       go_wp2_with fail
       go_quiet (fail)
       go_wp2_with (at_builtin;refine zm rfl (.tmp 143) (.tmp 149) 59 rfl wr.heap.size 93 i0 _ 2 24 underlying59 hi hz0 hz1 hz2 rfl (by decide) (.slice al acc.length cl) acc.length (zg acc) rfl (World.ownsRow.alloc (w:=wj.drewN _) hown _) ⟨wj.heap.size,0,none⟩ 1 1 [.int .u8 43,.string sf'] rfl rfl (zt (wj.drewN _) [.int .u8 43,.string sf'] 93) (hon _ _) (by unfold maxLen;omega) (by omega) (by simp;omega) ?_;intro v' w3 hown3 hgr hnew;have hb3:=((Below.drewN' hbj).alloc hszj _).grown hgr (by simp;omega) (fun j e=>by have:=(hown.lt j e).1;omega))
       go_wp2_with fail
       go_roundg ((o.length-i)+(f.length-(j+1)))
       ·exact ⟨i,j+1,acc++ [⟨43,sf'⟩],rfl,by omega,by omega,rfl,by push_cast;rfl,by simp;omega,by rw [zB,List.length_append];exact hown3,hN,hb3⟩
       ·have:=hGq.out;omega
      ·have hjI3: ¬((j:Int)<f.length):=by omega
       have hF':Hid (Dn.WT o f=acc):=by
        show _=_
        rw [<-hacc.out,List.drop_eq_nil_of_le (show o.length<=i by omega),List.drop_eq_nil_of_le (show f.length<=j by omega),Dn.Sj,List.append_nil]
       clear hacc
       go_wp2_with fail
       go_ret
       refine ⟨al,cl,?_,?_,hbwj⟩
       ·rw [hF'.out];rfl
       ·rw [hF'.out];exact qe hown hsw
  | succ i=>
    rw [show ((i+1:Nat):Int)-1=(i:Int) by omega]
    have hiI:(0:Int)<=i:=by omega
    have hil:i<=o.length:=by omega
    have hi2:(i:Int)<(o.length:Int)+1:=by omega
    obtain ⟨xa,xl,xc,hx⟩:=hT.link hil
    have hxf:=hT.warm i
    have hTI:=hT.row hil
    have hbI:=(hbel.alloc hsw (.cells (madeCells #[.int .i64 0] (f.length+1)) 3)).setCell (p:=⟨w.heap.size,i,none⟩) (Nat.le_refl _) (.slice (some ⟨wr.heap.size,0,none⟩) (f.length+1) (f.length+1))
    have hxa:(wr.alloc (.cells (madeCells #[.int .i64 0] (f.length+1)) 3)).cell? ⟨w.heap.size,i,none⟩=some (.slice xa xl xc):=((Below.refl wr.heap.size wr).alloc (Nat.le_refl _) _).cell (p:=⟨w.heap.size,i,none⟩) (by show w.heap.size<wr.heap.size;have:=hT.size;omega) |>.trans hx
    have hxaf:(wr.alloc (.cells (madeCells #[.int .i64 0] (f.length+1)) 3)).frozen? ⟨w.heap.size,i,none⟩=false:=zi ((Below.heap_alloc wr _ w.heap.size (by have:=hT.size;omega)).trans hT.tab)
    go_wp2_with fail
    generalize (wr.alloc (.cells (madeCells #[.int .i64 0] (f.length+1)) 3)).setCell ⟨w.heap.size,i,none⟩ (.slice (some ⟨wr.heap.size,0,none⟩) (f.length+1) (f.length+1))=W1 at *
    clear hxa hxaf hx hxf hT hbel
    go_loopg [9] (f.length+1) (fun g t wi=> ∃q:Nat,g=q/\q<=f.length+1/\t= .int .i64 ((q:Int)-1)/\jh o f w.heap.size i q wi/\Below w.heap.size w wi)
    case atStart=>exact ⟨f.length+1,rfl,Nat.le_refl _,by rw [show ((f.length+1:Nat):Int)-1=f.length by omega],hTI,hbI⟩
    case round=>
     rename World=>wi
     obtain ⟨q,hgq,hql,rfl,hQ,hbq⟩:=hrel
     have hGq:Hid (_=q):=hgq
     clear hgq hTI hbI
     cases q with
     | zero=>
       have hz:(0:Int)<=((0:Nat):Int)-1 ↔ False:=by simp
       go_wp2_with fail
       go_roundg i
       ·exact ⟨i,rfl,by omega,rfl,hQ.done,hbq⟩
       ·have:=hG.out;omega
     | succ j=>
       rw [show ((j+1:Nat):Int)-1=(j:Int) by omega]
       have hjI:(0:Int)<=j:=by omega
       have hjl:j<=f.length:=by omega
       have hj2:(j:Int)<(f.length:Int)+1:=by omega
       have hL0:=hQ.link (Nat.le_refl i) hil
       obtain ⟨z0,hc0⟩:=hQ.there hjl
       have hcf:=hQ.warm j
       by_cases e1:i=o.length
       ·have hq1:(((i:Nat):Int)==(o.length:Int))=true:=by simp [e1]
        have hP:Hid (jh o f w.heap.size i j (wi.setCell ⟨w.heap.size+1+(o.length-i),j,none⟩ (.int .i64 ((f.length:Int)-j)))):=hQ.put hjl hil (by rw [e1,TJ];omega)
        have hBp:=hbq.setCell (p:=⟨w.heap.size+1+(o.length-i),j,none⟩) (by show w.heap.size<=w.heap.size+1+(o.length-i);omega) (.int .i64 ((f.length:Int)-j))
        clear hQ e1
        go_wp2_with fail
        go_roundg j
        ·exact ⟨j,rfl,by omega,rfl,hP.out,hBp⟩
        ·have:=hGq.out;omega
       ·have hq1:(((i:Nat):Int)==(o.length:Int))=false:=by simp;omega
        have hi3:i<o.length:=by omega
        by_cases e2:j=f.length
        ·have hq2:(((j:Nat):Int)==(f.length:Int))=true:=by simp [e2]
         have hP:Hid (jh o f w.heap.size i j (wi.setCell ⟨w.heap.size+1+(o.length-i),j,none⟩ (.int .i64 ((o.length:Int)-i)))):=hQ.put hjl hil (by rw [e2,QZ];omega)
         have hBp:=hbq.setCell (p:=⟨w.heap.size+1+(o.length-i),j,none⟩) (by show w.heap.size<=w.heap.size+1+(o.length-i);omega) (.int .i64 ((o.length:Int)-i))
         clear hQ e1 e2
         go_wp2_with fail
         go_roundg j
         ·exact ⟨j,rfl,by omega,rfl,hP.out,hBp⟩
         ·have:=hGq.out;omega
        ·have hq2:(((j:Nat):Int)==(f.length:Int))=false:=by simp;omega
         have hj3:j<f.length:=by omega
         have hL1:=hQ.link (Nat.le_succ i) (show i+1<=o.length by omega)
         have hi4:(i:Int)<o.length:=by omega
         have hj4:(j:Int)<f.length:=by omega
         obtain ⟨bo,oo,rfl,hbo,so⟩:=(hO.below hbq).at hi3
         obtain ⟨bf,of,rfl,hbf,sf⟩:=(hF.below hbq).at hj3
         rw [show o.getD i ByteArray.empty=o[i] by simp [List.getD,hi3]] at so
         rw [show f.getD j ByteArray.empty=f[j] by simp [List.getD,hj3]] at sf
         have hi5:(i:Int)+1<(o.length:Int)+1:=by omega
         have hj5:(j:Int)+1<(f.length:Int)+1:=by omega
         have hD0:Dd o f i j<=2000:=by have:=VZ o f i j;omega
         by_cases e3:o[i]=f[j]
         ·have hq3:(o[i].toList==f[j].toList)=true:=by rw [e3];simp
          have hc1:=hQ.full (Nat.lt_succ_self i) (show i+1<=o.length by omega) (show j+1<=f.length by omega)
          have hP:Hid (∀k,jh o f w.heap.size i j ((wi.drewN k).setCell ⟨w.heap.size+1+(o.length-i),j,none⟩ (.int .i64 (Dd o f (i+1) (j+1):Int)))):=fun k=>jh.put (w:=wi.drewN k) ⟨hQ.size,hQ.tab,hQ.rows,hQ.row⟩ hjl hil (by rw [Tt hi3 hj3 e3])
          generalize o[i]=so' at *
          generalize f[j]=sf' at *
          generalize Dd o f (i+1) (j+1)=dd at *
          clear hQ
          go_wp2_with fail
          go_quiet (fail)
          go_wp2_with fail
          go_region
          go_wp2_with fail
          go_roundg j
          ·exact ⟨j,rfl,by omega,rfl,hP.out _,(Below.drewN' hbq).setCell (p:=⟨w.heap.size+1+(o.length-i),j,none⟩) (by show w.heap.size<=w.heap.size+1+(o.length-i);omega) _⟩
          ·have:=hGq.out;omega
         ·have hq3:(o[i].toList==f[j].toList)=false:=Xj e3
          have hDn:=Dm hi3 hj3 e3
          have hc1:=hQ.full (Nat.lt_succ_self i) (show i+1<=o.length by omega) hjl
          have hc2:=hQ.own (Nat.le_refl (j+1)) (show j+1<=f.length by omega)
          have hP:Hid (∀k (z:Int),z=(Dd o f i j:Int)->jh o f w.heap.size i j ((wi.drewN k).setCell ⟨w.heap.size+1+(o.length-i),j,none⟩ (.int .i64 z))):=fun k z hz=>jh.put (w:=wi.drewN k) ⟨hQ.size,hQ.tab,hQ.rows,hQ.row⟩ hjl hil hz
          have hd1:Dd o f (i+1) j<=2000:=by have:=VZ o f (i+1) j;omega
          have hd2:Dd o f i (j+1)<=2000:=by have:=VZ o f i (j+1);omega
          generalize o[i]=so' at *
          generalize f[j]=sf' at *
          generalize Dd o f (i+1) j=d1 at *
          generalize Dd o f i (j+1)=d2 at *
          generalize Dd o f i j=d0 at *
          have hDH:Hid (d0=1+min d1 d2):=hDn
          clear hQ hDn
          by_cases hle:d1<=d2
          ·have hleI:(d1:Int)<=d2:=by omega
           go_wp2_with fail
           go_quiet (fail)
           go_wp2_with fail
           go_quiet (fail)
           go_wp2_with fail
           go_region
           go_wp2_with fail
           go_roundg j
           ·exact ⟨j,rfl,by omega,rfl,hP.out _ _ (by have:=hDH.out;omega),(Below.drewN' hbq).setCell (p:=⟨w.heap.size+1+(o.length-i),j,none⟩) (by show w.heap.size<=w.heap.size+1+(o.length-i);omega) _⟩
           ·have:=hGq.out;omega
          ·have hleI: ¬((d1:Int)<=d2):=by omega
           go_wp2_with fail
           go_quiet (fail)
           go_wp2_with fail
           go_quiet (fail)
           go_wp2_with fail
           go_region
           go_wp2_with fail
           go_roundg j
           ·exact ⟨j,rfl,by omega,rfl,hP.out _ _ (by have:=hDH.out;omega),(Below.drewN' hbq).setCell (p:=⟨w.heap.size+1+(o.length-i),j,none⟩) (by show w.heap.size<=w.heap.size+1+(o.length-i);omega) _⟩
           ·have:=hGq.out;omega
theorem zJ.of_ownsT {T base:Nat} {w:World} {v:Value} {L:List zk} (h:w.ownsRow base T 2 v L.length (zg L)):zJ w.heap.size w v L:=by
 by_cases h0:L.length=0
 ·have:L= []:=List.eq_nil_of_length_eq_zero h0
  subst this
  rcases h.2 with ⟨e,_⟩ | ⟨g,cap,cur,e,_⟩
  ·exact .inl ⟨rfl,_,_,e⟩
  ·exact .inl ⟨rfl,_,_,e⟩
 ·obtain ⟨g,cap,rfl,_,hg,_⟩:=zv h (by omega)
  refine .inr ⟨g,cap,rfl,hg,fun i hi=> ?_⟩
  obtain ⟨s0,s1⟩:=yR L i hi
  exact ⟨(h.cellAt (i*2) (by omega)).trans s0,(h.cellAt (i*2+1) (by omega)).trans s1⟩
theorem Gq {L:List zk} {c k i:Nat} {bs:List Bool} (h:qB L c k i bs) (hi:L.length<=i):qB L c k (i+1) bs:=
 ⟨h.1,fun j hj=>by
  rw [h.2 j hj]
  have e1:decide (j<i)=true:=by simp;omega
  have e2:decide (j<i+1)=true:=by simp;omega
  rw [e1,e2]⟩
theorem Uu (n:Nat) (hn:n<=1000) (w:World):(Instr.makeSlice 97 (.int .i64 (n:Int)) (.int .i64 (n:Int))).run prog w= .ok (.slice (some ⟨w.heap.size,0,none⟩) n n) (w.alloc (.cells (madeCells #[.bool false] n) 4)):=
 run_make_row' (P:=prog) 97 4 (.bool false) 1 underlying97 Ka rfl .i64 .i64 n (by omega) (by omega) w
theorem FE (n:Nat) (hn:n<=1000) (w:World):(w.alloc (.cells (madeCells #[.bool false] n) 4)).ownsRow w.heap.size 4 1 (.slice (some ⟨w.heap.size,0,none⟩) n n) n (zY (List.replicate n false)):=
 ⟨by simp [zY],.inr ⟨_,_,_,rfl,Nat.le_refl _,heap_alloc_new w _,Nat.le_refl _,by unfold maxLen;omega,by rw [yD];simp,by rw [yD];simp [zY]⟩⟩
theorem Gn {base g n cap i:Nat} {hv:List HV} {w:World} (hs:HSv base g n cap hv w) (hbase:base<=w.heap.size) (hgb:base<=g) (hi:i<hv.length) (l:List (Nat×Value))
 (hl:(l= []/\zV hv[i].1=hv[i].1)\/(l= [(i*5,.int .i64 ((zV hv[i].1).fr:Nat))]/\(zV hv[i].1).tr=hv[i].1.tr)\/(l= [(i*5+2,.int .i64 ((zV hv[i].1).tr:Nat))]/\(zV hv[i].1).fr=hv[i].1.fr)\/l= [(i*5,.int .i64 ((zV hv[i].1).fr:Nat)),(i*5+2,.int .i64 ((zV hv[i].1).tr:Nat))]):
 HSv base g n cap (hv.set i (zV hv[i].1,hv[i].2)) (l.foldl (fun w p=>w.setCell ⟨g,p.1,none⟩ p.2) w)/\Below base w (l.foldl (fun w p=>w.setCell ⟨g,p.1,none⟩ p.2) w)/\w.grownBy (l.foldl (fun w p=>w.setCell ⟨g,p.1,none⟩ p.2) w) (some g):=by
 obtain ⟨cur,hcur⟩:=ze hs.row (g:=g) rfl
 have hG:=yQ hv i hi
 have hgr: ∀(l:List (Nat×Value)) (w:World),w.grownBy (l.foldl (fun w p=>w.setCell ⟨g,p.1,none⟩ p.2) w) (some g):=by
  intro l
  induction l with
  | nil=>intro w;exact ⟨rfl,rfl,rfl,Nat.le_refl _,fun _ _ _=>rfl⟩
  | cons p l ih=>intro w;exact zh (zc w g p.1 p.2) (ih _)
 have hgw:=hgr l w
 have hrow:(l.foldl (fun w p=>w.setCell ⟨g,p.1,none⟩ p.2) w).ownsRow base 61 5 (.slice (some ⟨g,0,none⟩) n cap) n (hunkCells (hv.set i (zV hv[i].1,hv[i].2))):=by
  refine jd hs.row hs.len hi _ (fun cu hcu htk=> ?_)
  have hb:(zV hv[i].1).fc=hv[i].1.fc/\(zV hv[i].1).tc=hv[i].1.tc:=⟨rfl,rfl⟩
  simp only [hb.1,hb.2]
  rw [two (by rw [htk];exact hG.2.1) (by rw [htk];exact hG.2.2.2.1) (by rw [htk];exact hG.2.2.2.2)]
  rcases hl with ⟨rfl,e⟩ | ⟨rfl,e⟩ | ⟨rfl,e⟩ | rfl
  ·refine ⟨cu,hcu,rfl,?_⟩
   rw [e,yZ (l:=List.take (n*5) cu.toList) (by rw [htk];exact hG.1),yZ (by rw [htk];exact hG.2.2.1)]
  ·refine ⟨_,zb _ _ _ _ _ _ _ hcu,by simp,?_⟩
   rw [e,yZ (i:=i*5+2) (by rw [List.getElem?_set,htk];simp [hG.2.2.1])]
   simp [List.take_set]
  ·refine ⟨_,zb _ _ _ _ _ _ _ hcu,by simp,?_⟩
   rw [e,yZ (i:=i*5) (by rw [htk];exact hG.1)]
   simp [List.take_set]
  ·refine ⟨_,zb _ _ _ _ _ _ _ (zb _ _ _ _ _ _ _ hcu),by simp,?_⟩
   simp [List.take_set]
 refine ⟨⟨by simp [hs.len],hrow,fun p hp=> ?_,?_⟩,(Below.refl base w).grown hgw hbase (fun k e=>by cases e;exact hgb),hgw⟩
 ·have key: ∃q∈hv,q.2=p.2/\q.1.lines=p.1.lines:=by
   rcases List.mem_or_eq_of_mem_set hp with h | h
   ·exact ⟨p,h,rfl,rfl⟩
   ·exact ⟨hv[i],List.getElem_mem hi,by rw [h],by rw [h];rfl⟩
  obtain ⟨q,hq,e1,e2⟩:=key
  have ho:=hs.lines q hq
  have:=ho.kept hgw (.inr (zT ho hcur (by decide)))
  rw [e1,e2] at this
  exact this
 ·have h0:=hs.apart
  have h1:(hv.map (·.2)).Pairwise (fun a b:Value=>a.ownBlock=none\/a.ownBlock≠b.ownBlock):=List.pairwise_map.2 h0
  have h2:(hv.set i (zV hv[i].1,hv[i].2)).map (·.2)=hv.map (·.2):=by
   rw [List.map_set]
   apply List.ext_getElem?
   intro j
   rw [List.getElem?_set]
   split
   ·rename_i e;subst e;simp [hi]
   ·rfl
  rw [<-h2] at h1
  exact List.pairwise_map.1 h1
theorem Vx {base g n cap g' cap' O:Nat} {init:List HV} {h:zx} {vl:Value} {s:zk} {w w2:World} (hs:HSv base g n cap (init++ [(h,vl)]) w) (hO:init.length*5=O)
 (hown:w2.ownsRow base 93 2 (.slice (some ⟨g',0,none⟩) (h.lines.length+1) cap') (h.lines.length+1) (zg h.lines++ [.int .u8 (s.kind:Nat),.string s.text]))
 (hold: ∀k,k<w.heap.size->some k≠vl.ownBlock->w2.heap[k]? =w.heap[k]?)
 (hnew:(Value.slice (some ⟨g',0,none⟩) (h.lines.length+1) cap').ownBlock=vl.ownBlock\/ ∀k,(Value.slice (some ⟨g',0,none⟩) (h.lines.length+1) cap').ownBlock=some k->w.heap.size<=k):
 (s.kind=32->HSv base g n cap (init++ [(xp h s,.slice (some ⟨g',0,none⟩) (h.lines.length+1) cap')]) (((w2.setCell ⟨g,O+4,none⟩ (.slice (some ⟨g',0,none⟩) (h.lines.length+1) cap')).setCell ⟨g,O+1,none⟩ (.int .i64 ((h.fc:Int)+1))).setCell ⟨g,O+3,none⟩ (.int .i64 ((h.tc:Int)+1))))/\
 (s.kind=45->HSv base g n cap (init++ [(xp h s,.slice (some ⟨g',0,none⟩) (h.lines.length+1) cap')]) ((w2.setCell ⟨g,O+4,none⟩ (.slice (some ⟨g',0,none⟩) (h.lines.length+1) cap')).setCell ⟨g,O+1,none⟩ (.int .i64 ((h.fc:Int)+1))))/\
 (s.kind=43->HSv base g n cap (init++ [(xp h s,.slice (some ⟨g',0,none⟩) (h.lines.length+1) cap')]) ((w2.setCell ⟨g,O+4,none⟩ (.slice (some ⟨g',0,none⟩) (h.lines.length+1) cap')).setCell ⟨g,O+3,none⟩ (.int .i64 ((h.tc:Int)+1)))):=by
 have hget:=yQ (init++ [(h,vl)]) init.length (by simp)
 simp only [qt,hO] at hget
 refine ⟨fun hk=> ?_,fun hk=> ?_,fun hk=> ?_⟩
 ·have hA:(xp h s).fc=h.fc+1/\(xp h s).tc=h.tc+1:=by unfold xp;simp [hk]
  refine qg hs hown hold hnew (zh (zh (zc _ _ _ _) (zc _ _ _ _)) (zc _ _ _ _)) ?_
  intro cu hcu htk
  obtain ⟨cu',k1,k2,k3⟩:=TC (o1:=O+4) (o2:=O+1) (o3:=O+3) (v1:= .slice (some ⟨g',0,none⟩) (h.lines.length+1) cap') (v2:= .int .i64 ((h.fc:Int)+1)) (v3:= .int .i64 ((h.tc:Int)+1)) hcu (n*5)
  refine ⟨cu',k1,k2,?_⟩
  rw [k3,hO,FA (by rw [htk];exact hget.1) (by rw [htk];exact hget.2.2.1),hA.1,hA.2]
  rfl
 ·have hA:(xp h s).fc=h.fc+1/\(xp h s).tc=h.tc:=by unfold xp;simp [hk]
  refine qg hs hown hold hnew (zh (zc _ _ _ _) (zc _ _ _ _)) ?_
  intro cu hcu htk
  obtain ⟨cu',k1,k2,k3⟩:=Fb (o1:=O+4) (o2:=O+1) (v1:= .slice (some ⟨g',0,none⟩) (h.lines.length+1) cap') (v2:= .int .i64 ((h.fc:Int)+1)) hcu (n*5)
  refine ⟨cu',k1,k2,?_⟩
  rw [k3,hO,FA (by rw [htk];exact hget.1) (by rw [htk];exact hget.2.2.1),hA.1,hA.2]
  refine (yK ?_).symm
  rw [List.getElem?_set,List.getElem?_set,htk]
  simp [hget.2.2.2.1]
 ·have hA:(xp h s).fc=h.fc/\(xp h s).tc=h.tc+1:=by unfold xp;simp [hk]
  refine qg hs hown hold hnew (zh (zc _ _ _ _) (zc _ _ _ _)) ?_
  intro cu hcu htk
  obtain ⟨cu',k1,k2,k3⟩:=Fb (o1:=O+4) (o2:=O+3) (v1:= .slice (some ⟨g',0,none⟩) (h.lines.length+1) cap') (v2:= .int .i64 ((h.tc:Int)+1)) hcu (n*5)
  refine ⟨cu',k1,k2,?_⟩
  rw [k3,hO,FA (by rw [htk];exact hget.1) (by rw [htk];exact hget.2.2.1),hA.1,hA.2]
  rw [yK (l:=(List.take (n*5) cu.toList).set (O+4) _) (i:=O+1)]
  ·rfl
  ·rw [List.getElem?_set,htk];simp [hget.2.1]
end Go.Proofs.YtcclgodahlinbaaGreatDoor
