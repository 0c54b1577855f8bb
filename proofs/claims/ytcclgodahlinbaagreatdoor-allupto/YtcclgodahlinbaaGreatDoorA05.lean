import Derived.Test.YtcclgodahlinbaaGreatDoorA04
import Derived.Deep.LoopGhost
import Derived.Deep.OwnRows
import Derived.Shelf.Strings.Builder1
import Derived.Shelf.Strings.BuilderF
import Derived.Shelf.Strings.BuilderK
import Derived.Shelf.LaysM
import Derived.Shelf.Strconv.Clone
import Derived.Shelf.Strings.Search1
import Derived.Shelf.Strings.Search2
import Derived.Shelf.Strings.Search3
import Derived.Shelf.Strings.Count
import Derived.Shelf.Strings.Prefix
import Derived.Shelf.Strings.Split
import Derived.Shelf.Slices.Equal
import Derived.Shelf.Slices.Empties2
import Derived.Test.YtcclgodahlinbaaGreatDoorProg
namespace Go.Proofs.YtcclgodahlinbaaGreatDoor
set_option maxHeartbeats 16000000
open Tryz Go.RowKit Go
set_option maxRecDepth 100000
theorem SM.kept {base S:Nat} {vo vf:Value} {st:Dn.yl} {w w1:World} {row:Option Nat} (h:SM [] base S vo vf st w) (hg:w.grownBy w1 row)
 (hr: ∀k,row=some k-> ∃cur,w.heap[k]? =some (.cells cur 120 (0,0))):SM [] base S vo vf st w1:=by
 obtain ⟨vop,vled,h⟩:=h
 have k1:some S≠row:=by
  intro e
  obtain ⟨cur,hc⟩:=hr S e.symm
  rw [h.blk] at hc
  cases hc
 have k2: ∀ {e size n:Nat} {v:Value} {xs:List Value},w.ownsRow base e size v n xs->e≠120->v.ownBlock=none\/v.ownBlock≠row:=by
  intro e size n v xs ho hne
  cases hv:v.ownBlock with
  | none=>exact .inl rfl
  | some g=>
    right
    intro e'
    obtain ⟨cur,hc⟩:=hr g e'.symm
    obtain ⟨cur',hc'⟩:=ze ho hv
    rw [hc] at hc'
    cases hc'
    exact hne rfl
 exact ⟨vop,vled,h.le,(hg.block S h.size.2 k1).trans h.blk,h.op.kept hg (k2 h.op (by decide)),h.led.kept hg (k2 h.led (by decide)),h.ne1,h.ne2,h.ne3,fun x hx=>by simp at hx⟩
theorem SM.alloc {X:List (Nat×Obj)} {base S:Nat} {vo vf:Value} {st:Dn.yl} {w:World} (h:SM X base S vo vf st w) (o:Obj):SM X base S vo vf st (w.alloc o):=by
 obtain ⟨a,b,h⟩:=h;exact ⟨a,b,h.alloc o⟩
theorem SM.drewN {X:List (Nat×Obj)} {base S k:Nat} {vo vf:Value} {st:Dn.yl} {w:World} (h:SM X base S vo vf st w):SM X base S vo vf st (w.drewN k):=by
 obtain ⟨a,b,h⟩:=h;exact ⟨a,b,h.drewN⟩
theorem Ed:(prog.info? 120).map (fun i=>(i.zero,i.size,i.bytes))=some (some (.agg #[.int .u8 0,.string ByteArray.empty]),2,24):=by kernel_rfl
def Uy:Value->Nat | .slice _ l _=>l | _=>0
theorem Vs (a:Option Addr) (cap:Nat) (w:World):Calls prog 100 #[.slice a 0 cap] w fun e w'=>e= .returned (.tuple #[])/\w=w':=by
 go_enter func100,ntmps100
 go_wp2
 refine wp_loop_rounds 1 ?_
 rw [rounds_succ]
 go_wp2
 go_end0
 exact ⟨rfl,rfl⟩
theorem Ui {o f:List ByteArray} {st:Dn.yl} (x y:Nat) (h: ¬(x=0/\y=0)):
 Dn.ky o f st (x+y) x y=if st.at f.length x y=32 then ⟨32,o.getD (x-1) default⟩::Dn.ky o f st (x+y-1) (x-1) (y-1)
  else if st.at f.length x y=45 then ⟨45,o.getD (x-1) default⟩::Dn.ky o f st (x+y-1) (x-1) y
  else ⟨st.at f.length x y,f.getD (y-1) default⟩::Dn.ky o f st (x+y-1) x (y-1):=by
 obtain ⟨k,hk⟩: ∃k,x+y=k+1:=⟨x+y-1,by omega⟩
 rw [hk,Dn.ky,if_neg h]
 rfl
theorem Yj {o f:List ByteArray} {st:Dn.yl} (hi:Dn.Inv o f st): ∀(k k' x y:Nat),x+y<=k->x+y<=k'->x<=o.length->y<=f.length->st.at f.length x y≠0->Dn.ky o f st k x y=Dn.ky o f st k' x y:=by
 intro k
 induction k with
 | zero=>
   intro k' x y h h' _ _ _
   have:x=0:=by omega
   have:y=0:=by omega
   subst_vars
   cases k' with
   | zero=>rfl
   | succ k'=>simp [Dn.ky]
 | succ k ih=>
   intro k' x y h h' hx hy hr
   by_cases h0:x=0/\y=0
   ·rw [Dn.ky,if_pos h0]
    cases k' with
    | zero=>rfl
    | succ k'=>rw [Dn.ky,if_pos h0]
   ·obtain ⟨k'',rfl⟩: ∃k'',k'=k''+1:=⟨k'-1,by omega⟩
    rw [Dn.ky,Dn.ky,if_neg h0,if_neg h0]
    rcases hi.known x y hx hy hr with ⟨a,b,c⟩ | ⟨a,b,c,d,e⟩ | ⟨a,b,c⟩ | ⟨a,b,c⟩
    ·omega
    ·rw [if_pos a,if_pos a,ih k'' _ _ (by omega) (by omega) (by omega) (by omega) e]
    ·rw [if_neg (by omega),if_pos a,if_neg (by omega),if_pos a,ih k'' _ _ (by omega) (by omega) (by omega) (by omega) c]
    ·rw [if_neg (by omega),if_neg (by omega),if_neg (by omega),if_neg (by omega),ih k'' _ _ (by omega) (by omega) (by omega) (by omega) c]
theorem Uk {base S capo capf:Nat} {ao af:Option Addr} {o f:List ByteArray} {st:Dn.yl} {w:World} (h:SM [] base S (.slice ao o.length capo) (.slice af f.length capf) st w)
 (ho:qa base w (.slice ao o.length capo) o) (hf:qa base w (.slice af f.length capf) f) (hn:o.length<209) (hm:f.length<209) (hinv:Dn.Inv o f st) (he:st.at f.length o.length f.length≠0) (hbw:base<=w.heap.size):
 Calls prog 53 #[.pointer (some ⟨S,0,none⟩),.complex .f64 (fl o.length) (fl f.length)] w fun e w'=>
  ∃v,e= .returned v/\w'.ownsRow base 120 2 v (Dn.ky o f st (o.length+f.length) o.length f.length).length (zg (Dn.ky o f st (o.length+f.length) o.length f.length).reverse)/\Below base w w':=by
 have hll:st.led.length<=100000:=by rw [hinv.len];have:(o.length+1)*(f.length+1)<=209*209:=Nat.mul_le_mul (by omega) (by omega);omega
 obtain ⟨i0,hi,hz0,hz1,hz2⟩:=info_parts Ed
 generalize hL:Dn.ky o f st (o.length+f.length) o.length f.length=L
 have hL':Hid (Dn.ky o f st (o.length+f.length) o.length f.length=L):=hL
 clear hL
 go_enter func53,ntmps53
 go_wp2
 go_loopw [1,5] (fun t1 v wr=> ∃(x y:Nat) (k:List zk),t1= .complex .f64 (fl x) (fl y)/\x<=o.length/\y<=f.length/\Hid (st.at f.length x y≠0)/\Hid (k++Dn.ky o f st (x+y) x y=L)/\SM [] base S (.slice ao o.length capo) (.slice af f.length capf) st wr/\wr.ownsRow base 120 2 v k.length (zg k)/\Below base w wr/\k.length+x+y<=o.length+f.length) (fun _ v _=>1000-Uy v)
 case atStart=>exact ⟨o.length,f.length,[],rfl,Nat.le_refl _,Nat.le_refl _,he,hL',h,World.ownsRow_nil _ _ _ _,Below.refl _ _,by simp⟩
 case round=>
  obtain ⟨x,y,k,rfl,hx,hy,hat,hback,hsm,hrow,hbel,hkl⟩:=hrel
  have o1:=Pp (k:=x) (by omega)
  have o2:=Pp (k:=y) (by omega)
  by_cases h0:x=0/\y=0
  ·obtain ⟨rfl,rfl⟩:=h0
   have hne:((FloatKind.f64.format.order (fl 0) 0==some .eq) && (FloatKind.f64.format.order (fl 0) 0==some .eq))=true:=by rw [o1];rfl
   have hkL:k=L:=by have:=hback.out;simpa [Dn.ky] using this
   subst hkL
   clear o1 o2 hback hat
   by_cases hk0:k.length=0
   ·have hk1:k= []:=List.eq_nil_of_length_eq_zero hk0
    subst hk1
    have hsl: ∃a c,u5= .slice a 0 c:=by
     rcases hrow.2 with ⟨e,_⟩ | ⟨g,cap,cur,e,_⟩
     ·exact ⟨_,_,e⟩
     ·exact ⟨_,_,e⟩
    obtain ⟨a,c,rfl⟩:=hsl
    have hR:=Vs a c wr
    clear hkl hk0
    go_wp2_with (go_at_call 100;refine hR.mono ?_;rintro e w' ⟨rfl,rfl⟩)
    go_ret
    exact ⟨_,rfl,hrow,hbel⟩
   ·obtain ⟨g,cap,rfl,hbg,_,_⟩:=zv hrow (by omega)
    have hR:=WG hrow rfl (by omega) hbg (by have:=hbel.size;omega)
    have hkl':Hid (k.length+0+0<=o.length+f.length):=hkl
    clear hkl
    go_wp2_with (go_at_call 100;refine hR.mono ?_;rintro e w' ⟨rfl,hr',hb'⟩)
    go_ret
    exact ⟨_,rfl,hr',hbel.trans hb'⟩
  ·have hne:((FloatKind.f64.format.order (fl x) 0==some .eq) && (FloatKind.f64.format.order (fl y) 0==some .eq))=false:=by rw [o1,o2];simp;omega
   clear o1 o2
   have hled:=hinv.known x y hx hy hat.out
   have hlI:=Dn.EZ (n:=o.length) (m:=f.length) hx hy
   rw [<-hinv.len] at hlI
   obtain ⟨vop,vled,hsv⟩:=id hsm
   obtain ⟨g,cap,rfl,hbg,hgw,_⟩:=zv hsv.led (show 0<st.led.length by omega)
   have c0:=za (k:=0) (v:= .slice ao o.length capo) hsv.blk rfl
   have c1:=za (k:=1) (v:= .slice af f.length capf) hsv.blk rfl
   have c4:=za (k:=4) (v:= .slice (some ⟨g,0,none⟩) st.led.length cap) hsv.blk rfl
   have cl:=YU hsv.led hlI
   have hq:Hid (∀n,Calls prog 50 #[.pointer (some ⟨S,0,none⟩),.complex .f64 (fl x) (fl y)] (wr.drewN n) fun e w''=>e= .returned (.int .i64 (Dn.idx f.length x y:Nat))/\ ∃k,w''=wr.drewN k):=fun n=>Zs c1 (by omega) (by omega) (by omega)
   have hatI:st.led.getD (Dn.idx f.length x y) 0=st.at f.length x y:=rfl
   rw [hatI] at cl
   have hlII:((Dn.idx f.length x y:Nat):Int)<st.led.length:=by omega
   generalize Dn.idx f.length x y=I at *
   have hstep:=Ui (o:=o) (f:=f) (st:=st) x y h0
   have hoW:=ho.below hbel
   have hfW:=hf.below hbel
   have hbw':base<=wr.heap.size:=by have:=hbel.size;omega
   clear hsv hatI
   have hrk: ∀(w1:World) (ob:Obj) (v':Value) (s:zk) (nq:Nat),w1.ownsRow base 120 2 v' (k.length+1) (zg k++ [.int .u8 (s.kind:Nat),.string s.text])->((wr.drewN nq).alloc ob).grownBy w1 u5.ownBlock->
       SM [] base S (.slice ao o.length capo) (.slice af f.length capf) st w1/\w1.ownsRow base 120 2 v' (k++ [s]).length (zg (k++ [s]))/\Below base w w1:=by
    intro w1 ob v' s nq h1 h2
    refine ⟨(hsm.drewN.alloc ob).kept h2 (fun j e=> ?_),?_,?_⟩
    ·obtain ⟨cur,hc⟩:=ze hrow e
     exact ⟨cur,(Below.heap_alloc (wr.drewN nq) ob j (Array.getElem?_eq_some_iff.1 hc).1).trans hc⟩
    ·rw [zB,List.length_append];exact h1
    ·exact ((Below.drewN' (k:=nq) hbel).alloc hbw' ob).grown h2 (by simp;omega) (fun j e=>(hrow.lt j e).1)
   rcases hled with ⟨a,b,c⟩ | ⟨a,b,c,d,e⟩ | ⟨a,b,c⟩ | ⟨a,b,c⟩
   ·omega
   ·
    obtain ⟨x',rfl⟩: ∃x',x=x'+1:=⟨x-1,by omega⟩
    obtain ⟨y',rfl⟩: ∃y',y=y'+1:=⟨y-1,by omega⟩
    rw [if_pos a] at hstep
    rw [a] at cl
    have cl':wr.cell? ⟨g,I,none⟩=some (.int .u8 32):=cl
    obtain ⟨bo,oo,rfl,_,ro⟩:=hoW.at (i:=x') (by omega)
    generalize ht:o.getD x' ByteArray.empty=t at ro
    have hth:=fun nq=>JW S bo oo o.length capo x' y' 32 t (wr.drewN nq) c0 (by omega) (by omega) ro (.inl rfl)
    have hs1:=fun w=>FG (x:=x') (y:=y') (by omega) (by omega) w
    have hback':Hid ((k++ [⟨32,t⟩])++Dn.ky o f st (x'+y') x' y'=L):=by
     unfold Hid
     rw [<-ht,<-hback.out,hstep,List.append_assoc,Yj hinv (x'+y') (x'+1+(y'+1)-1) x' y' (by omega) (by omega) (by omega) (by omega) (by simpa using e)]
     rfl
    have hat':Hid (st.at f.length x' y'≠0):=by unfold Hid;simpa using e
    clear hback hstep cl hat a ht d e hoW hfW ho hf
    have hone: ∀u∈ [Value.int .u8 32,Value.string t],u.oneCell'=true:=by intro u hu;simp at hu;rcases hu with rfl | rfl<;>rfl
    have hb1:k.length+1<=maxLen:=by unfold maxLen;omega
    have hb2:(k.length+1)*24<=140737488355328:=by omega
    have hbs: ∀ob nq,base<=((wr.drewN nq).alloc ob).heap.size:=by intro ob nq;simp;omega
    have hkl':Hid (k.length+(x'+1)+(y'+1)<=o.length+f.length):=hkl
    clear hkl
    go_wp2_with fail
    go_quiet ((go_at_call 50;exact hq.out _))
    go_wp2_with (first | (go_at_call 99;refine (hth _).mono ?_;rintro e w' ⟨rfl,rfl⟩) | (at_builtin;refine wpList_append_own _ rfl (.tmp 29) (.tmp 36) 66 rfl base 120 i0 _ 2 24 underlying66 hi hz0 hz1 hz2 rfl (by decide) u5 k.length (zg k) rfl ((qJ hrow).alloc _) ⟨wr.heap.size,0,none⟩ 1 1 [.int .u8 32,.string t] rfl rfl (zt (wr.drewN nq) _ _) hone hb1 hb2 (hbs _ _) ?_;intro v' w1 hown' hgrow _;obtain ⟨g',cap',rfl,_,_⟩:=zv hown' (Nat.succ_pos _)))
    have hr:=hrk w1 _ _ ⟨32,t⟩ nq hown' hgrow
    go_roundw
    case rel=>exact ⟨x',y',k++ [⟨32,t⟩],rfl,by omega,by omega,hat',hback',hr.1,hr.2.1,hr.2.2,by have:=hkl'.out;simp;omega⟩
    case measure=>
     have:=hkl'.out
     rcases hrow.2 with ⟨e,h⟩ | ⟨g2,cap2,cur2,e,_⟩
     ·subst e;simp [Uy];omega
     ·subst e;simp [Uy];omega
   ·
    obtain ⟨x',rfl⟩: ∃x',x=x'+1:=⟨x-1,by omega⟩
    rw [if_neg (by omega),if_pos a] at hstep
    rw [a] at cl
    have cl':wr.cell? ⟨g,I,none⟩=some (.int .u8 45):=cl
    obtain ⟨bo,oo,rfl,_,ro⟩:=hoW.at (i:=x') (by omega)
    generalize ht:o.getD x' ByteArray.empty=t at ro
    have hth:=fun nq=>JW S bo oo o.length capo x' y 45 t (wr.drewN nq) c0 (by omega) (by omega) ro (.inr rfl)
    have hs1:=fun w=>FM (x:=x') (y:=y) (by omega) (by omega) w
    have hback':Hid ((k++ [⟨45,t⟩])++Dn.ky o f st (x'+y) x' y=L):=by
     unfold Hid
     rw [<-ht,<-hback.out,hstep,List.append_assoc,Yj hinv (x'+y) (x'+1+(y)-1) x' y (by omega) (by omega) (by omega) (by omega) (by simpa using c)]
     rfl
    have hat':Hid (st.at f.length x' y≠0):=by unfold Hid;simpa using c
    clear hback hstep cl hat a ht c hoW hfW ho hf
    have hone: ∀u∈ [Value.int .u8 45,Value.string t],u.oneCell'=true:=by intro u hu;simp at hu;rcases hu with rfl | rfl<;>rfl
    have hb1:k.length+1<=maxLen:=by unfold maxLen;omega
    have hb2:(k.length+1)*24<=140737488355328:=by omega
    have hbs: ∀ob nq,base<=((wr.drewN nq).alloc ob).heap.size:=by intro ob nq;simp;omega
    have hkl':Hid (k.length+(x'+1)+(y)<=o.length+f.length):=hkl
    clear hkl
    go_wp2_with fail
    go_quiet ((go_at_call 50;exact hq.out _))
    go_wp2_with (first | (go_at_call 99;refine (hth _).mono ?_;rintro e w' ⟨rfl,rfl⟩) | (at_builtin;refine wpList_append_own _ rfl (.tmp 29) (.tmp 36) 66 rfl base 120 i0 _ 2 24 underlying66 hi hz0 hz1 hz2 rfl (by decide) u5 k.length (zg k) rfl ((qJ hrow).alloc _) ⟨wr.heap.size,0,none⟩ 1 1 [.int .u8 45,.string t] rfl rfl (zt (wr.drewN nq) _ _) hone hb1 hb2 (hbs _ _) ?_;intro v' w1 hown' hgrow _;obtain ⟨g',cap',rfl,_,_⟩:=zv hown' (Nat.succ_pos _)))
    have hr:=hrk w1 _ _ ⟨45,t⟩ nq hown' hgrow
    go_roundw
    case rel=>exact ⟨x',y,k++ [⟨45,t⟩],rfl,by omega,by omega,hat',hback',hr.1,hr.2.1,hr.2.2,by have:=hkl'.out;simp;omega⟩
    case measure=>
     have:=hkl'.out
     rcases hrow.2 with ⟨e,h⟩ | ⟨g2,cap2,cur2,e,_⟩
     ·subst e;simp [Uy];omega
     ·subst e;simp [Uy];omega
   ·
    obtain ⟨y',rfl⟩: ∃y',y=y'+1:=⟨y-1,by omega⟩
    rw [if_neg (by omega),if_neg (by omega),a] at hstep
    rw [a] at cl
    have cl':wr.cell? ⟨g,I,none⟩=some (.int .u8 43):=cl
    obtain ⟨bo,oo,rfl,_,ro⟩:=hfW.at (i:=y') (by omega)
    generalize ht:f.getD y' ByteArray.empty=t at ro
    have hth:=fun nq=>FL S bo oo f.length capf x y' t (wr.drewN nq) c1 (by omega) (by omega) ro
    have hs1:=fun w=>Pk (x:=x) (y:=y') (by omega) (by omega) w
    have hback':Hid ((k++ [⟨43,t⟩])++Dn.ky o f st (x+y') x y'=L):=by
     unfold Hid
     rw [<-ht,<-hback.out,hstep,List.append_assoc,Yj hinv (x+y') (x+(y'+1)-1) x y' (by omega) (by omega) (by omega) (by omega) (by simpa using c)]
     rfl
    have hat':Hid (st.at f.length x y'≠0):=by unfold Hid;simpa using c
    clear hback hstep cl hat a ht c hoW hfW ho hf
    have hone: ∀u∈ [Value.int .u8 43,Value.string t],u.oneCell'=true:=by intro u hu;simp at hu;rcases hu with rfl | rfl<;>rfl
    have hb1:k.length+1<=maxLen:=by unfold maxLen;omega
    have hb2:(k.length+1)*24<=140737488355328:=by omega
    have hbs: ∀ob nq,base<=((wr.drewN nq).alloc ob).heap.size:=by intro ob nq;simp;omega
    have hkl':Hid (k.length+(x)+(y'+1)<=o.length+f.length):=hkl
    clear hkl
    go_wp2_with fail
    go_quiet ((go_at_call 50;exact hq.out _))
    go_wp2_with (first | (go_at_call 99;refine (hth _).mono ?_;rintro e w' ⟨rfl,rfl⟩) | (at_builtin;refine wpList_append_own _ rfl (.tmp 29) (.tmp 36) 66 rfl base 120 i0 _ 2 24 underlying66 hi hz0 hz1 hz2 rfl (by decide) u5 k.length (zg k) rfl ((qJ hrow).alloc _) ⟨wr.heap.size,0,none⟩ 1 1 [.int .u8 43,.string t] rfl rfl (zt (wr.drewN nq) _ _) hone hb1 hb2 (hbs _ _) ?_;intro v' w1 hown' hgrow _;obtain ⟨g',cap',rfl,_,_⟩:=zv hown' (Nat.succ_pos _)))
    have hr:=hrk w1 _ _ ⟨43,t⟩ nq hown' hgrow
    go_roundw
    case rel=>exact ⟨x,y',k++ [⟨43,t⟩],rfl,by omega,by omega,hat',hback',hr.1,hr.2.1,hr.2.2,by have:=hkl'.out;simp;omega⟩
    case measure=>
     have:=hkl'.out
     rcases hrow.2 with ⟨e,h⟩ | ⟨g2,cap2,cur2,e,_⟩
     ·subst e;simp [Uy];omega
     ·subst e;simp [Uy];omega
theorem PY:(prog.info? 5).map (fun i=>(i.zero,i.size,i.bytes))=some (some (.int .u8 0),1,1):=by kernel_rfl
theorem Yb (N:Nat):yF (List.replicate N 0)=List.replicate N (.int .u8 0):=by simp [yF]
theorem yD (z:Value) (N:Nat):madeCells #[z] N=Array.replicate N z:=by
 apply Array.ext
 ·simp [madeCells]
 ·intro i h1 h2;simp [madeCells,Nat.mod_one]
theorem SM.start {base S g N:Nat} {vo vf:Value} {w:World} (h1:base<=S) (h2:base<=g) (hN:N<=maxLen)
 (hS:w.heap[S]? =some (.cells #[vo,vf,.slice none 0 0,.int .i64 0,.slice (some ⟨g,0,none⟩) N N] 106 (0,0)))
 (hg:w.heap[g]? =some (.cells (madeCells #[.int .u8 0] N) 5 (0,0))):
 SM [] base S vo vf { op:= [],turns:=0,led:=List.replicate N 0 } w:=
 ⟨.slice none 0 0,.slice (some ⟨g,0,none⟩) N N,SMv.mk' h1 hS (World.ownsRow_nil _ _ _ _)
  (by
   show w.ownsRow base 5 1 (.slice (some ⟨g,0,none⟩) N N) (List.replicate N 0).length (yF (List.replicate N 0))
   rw [List.length_replicate,Yb]
   refine ⟨by simp,.inr ⟨g,N,_,rfl,h2,hg,Nat.le_refl _,hN,by rw [yD];simp,by rw [yD];simp⟩⟩) (fun x hx=>by simp at hx)⟩
theorem EW (o f:List ByteArray):Dn.mu (Dn.xd o f)=3*((o.length+1)*(f.length+1))+1:=by simp [Dn.mu,Dn.xd,Dn.ZF]
theorem PJ {l:List Dn.Spot} (h:l≠ []):Dn.xV l∈l:=(Dn.WJ l h).mem_iff.1 (by simp)
theorem Wz {capo capf:Nat} {ao af:Option Addr} {o f:List ByteArray} {w:World}
 (ho:qa w.heap.size w (.slice ao o.length capo) o) (hf:qa w.heap.size w (.slice af f.length capf) f) (hn:o.length<209) (hm:f.length<209):
 Calls prog 25 #[.slice ao o.length capo,.slice af f.length capf] w fun e w'=>
  ∃v,e= .returned v/\w'.ownsRow w.heap.size 120 2 v (Dn.WT o f).length (zg (Dn.WT o f))/\Below w.heap.size w w':=by
 obtain ⟨N,hN⟩: ∃N,(o.length+1)*(f.length+1)=N:=⟨_,rfl⟩
 have hNb:N<=100000:=by rw [<-hN];have:(o.length+1)*(f.length+1)<=209*209:=Nat.mul_le_mul (by omega) (by omega);omega
 have hNI:((o.length:Int)+1)*((f.length:Int)+1)=N:=by rw [<-hN];push_cast;rfl
 have hmk:=fun w=>run_make_row' (P:=prog) 72 5 (.int .u8 0) 1 underlying72 PY rfl .i64 .i64 N (by omega) (by omega) w
 have f1:floatOfInt .f64 (o.length:Int)=fl o.length:=rfl
 have f2:floatOfInt .f64 (f.length:Int)=fl f.length:=rfl
 have hN':Hid ((o.length+1)*(f.length+1)=N):=hN
 clear hN
 go_enter func25,ntmps25
 obtain ⟨w0,hw0⟩: ∃w0,(w.alloc (.cells #[.slice ao o.length capo,.slice af f.length capf,.slice none 0 0,.int .i64 0,.slice (some ⟨w.heap.size+1,0,none⟩) N N] 106)).alloc (.cells (madeCells #[.int .u8 0] N) 5)=w0:=⟨_,rfl⟩
 have hz0:w0.heap.size=w.heap.size+2:=by rw [<-hw0];simp
 have h0:SM [] w.heap.size w.heap.size (.slice ao o.length capo) (.slice af f.length capf) { op:= [],turns:=0,led:=List.replicate N 0 } w0:=by
  refine SM.start (g:=w.heap.size+1) (Nat.le_refl _) (by omega) (by unfold maxLen;omega) ?_ ?_
  ·rw [<-hw0,Below.heap_alloc _ _ _ (by simp)];exact heap_alloc_new w _
  ·rw [<-hw0]
   have:=heap_alloc_new (w.alloc (.cells #[.slice ao o.length capo,.slice af f.length capf,.slice none 0 0,.int .i64 0,.slice (some ⟨w.heap.size+1,0,none⟩) N N] 106)) (.cells (madeCells #[.int .u8 0] N) 5)
   rwa [World.size_alloc] at this
 have hb0:Below w.heap.size w w0:=by rw [<-hw0];exact ((Below.refl _ _).alloc (Nat.le_refl _) _).alloc (by simp) _
 have hP:=Jk ⟨0,0,0,0,46⟩ h0 (by simp)
 have e46:((46:Nat):Int)=46:=rfl
 have e00:((0:Nat):Int)=0:=rfl
 simp only [Tj,e46,e00] at hP
 clear e46 e00
 go_wp2_with (go_at_call 49;refine hP.mono ?_;rintro e w1 ⟨rfl,hs1,hb1⟩)
 have hbel:=hb0.trans hb1
 clear hP hw0 h0 hb0 hb1 hmk f1 f2
 have hstart:SM [] w.heap.size w.heap.size (.slice ao o.length capo) (.slice af f.length capf) (Dn.xd o f) w1:=by
  have e:Dn.xd o f= { op:=Dn.jN [] ⟨0,0,0,0,46⟩,turns:=0,led:=List.replicate N 0 } :=by rw [<-hN'.out];rfl
  rw [e];exact hs1
 go_loopg [] (Dn.mu (Dn.xd o f)) (fun k wr=> ∃st,Dn.Inv o f st/\k=Dn.mu st/\k<=300001/\Dn.xn o f (Dn.mu st) st=Dn.KF o f/\SM [] w.heap.size w.heap.size (.slice ao o.length capo) (.slice af f.length capf) st wr/\Below w.heap.size w wr)
 case atStart=>exact ⟨_,Dn.Jm o f,rfl,by rw [EW,hN'.out];omega,rfl,hstart,hbel⟩
 case round=>
  obtain ⟨st,hinv,hgk,hgb,hfound,hsm,hbw⟩:=hrel
  have hz1:=hbw.size
  obtain ⟨vop,vled,hsv⟩:=id hsm
  have hll:st.led.length<=100000:=by rw [hinv.len,hN'.out];exact hNb
  have hlI:=Dn.EZ (n:=o.length) (m:=f.length) (Nat.le_refl _) (Nat.le_refl _)
  rw [<-hinv.len] at hlI
  obtain ⟨g,cap,rfl,hbg,hgw,_⟩:=zv hsv.led (show 0<st.led.length by omega)
  have c1:=za (k:=1) (v:= .slice af f.length capf) hsv.blk rfl
  have c4:=za (k:=4) (v:= .slice (some ⟨g,0,none⟩) st.led.length cap) hsv.blk rfl
  have cl:=YU hsv.led hlI
  have hq:Hid (∀n,Calls prog 50 #[.pointer (some ⟨w.heap.size,0,none⟩),.complex .f64 (fl o.length) (fl f.length)] (wr.drewN n) fun e w''=>e= .returned (.int .i64 (Dn.idx f.length o.length f.length:Nat))/\ ∃k,w''=wr.drewN k):=fun n=>Zs c1 (by omega) (by omega) (by omega)
  have hatI:st.led.getD (Dn.idx f.length o.length f.length) 0=st.at f.length o.length f.length:=rfl
  rw [hatI] at cl
  have hlII:((Dn.idx f.length o.length f.length:Nat):Int)<st.led.length:=by omega
  generalize Dn.idx f.length o.length f.length=I at *
  clear hatI hsv
  have hoW:=ho.below hbw
  have hfW:=hf.below hbw
  by_cases he:st.at f.length o.length f.length=0
  ·rw [he] at cl
   have cl':wr.cell? ⟨g,I,none⟩=some (.int .u8 0):=cl
   have hne:=hinv.open_ne he
   have hround:=hinv.round hne
   have htn:=hinv.turns
   have hmu:Dn.mu st=3*Dn.ZF st.led+st.op.length:=rfl
   have hopb:st.op.length<=300001:=by omega
   have htb:st.turns<=200000:=by omega
   have hrl:(Dn.xz st.op).length<=300001:=by
    rcases Dn.popR_length st.op with h | h
    ·omega
    ·exact absurd h hne
   obtain ⟨s1,s2,s3,s4,s5⟩:=hinv.spots _ (PJ hne)
   have hpop:=fun nq=>Te (hsm.drewN (k:=nq)) hne (by omega)
   have hset:Hid (∀w2,SM [] w.heap.size w.heap.size (.slice ao o.length capo) (.slice af f.length capf) { st with op:=Dn.xz st.op } w2->Below w.heap.size w w2->
     Calls prog 51 #[.pointer (some ⟨w.heap.size,0,none⟩),.agg #[.complex .f64 (fl (Dn.xV st.op).x) (fl (Dn.xV st.op).y),.int .i64 (Dn.xV st.op).far,.int .i64 (Dn.xV st.op).turn,.int .u8 (Dn.xV st.op).kind]] w2 fun e w'=>
      e= .returned (.tuple #[])/\SM [] w.heap.size w.heap.size (.slice ao o.length capo) (.slice af f.length capf) (Dn.kt o f st) w'/\Below w.heap.size w2 w'):=
    fun w2 h1 h2=>Ep (Dn.xV st.op) h1 (ho.below h2) (hf.below h2) hn hm s1 s2 hinv.len (by omega) (by show st.turns<_;omega) (by show (Dn.xz st.op).length<_;omega)
   have hta: ∀(v:Value) (w:World),(Instr.typeAssert (.iface 112 v) 20 112 false).run prog w= .ok v w:=fun _ _=>by kernel_rfl
   have hstep:=Dn.Tb hinv he
   have hA:Hid (Dn.Inv o f (Dn.kt o f st)/\Dn.mu (Dn.kt o f st)<gk/\Dn.mu (Dn.kt o f st)<=300001/\Dn.xn o f (Dn.mu (Dn.kt o f st)) (Dn.kt o f st)=Dn.KF o f):=by
    have hlt:Dn.mu (Dn.kt o f st)<Dn.mu st:=hround.2
    exact ⟨hround.1,by omega,by omega,hstep.trans hfound⟩
   generalize Dn.kt o f st=st2 at hset hA
   clear hround htn hmu hopb htb hrl s1 s2 s3 s4 s5 hstep cl hoW hfW hgk hfound hinv he hz0 hz1
   unfold GG at hpop
   go_wp2_with fail
   go_quiet ((go_at_call 50;exact hq.out _))
   go_wp2_with (first | (go_at_call 52;refine (hpop _).mono ?_;rintro e w2 ⟨rfl,hs2,hb2⟩;have hset2:=hset.out w2 hs2 (hbw.trans (Below.of_drewN hb2));clear hset) | (go_at_call 51;refine hset2.mono ?_;rintro e w3 ⟨rfl,hs3,hb3⟩))
   go_roundg (Dn.mu st2)
   case measure=>exact hA.out.2.1
   case rel=>exact ⟨st2,hA.out.1,rfl,hA.out.2.2.1,hA.out.2.2.2,hs3,(hbw.trans (Below.of_drewN hb2)).trans hb3⟩
  ·have hfd:st=Dn.KF o f:=by rw [<-hfound,Dn.xk he]
   have hb1:(((st.at f.length o.length f.length:Nat):Int)==0)=false:=by simpa using he
   have hS:=fun nq=>Uk (hsm.drewN (k:=nq)) (hoW.below (Below.drewN' (Below.refl _ _))) (hfW.below (Below.drewN' (Below.refl _ _))) hn hm hinv he (by show w.heap.size<=wr.heap.size;exact hz1)
   have hway:Hid (Dn.WT o f=(Dn.ky o f st (o.length+f.length) o.length f.length).reverse):=by unfold Hid Dn.WT;rw [hfd]
   generalize hL:Dn.ky o f st (o.length+f.length) o.length f.length=L at hS hway
   clear hL hfd hfound hinv hoW hfW hgk hz0 hz1
   generalize st.at f.length o.length f.length=K at *
   go_wp2_with fail
   go_quiet ((go_at_call 50;exact hq.out _))
   go_wp2_with (go_at_call 53;refine (hS _).mono ?_;rintro e w2 ⟨v,rfl,hr2,hb2⟩)
   go_ret
   refine ⟨v,rfl,?_,hbw.trans (Below.of_drewN hb2)⟩
   rw [hway.out,List.length_reverse]
   exact hr2
end Go.Proofs.YtcclgodahlinbaaGreatDoor
namespace Go.Proofs
open Tryz Go.Shelf
def Tryz.laysM316_ren:Go.Shelf.Ren:=⟨fun | 316=>112 | n=>n,fun | 9=>9 | 3=>3 | 4=>4 | 37=>72 | 0=>0 | 127=>172 | 5=>5 | n=>n,fun | n=>n⟩
theorem Tryz.laysM316:Go.Proofs.LaysM.n316 prog Tryz.laysM316_ren:= {
 mixed:=by kernel_rfl
 f316:=func112.trans (congrArg some (by kernel_rfl))
 t0:=underlying0
 a0:=Tryz.isAgg0
 z0:=Tryz.sizeOf0
 v0:=Tryz.zeroValue0
 t3:=underlying3
 a3:=Tryz.isAgg3
 z3:=Tryz.sizeOf3
 v3:=Tryz.zeroValue3
 t4:=underlying4
 a4:=Tryz.isAgg4
 z4:=Tryz.sizeOf4
 v4:=Tryz.zeroValue4
 t9:=underlying9
 a9:=Tryz.isAgg9
 z9:=Tryz.sizeOf9
 v9:=Tryz.zeroValue9
 t37:=underlying72
 a37:=Tryz.isAgg72
 z37:=Tryz.sizeOf72
 v37:=Tryz.zeroValue72
 t127:=underlying172
 a127:=Tryz.isAgg172
 z127:=Tryz.sizeOf172
 v127:=Tryz.zeroValue172
 t5:=underlying5
 a5:=Tryz.isAgg5
 z5:=Tryz.sizeOf5
 v5:=Tryz.zeroValue5
 i0:=by kernel_rfl
 i3:=by kernel_rfl
 i4:=by kernel_rfl
 i5:=by kernel_rfl
 i9:=by kernel_rfl
 i37:=by kernel_rfl
 i127:=by kernel_rfl }
open Go.RowKit in
theorem Tryz.stringslite_Clone (s:ByteArray) (w:World) (hlim:s.size<=281474976710656):
 Calls prog 112 #[.string s] w fun e w'=>e= .returned (.string s)/\Below w.heap.size w w':=Any.stringslite_Clone Tryz.laysM316 s w hlim
def Tryz.lays144_ren:Go.Shelf.Ren:=⟨fun | 144=>107 | 143=>130 | 219=>110 | 217=>134 | 225=>135 | 224=>136 | 267=>137 | 266=>146 | 314=>147 | n=>n,fun | 9=>9 | 4=>4 | 3=>3 | 5=>5 | 46=>193 | 146=>203 | 51=>202 | n=>n,fun | 1=>0 | n=>n⟩
theorem Tryz.lays144:Go.Proofs.Lays.n144 prog Tryz.lays144_ren:= {
 mixed:=by kernel_rfl
 f143:=func130.trans (congrArg some (by kernel_rfl))
 f144:=func107.trans (congrArg some (by kernel_rfl))
 f217:=func134.trans (congrArg some (by kernel_rfl))
 f219:=func110.trans (congrArg some (by kernel_rfl))
 f224:=func136.trans (congrArg some (by kernel_rfl))
 f225:=func135.trans (congrArg some (by kernel_rfl))
 f266:=func146.trans (congrArg some (by kernel_rfl))
 f267:=func137.trans (congrArg some (by kernel_rfl))
 f314:=func147.trans (congrArg some (by kernel_rfl))
 t3:=underlying3
 a3:=Tryz.isAgg3
 z3:=Tryz.sizeOf3
 v3:=Tryz.zeroValue3
 t4:=underlying4
 a4:=Tryz.isAgg4
 z4:=Tryz.sizeOf4
 v4:=Tryz.zeroValue4
 t5:=underlying5
 a5:=Tryz.isAgg5
 z5:=Tryz.sizeOf5
 v5:=Tryz.zeroValue5
 t9:=underlying9
 a9:=Tryz.isAgg9
 z9:=Tryz.sizeOf9
 v9:=Tryz.zeroValue9
 t46:=underlying193
 a46:=Tryz.isAgg193
 z46:=Tryz.sizeOf193
 v46:=Tryz.zeroValue193
 t51:=underlying202
 a51:=Tryz.isAgg202
 z51:=Tryz.sizeOf202
 v51:=Tryz.zeroValue202
 t146:=underlying203
 a146:=Tryz.isAgg203
 z146:=Tryz.sizeOf203
 v146:=Tryz.zeroValue203
 g1:=by kernel_rfl }
open Go.RowKit Go.Lib in
theorem Tryz.strings_Contains_one (s:ByteArray) (c:UInt8) (w:World):
 Calls prog 107 #[.string s,.string ⟨#[c]⟩] w fun e w'=>e= .returned (.bool (decide (0<=Lib.indexByte s.data.toList c)))/\w'=w:=Any.strings_Contains_one Tryz.lays144 s c w
def Tryz.lays138_ren:Go.Shelf.Ren:=⟨fun | 138=>95 | 195=>128 | 218=>129 | 143=>130 | 219=>110 | 217=>134 | 225=>135 | 224=>136 | 267=>137 | 266=>146 | 314=>147 | n=>n,fun | 9=>9 | 3=>3 | 4=>4 | 5=>5 | 0=>0 | 46=>193 | 146=>203 | 51=>202 | n=>n,fun | 1=>0 | n=>n⟩
theorem Tryz.lays138:Go.Proofs.Lays.n138 prog Tryz.lays138_ren:= {
 mixed:=by kernel_rfl
 f138:=func95.trans (congrArg some (by kernel_rfl))
 f143:=func130.trans (congrArg some (by kernel_rfl))
 f195:=func128.trans (congrArg some (by kernel_rfl))
 f217:=func134.trans (congrArg some (by kernel_rfl))
 f218:=func129.trans (congrArg some (by kernel_rfl))
 f219:=func110.trans (congrArg some (by kernel_rfl))
 f224:=func136.trans (congrArg some (by kernel_rfl))
 f225:=func135.trans (congrArg some (by kernel_rfl))
 f266:=func146.trans (congrArg some (by kernel_rfl))
 f267:=func137.trans (congrArg some (by kernel_rfl))
 f314:=func147.trans (congrArg some (by kernel_rfl))
 t0:=underlying0
 a0:=Tryz.isAgg0
 z0:=Tryz.sizeOf0
 v0:=Tryz.zeroValue0
 t3:=underlying3
 a3:=Tryz.isAgg3
 z3:=Tryz.sizeOf3
 v3:=Tryz.zeroValue3
 t4:=underlying4
 a4:=Tryz.isAgg4
 z4:=Tryz.sizeOf4
 v4:=Tryz.zeroValue4
 t5:=underlying5
 a5:=Tryz.isAgg5
 z5:=Tryz.sizeOf5
 v5:=Tryz.zeroValue5
 t9:=underlying9
 a9:=Tryz.isAgg9
 z9:=Tryz.sizeOf9
 v9:=Tryz.zeroValue9
 t46:=underlying193
 a46:=Tryz.isAgg193
 z46:=Tryz.sizeOf193
 v46:=Tryz.zeroValue193
 t51:=underlying202
 a51:=Tryz.isAgg202
 z51:=Tryz.sizeOf202
 v51:=Tryz.zeroValue202
 t146:=underlying203
 a146:=Tryz.isAgg203
 z146:=Tryz.sizeOf203
 v146:=Tryz.zeroValue203
 g1:=by kernel_rfl }
open Go.RowKit Go.Lib in
theorem Tryz.strings_Count_one (s:ByteArray) (c:UInt8) (w:World):
 Calls prog 95 #[.string s,.string ⟨#[c]⟩] w fun e w'=>e= .returned (.int .i64 (Lib.countByte s.data.toList c))/\w'=w:=Any.strings_Count_one Tryz.lays138 s c w
def Tryz.lays100_ren:Go.Shelf.Ren:=⟨fun | 100=>94 | 207=>127 | n=>n,fun | 9=>9 | 4=>4 | 3=>3 | n=>n,fun | n=>n⟩
theorem Tryz.lays100:Go.Proofs.Lays.n100 prog Tryz.lays100_ren:= {
 mixed:=by kernel_rfl
 f100:=func94.trans (congrArg some (by kernel_rfl))
 f207:=func127.trans (congrArg some (by kernel_rfl))
 t3:=underlying3
 a3:=Tryz.isAgg3
 z3:=Tryz.sizeOf3
 v3:=Tryz.zeroValue3
 t4:=underlying4
 a4:=Tryz.isAgg4
 z4:=Tryz.sizeOf4
 v4:=Tryz.zeroValue4
 t9:=underlying9
 a9:=Tryz.isAgg9
 z9:=Tryz.sizeOf9
 v9:=Tryz.zeroValue9 }
open Go.RowKit Go.Lib in
theorem Tryz.strings_HasSuffix (s p:ByteArray) (w:World) (hs:s.size<=9223372036854775807):
 Calls prog 94 #[.string s,.string p] w fun e w'=>e= .returned (.bool (Lib.hasSuffix s.data.toList p.data.toList))/\w'=w:=Any.strings_HasSuffix Tryz.lays100 s p w hs
def Tryz.lays102_ren:Go.Shelf.Ren:=⟨fun | 102=>55 | 209=>102 | 207=>127 | n=>n,fun | 9=>9 | 4=>4 | 3=>3 | n=>n,fun | n=>n⟩
theorem Tryz.lays102:Go.Proofs.Lays.n102 prog Tryz.lays102_ren:= {
 mixed:=by kernel_rfl
 f102:=func55.trans (congrArg some (by kernel_rfl))
 f207:=func127.trans (congrArg some (by kernel_rfl))
 f209:=func102.trans (congrArg some (by kernel_rfl))
 t3:=underlying3
 a3:=Tryz.isAgg3
 z3:=Tryz.sizeOf3
 v3:=Tryz.zeroValue3
 t4:=underlying4
 a4:=Tryz.isAgg4
 z4:=Tryz.sizeOf4
 v4:=Tryz.zeroValue4
 t9:=underlying9
 a9:=Tryz.isAgg9
 z9:=Tryz.sizeOf9
 v9:=Tryz.zeroValue9 }
open Go.RowKit Go.Lib in
theorem Tryz.strings_TrimSuffix (s p:ByteArray) (w:World) (hs:s.size<=9223372036854775807):
 Calls prog 55 #[.string s,.string p] w fun e w'=>e= .returned (.string ⟨(Lib.trimSuffix s.data.toList p.data.toList).toArray⟩)/\w'=w:=Any.strings_TrimSuffix Tryz.lays102 s p w hs
def Tryz.lays146_ren:Go.Shelf.Ren:=⟨fun | 146=>54 | 221=>101 | 268=>131 | 138=>95 | 143=>130 | 195=>128 | 197=>144 | 218=>129 | 219=>110 | 260=>151 | 217=>134 | 225=>135 | 224=>136 | 267=>137 | 266=>146 | 314=>147 | n=>n,fun | 9=>9 | 31=>27 | 3=>3 | 4=>4 | 0=>0 | 105=>200 | 21=>21 | 5=>5 | 46=>193 | 119=>208 | 139=>211 | 138=>210 | 146=>203 | 51=>202 | n=>n,fun | 1=>0 | 3=>1 | 4=>2 | n=>n⟩
theorem Tryz.lays146:Go.Proofs.Lays.n146 prog Tryz.lays146_ren:= {
 mixed:=by kernel_rfl
 f138:=func95.trans (congrArg some (by kernel_rfl))
 f143:=func130.trans (congrArg some (by kernel_rfl))
 f146:=func54.trans (congrArg some (by kernel_rfl))
 f195:=func128.trans (congrArg some (by kernel_rfl))
 f197:=func144.trans (congrArg some (by kernel_rfl))
 f217:=func134.trans (congrArg some (by kernel_rfl))
 f218:=func129.trans (congrArg some (by kernel_rfl))
 f219:=func110.trans (congrArg some (by kernel_rfl))
 f221:=func101.trans (congrArg some (by kernel_rfl))
 f224:=func136.trans (congrArg some (by kernel_rfl))
 f225:=func135.trans (congrArg some (by kernel_rfl))
 f260:=func151.trans (congrArg some (by kernel_rfl))
 f266:=func146.trans (congrArg some (by kernel_rfl))
 f267:=func137.trans (congrArg some (by kernel_rfl))
 f268:=func131.trans (congrArg some (by kernel_rfl))
 f314:=func147.trans (congrArg some (by kernel_rfl))
 t0:=underlying0
 a0:=Tryz.isAgg0
 z0:=Tryz.sizeOf0
 v0:=Tryz.zeroValue0
 t3:=underlying3
 a3:=Tryz.isAgg3
 z3:=Tryz.sizeOf3
 v3:=Tryz.zeroValue3
 t4:=underlying4
 a4:=Tryz.isAgg4
 z4:=Tryz.sizeOf4
 v4:=Tryz.zeroValue4
 t5:=underlying5
 a5:=Tryz.isAgg5
 z5:=Tryz.sizeOf5
 v5:=Tryz.zeroValue5
 t9:=underlying9
 a9:=Tryz.isAgg9
 z9:=Tryz.sizeOf9
 v9:=Tryz.zeroValue9
 t21:=underlying21
 a21:=Tryz.isAgg21
 z21:=Tryz.sizeOf21
 v21:=Tryz.zeroValue21
 t31:=underlying27
 a31:=Tryz.isAgg27
 z31:=Tryz.sizeOf27
 v31:=Tryz.zeroValue27
 t46:=underlying193
 a46:=Tryz.isAgg193
 z46:=Tryz.sizeOf193
 v46:=Tryz.zeroValue193
 t51:=underlying202
 a51:=Tryz.isAgg202
 z51:=Tryz.sizeOf202
 v51:=Tryz.zeroValue202
 t105:=underlying200
 a105:=Tryz.isAgg200
 z105:=Tryz.sizeOf200
 v105:=Tryz.zeroValue200
 t119:=underlying208
 a119:=Tryz.isAgg208
 z119:=Tryz.sizeOf208
 t138:=underlying210
 a138:=Tryz.isAgg210
 z138:=Tryz.sizeOf210
 v138:=Tryz.zeroValue210
 t139:=underlying211
 a139:=Tryz.isAgg211
 z139:=Tryz.sizeOf211
 v139:=Tryz.zeroValue211
 t146:=underlying203
 a146:=Tryz.isAgg203
 z146:=Tryz.sizeOf203
 v146:=Tryz.zeroValue203
 g1:=by kernel_rfl
 g3:=by kernel_rfl
 g4:=by kernel_rfl }
open Go.RowKit Go.Lib in
theorem Tryz.strings_Split (s sep:ByteArray) (m:Int) (w:World) (hs:s.size<4294967281) (hm:w.cell? ⟨0,0,none⟩=some (.int .i64 m)) (h1:1<=sep.size):
 Calls prog 54 #[.string s,.string sep] w fun e w'=>
  e= .returned (.slice (some ⟨w.heap.size,0,none⟩) (Lib.countB s sep+1) (Lib.countB s sep+1))/\w'=w.alloc (.cells ((Lib.splitB sep 0 (Lib.countB s sep) s).map Value.string).toArray 9):=Any.strings_Split Tryz.lays146 (by kernel_rfl) s sep m w hs hm h1
def Tryz.lays193_ren:Go.Shelf.Ren:=⟨fun | 193=>104 | n=>n,fun | 31=>27 | 9=>9 | 4=>4 | 3=>3 | 0=>0 | n=>n,fun | n=>n⟩
theorem Tryz.lays193:Go.Proofs.Lays.n193 prog Tryz.lays193_ren:= {
 mixed:=by kernel_rfl
 f193:=func104.trans (congrArg some (by kernel_rfl))
 t0:=underlying0
 a0:=Tryz.isAgg0
 z0:=Tryz.sizeOf0
 v0:=Tryz.zeroValue0
 t3:=underlying3
 a3:=Tryz.isAgg3
 z3:=Tryz.sizeOf3
 v3:=Tryz.zeroValue3
 t4:=underlying4
 a4:=Tryz.isAgg4
 z4:=Tryz.sizeOf4
 v4:=Tryz.zeroValue4
 t9:=underlying9
 a9:=Tryz.isAgg9
 z9:=Tryz.sizeOf9
 v9:=Tryz.zeroValue9
 t31:=underlying27
 a31:=Tryz.isAgg27
 z31:=Tryz.sizeOf27
 v31:=Tryz.zeroValue27 }
open Go.RowKit Go.Lib in
theorem Tryz.slices_Equal_string (b1 o1 n c b2 o2 m d:Nat) (xs ys:List ByteArray) (w:World) (hx:n<=xs.length) (hy:m<=ys.length) (hbig:n<=9223372036854775807) (hbig2:m<=9223372036854775807) (hc1: ∀j,j<xs.length->w.cell? ⟨b1,o1+j,none⟩=some (.string (xs.getD j ByteArray.empty))) (hc2: ∀j,j<ys.length->w.cell? ⟨b2,o2+j,none⟩=some (.string (ys.getD j ByteArray.empty))):
 Calls prog 104 #[.slice (some ⟨b1,o1,none⟩) n c,.slice (some ⟨b2,o2,none⟩) m d] w fun e w'=>e= .returned (.bool (decide (xs.take n=ys.take m)))/\ ∃q,w'=w.drewN q:=Any.slices_Equal_string Tryz.lays193 b1 o1 n c b2 o2 m d xs ys w hx hy hbig hbig2 hc1 hc2
open Go.RowKit Go.Lib in
theorem Tryz.slices_Equal_string_empty (a1 a2:Option Addr) (c m d:Nat) (w:World) (hbig2:m<=9223372036854775807):
 Calls prog 104 #[.slice a1 0 c,.slice a2 m d] w fun e w'=>e= .returned (.bool (decide (m=0)))/\w'=w:=Any.slices_Equal_string_empty Tryz.lays193 a1 a2 c m d w hbig2
open Go.RowKit Go.Lib in
theorem Tryz.slices_Equal_string_lens (a1 a2:Option Addr) (n c m d:Nat) (w:World) (hnm:n≠m):
 Calls prog 104 #[.slice a1 n c,.slice a2 m d] w fun e w'=>e= .returned (.bool false)/\w'=w:=Any.slices_Equal_string_lens Tryz.lays193 a1 a2 n c m d w hnm
end Go.Proofs
