import Derived.Test.YtcclgodahlinbaaGreatDoorA34
import Derived.Test.YtcclgodahlinbaaGreatDoorA13
import Derived.Deep.DeepCutAuto
import Derived.Deep.CutBlock
namespace Go.Proofs.YtcclgodahlinbaaGreatDoor
set_option maxHeartbeats 16000000
open Tryz Go.RowKit Go
set_option maxRecDepth 100000
theorem YQ (a b:ByteArray) (c:Int):0<=checkB a b c/\checkB a b c<=3:=by
 unfold checkB
 repeat' split
 all_goals omega
theorem Pw {a b:ByteArray} {c:Int} {w:World} (h1:a.size<4294967281) (h2:b.size<4294967281) (hk:checkB a b c≠0):
 Calls prog 12 #[.string a,.string b,.int .i64 c] w fun e w'=>e= .returned (.tuple #[.agg #[.slice none 0 0],.int .i64 (checkB a b c)])/\Below w.heap.size w w':=by
 have hck:=fun W:World=>ZL a b c W h1 h2
 have hr:=YQ a b c
 generalize checkB a b c=k at *
 have hq:((k:Int)==0)=false:=by simp;exact hk
 have hq2:((k:Int) !=0)=true:=by simp;exact hk
 have hb0:Below w.heap.size w (w.alloc (.cells #[.slice none 0 0] 32)):=(Below.refl _ _).alloc (Nat.le_refl _) _
 have hP0:(w.alloc (.cells #[.slice none 0 0] 32)).heap[w.heap.size]? =some (.cells #[.slice none 0 0] 32 (0,0)):=heap_alloc_new w _
 go_enter func12,ntmps12
 go_wp2_with fail
 generalize w.alloc (.cells #[.slice none 0 0] 32)=W0 at *
 refine (hck W0).mono ?_
 rintro e W1 ⟨rfl,rfl⟩
 have q0:W0.cell? ⟨w.heap.size,0,none⟩=some (.slice none 0 0):=za hP0 rfl
 have qf: ∀k,W0.frozen? ⟨w.heap.size,k,none⟩=false:=fun k=>zi hP0
 have qr:(W0.setCell ⟨w.heap.size,0,none⟩ (.slice none 0 0)).cell? ⟨w.heap.size,0,none⟩=some (.slice none 0 0):=za (zb _ _ _ _ _ _ _ hP0) rfl
 go_wp2_with fail
 refine bodyPost_ret (v:= .tuple #[.agg #[.slice none 0 0],.int .i64 k]) ?_ rfl ⟨rfl,hb0.setCell (p:=⟨w.heap.size,0,none⟩) (Nat.le_refl _) _⟩
 simp [results,results12,go_sem,qr]
theorem EX {a b:ByteArray} {c m:Int} {w:World} (h1:a.size<4294967281) (h2:b.size<4294967281) (hm:w.cell? ⟨0,0,none⟩=some (.int .i64 m)):
 Calls prog 12 #[.string a,.string b,.int .i64 c] w fun e w'=> ∃al cl hv,e= .returned (.tuple #[.agg #[.slice al hv.length cl],.int .i64 (checkB a b c)])/\HSo w.heap.size (.slice al hv.length cl) hv w'/\hv.map (·.1)=yu a b c/\Below w.heap.size w w':=by
 by_cases h:checkB a b c=0
 ·have hc:0<=c:=by
   unfold checkB at h
   split at h
   ·simp at h
   ·split at h
    ·simp at h
    ·split at h
     ·simp at h
     ·rename_i d
      simp at d
      omega
  obtain ⟨C,rfl⟩: ∃C:Nat,c=(C:Int):=⟨c.toNat,by omega⟩
  refine (Pt h h1 h2 hm).mono ?_
  rintro e w' ⟨v,rfl,hv,hso,hmap,hb⟩
  have hs: ∃al cl,v= .slice al hv.length cl:=by
   rcases hso with ⟨rfl,rfl⟩ | ⟨g,cap,rfl,_⟩
   ·exact ⟨_,_,rfl⟩
   ·exact ⟨_,_,rfl⟩
  obtain ⟨al,cl,rfl⟩:=hs
  refine ⟨al,cl,hv,by rw [h],hso,?_,hb⟩
  rw [hmap]
  unfold yu
  rw [if_pos h]
  rfl
 ·refine (Pw h1 h2 h).mono ?_
  rintro e w' ⟨rfl,hb⟩
  refine ⟨none,0,[],rfl,.inl ⟨rfl,rfl⟩,?_,hb⟩
  unfold yu
  rw [if_neg h]
  rfl
theorem jw (a b:ByteArray) (c:Int):(yu a b c).length<=402/\ ∀h∈yu a b c,h.lines.length<=402:=by
 unfold yu
 by_cases hk:checkB a b c=0
 ·rw [if_pos hk]
  have hl:yb a=false/\yb b=false:=by
   unfold checkB at hk
   split at hk
   ·simp at hk
   ·split at hk
    ·simp at hk
    ·rename_i _ d
     simp at d
     exact d
  have n1:=yz hl.1
  have n2:=yz hl.2
  have hw:=kq (linesB a) (linesB b)
  unfold diffM
  generalize Dn.WT (linesB a) (linesB b)=L at *
  have hb:=qY L (kU L c.toNat) L.length
  unfold jj
  refine ⟨by rw [List.length_map];have:=hb.2.2.1;omega,?_⟩
  intro x hx
  obtain ⟨y,hy,rfl⟩:=List.mem_map.1 hx
  have e:(zV y).lines=y.lines:=rfl
  rw [e]
  have:=(hb.2.2.2.1 y hy).2.2.1
  omega
 ·rw [if_neg hk]
  exact ⟨by simp,by simp⟩
def byN (s:ByteArray) (i:Nat):Nat:=(s.get! i).toNat
def wd (s:ByteArray) (i:Nat):Nat:=(Utf8.decode s i).2
def xO (s:ByteArray) (i k:Nat):Bool:=decide (128<=byN s (i+k)/\byN s (i+k)<192)
def yN (c:Nat):Int:=if c<128 then 0 else if 194<=c/\c<224 then 1 else if 224<=c/\c<240 then 2 else if 240<=c/\c<245 then 3 else -1
def qh (c:Nat):Int:=if c<128 then 0 else if 194<=c/\c<224 then 128 else if 224<=c/\c<240 then 2048 else if 240<=c/\c<245 then 65536 else 0
def rK (s:ByteArray) (i:Nat):Nat->Nat
 | 0=>0
 | k+1=>64*rK s i k+byN s (i+(k+1)) % 64
theorem QX (s:ByteArray) (i:Nat):byN s i<256:=by unfold byN;exact (s.get! i).toNat_lt
theorem FK (s:ByteArray) (i k:Nat):(byN s (i+k) / 64==2)=xO s i k:=by
 unfold xO
 by_cases h:128<=byN s (i+k)/\byN s (i+k)<192
 ·simp [h];omega
 ·simp [h];omega
def wC (s:ByteArray) (i:Nat):Nat:=
 if byN s i<128 then 1
 else if byN s i / 32=6/\(i+1<s.size/\xO s i 1=true) then (if 128<=(byN s i % 32)*64+byN s (i+1) % 64 then 2 else 1)
 else if byN s i / 16=14/\(i+1<s.size/\xO s i 1=true)/\(i+2<s.size/\xO s i 2=true) then (if 2048<=(byN s i % 16)*4096+(byN s (i+1) % 64)*64+byN s (i+2) % 64/\Utf8.valid (((byN s i % 16)*4096+(byN s (i+1) % 64)*64+byN s (i+2) % 64:Nat):Int)=true then 3 else 1)
 else if byN s i / 8=30/\(i+1<s.size/\xO s i 1=true)/\(i+2<s.size/\xO s i 2=true)/\(i+3<s.size/\xO s i 3=true) then (if 65536<=(byN s i % 8)*262144+(byN s (i+1) % 64)*4096+(byN s (i+2) % 64)*64+byN s (i+3) % 64/\Utf8.valid (((byN s i % 8)*262144+(byN s (i+1) % 64)*4096+(byN s (i+2) % 64)*64+byN s (i+3) % 64:Nat):Int)=true then 4 else 1)
 else 1
theorem Ku (s:ByteArray) (i:Nat):wd s i=wC s i:=by
 have e: ∀k,(s.get! k).toNat=byN s k:=fun _=>rfl
 unfold wd Utf8.decode wC
 simp only [e,Nat.add_zero,FK]
 by_cases h0:byN s i<128
 ·rw [if_pos h0,if_pos h0]
 rw [if_neg h0,if_neg h0]
 by_cases h1:byN s i / 32=6/\(i+1<s.size/\xO s i 1=true)
 ·rw [if_pos h1,if_pos (by simp [h1])]
  split<;>simp_all
 rw [if_neg h1,if_neg (by simpa using h1)]
 by_cases h2:byN s i / 16=14/\(i+1<s.size/\xO s i 1=true)/\(i+2<s.size/\xO s i 2=true)
 ·rw [if_pos h2,if_pos (by simp [h2])]
  split<;>simp_all
 rw [if_neg h2,if_neg (by intro h;apply h2;simp at h;simp [h])]
 by_cases h3:byN s i / 8=30/\(i+1<s.size/\xO s i 1=true)/\(i+2<s.size/\xO s i 2=true)/\(i+3<s.size/\xO s i 3=true)
 ·rw [if_pos h3,if_pos (by simp [h3])]
  split<;>simp_all
 rw [if_neg h3,if_neg (by intro h;apply h3;simp at h;simp [h])]
theorem Xq (s:ByteArray) (i:Nat):1<=wd s i:=by
 rw [Ku];unfold wC;repeat' split
 all_goals omega
theorem Wm (s:ByteArray) (i:Nat) (h:i<s.size):i+wd s i<=s.size:=by
 rw [Ku];unfold wC;repeat' split
 all_goals omega
theorem TW (s:ByteArray) (i:Nat) (h:yN (byN s i)<0\/(s.size:Int)<=i+yN (byN s i)):wd s i=1:=by
 have hb:=QX s i
 have v: ∀n:Nat,Utf8.valid (n:Int)=true->n<1114112:=by intro n;simp [Utf8.valid];omega
 rw [Ku];unfold wC;unfold yN at h;repeat' split
 all_goals try rfl
 all_goals exfalso
 all_goals (repeat' split at h)
 all_goals try omega
 all_goals (obtain ⟨_,hv⟩:= ‹_<=_/\Utf8.valid _=true›;have:=v _ hv;omega)
theorem Px (s:ByteArray) (i:Nat) {m:Nat} (h1:1<=m) (h2:(m:Int)<=yN (byN s i)) (hc:xO s i m=false):wd s i=1:=by
 have hb:=QX s i
 have hm:m=1\/m=2\/m=3:=by (unfold yN at h2;(repeat' split at h2);all_goals omega)
 rw [Ku];unfold wC
 repeat' split
 all_goals try rfl
 all_goals exfalso
 all_goals rcases hm with rfl | rfl | rfl
 all_goals simp_all
 all_goals (unfold yN at h2;repeat' split at h2)
 all_goals omega
def leadN (c:Nat) (n:Nat):Nat:=if n=3 then c % 8 else if n=2 then c % 16 else c % 32
def runeN (s:ByteArray) (i n:Nat):Nat:=rK s i n+leadN (byN s i) n*64 ^ n
theorem TO (s:ByteArray) (i:Nat) {n:Nat} (h0:0<n) (hn:yN (byN s i)=n) (hs:i+n<s.size) (hc: ∀m,1<=m->m<=n->xO s i m=true):
 wd s i=if qh (byN s i)<=runeN s i n/\runeN s i n<1114112/\(runeN s i n<55296\/57344<=runeN s i n) then n+1 else 1:=by
 have hb:=QX s i
 have v: ∀n:Nat,Utf8.valid (n:Int)=true ↔ (n<55296\/57344<=n)/\n<1114112:=by intro n;simp [Utf8.valid];omega
 have hm:n=1\/n=2\/n=3:=by (unfold yN at hn;(repeat' split at hn);all_goals omega)
 rw [Ku];unfold wC
 simp only [v]
 have c1:=hc 1 (by omega) (by omega)
 rcases hm with rfl | rfl | rfl
 ·have hr:194<=byN s i/\byN s i<224:=by (unfold yN at hn;(repeat' split at hn);all_goals first | omega | assumption)
  have hl:qh (byN s i)=128:=by unfold qh;rw [if_neg (by omega),if_pos hr]
  have hru:runeN s i 1=(byN s i % 32)*64+byN s (i+1) % 64:=by simp [runeN,rK,leadN];omega
  rw [hl,hru,if_neg (by omega),if_pos ⟨by omega,by omega,c1⟩]
  by_cases hq:128<=(byN s i % 32)*64+byN s (i+1) % 64
  ·rw [if_pos hq,if_pos (by omega)]
  ·rw [if_neg hq,if_neg (by omega)]
 ·have c2:=hc 2 (by omega) (by omega)
  have hr:224<=byN s i/\byN s i<240:=by (unfold yN at hn;(repeat' split at hn);all_goals first | omega | assumption)
  have hl:qh (byN s i)=2048:=by unfold qh;rw [if_neg (by omega),if_neg (by omega),if_pos hr]
  have hru:runeN s i 2=(byN s i % 16)*4096+(byN s (i+1) % 64)*64+byN s (i+2) % 64:=by simp [runeN,rK,leadN];omega
  rw [hl,hru,if_neg (by omega),if_neg (by omega),if_pos ⟨by omega,⟨by omega,c1⟩,by omega,c2⟩]
  congr 1
  exact propext (by omega)
 ·have c2:=hc 2 (by omega) (by omega)
  have c3:=hc 3 (by omega) (by omega)
  have hr:240<=byN s i/\byN s i<245:=by (unfold yN at hn;(repeat' split at hn);all_goals first | omega | assumption)
  have hl:qh (byN s i)=65536:=by unfold qh;rw [if_neg (by omega),if_neg (by omega),if_neg (by omega),if_pos hr]
  have hru:runeN s i 3=(byN s i % 8)*262144+(byN s (i+1) % 64)*4096+(byN s (i+2) % 64)*64+byN s (i+3) % 64:=by simp [runeN,rK,leadN];omega
  rw [hl,hru,if_neg (by omega),if_neg (by omega),if_neg (by omega),if_pos ⟨by omega,⟨by omega,c1⟩,⟨by omega,c2⟩,by omega,c3⟩]
  congr 1
  exact propext (by omega)
theorem PU (s:ByteArray) (i:Nat) (h:yN (byN s i)=0):wd s i=1:=by
 rw [Ku];unfold wC
 rw [if_pos]
 unfold yN at h
 repeat' split at h
 all_goals omega
theorem Do (c:Nat): -1<=yN c/\yN c<=3:=by
 unfold yN
 repeat' split
 all_goals omega
theorem TD (s:ByteArray) (i:Nat): ∀k,rK s i k<64 ^ k
 | 0=>by simp [rK]
 | k+1=>by
   have:=TD s i k
   have h2:64 ^ (k+1)=64*64 ^ k:=by rw [Nat.pow_succ,Nat.mul_comm]
   unfold rK
   rw [h2]
   omega
def qT (s:ByteArray):Nat->Nat->List ByteArray
 | 0,_=> []
 | k+1,i=>if i<s.size then s.extract i (i+wd s i)::qT s k (i+wd s i) else []
theorem XU (s:ByteArray): ∀(k l i:Nat),s.size<=i+k->s.size<=i+l->qT s k i=qT s l i
 | 0,0,i,_,_=>rfl
 | 0,l+1,i,h,_=>by rw [qT,qT,if_neg (by omega)]
 | k+1,0,i,_,h=>by rw [qT,qT,if_neg (by omega)]
 | k+1,l+1,i,h1,h2=>by
   have:=Xq s i
   rw [qT,qT,XU s k l (i+wd s i) (by omega) (by omega)]
def qS (s:ByteArray) (i:Nat):List ByteArray:=qT s s.size i
theorem kS (s:ByteArray) (i:Nat) (h:i<s.size):qS s i=s.extract i (i+wd s i)::qS s (i+wd s i):=by
 have:=Xq s i
 unfold qS
 obtain ⟨k,hk⟩: ∃k,s.size=k+1:=⟨s.size-1,by omega⟩
 conv=>lhs;rw [hk,qT,if_pos h,XU s k s.size _ (by omega) (by omega)]
theorem Ym (s:ByteArray) (i:Nat) (h:s.size<=i):qS s i= []:=by
 unfold qS
 cases hk:s.size with
 | zero=>rfl
 | succ k=>rw [qT,if_neg (by omega)]
theorem Qz (s:ByteArray): ∀(k pos b:Nat) (acc:List ByteArray),b<s.size->pos=b+wd s b->s.size<pos+k->
 (if (zN s k pos b acc).1<s.size then (zN s k pos b acc).2++ [s.extract (zN s k pos b acc).1 s.size] else (zN s k pos b acc).2)=acc++qS s b:=by
 intro k
 induction k with
 | zero=>
   intro pos b acc h1 h2 h3
   have:=Wm s b h1
   omega
 | succ k ih=>
   intro pos b acc h1 h2 h3
   have hw:=Xq s b
   have hf:=Wm s b h1
   unfold zN
   by_cases hp:pos<s.size
   ·have hb:b<pos:=by omega
    have hw2:=Xq s pos
    simp only [if_pos hp,if_pos hb]
    rw [ih (pos+(Utf8.decode s pos).2) pos _ hp rfl (by show _<pos+wd s pos+k;omega),kS s b h1,<-h2]
    simp
   ·have he:pos=s.size:=by omega
    simp only [if_neg hp,if_pos h1]
    rw [kS s b h1,<-h2,he,Ym s s.size (Nat.le_refl _)]
theorem Jw (s:ByteArray):lettersB s=qS s 0:=by
 unfold lettersB
 by_cases h:0<s.size
 ·have hw:=Xq s 0
  have e:zN s (s.size+1) 0 0 []=zN s s.size (0+wd s 0) 0 []:=by
   conv=>lhs;unfold zN
   rw [if_pos h]
   rfl
  rw [e,Qz s s.size (0+wd s 0) 0 [] h rfl (by omega)]
  rfl
 ·have e:zN s (s.size+1) 0 0 []=(0,[]):=by unfold zN;rw [if_neg h]
  rw [e,Ym s 0 (by omega)]
  simp only [if_neg h]
theorem DY (s:ByteArray) (i:Nat) (h:i<s.size):(s[i]'h).toNat=byN s i:=by
 unfold byN
 congr 1
 obtain ⟨d⟩:=s
 show d[i]'h=d[i]!
 rw [getElem!_pos d i h]
theorem DZ (c:Nat) (w:World):
 Calls prog 141 #[.int .u8 (c:Nat)] w fun e w'=>e= .returned (.tuple #[.int .i64 (yN c),.int .i64 (qh c)])/\w=w':=by
 go_enter func141,ntmps141
 by_cases h1:c<128
 ·have h1I:(c:Int)<128:=by omega
  have e:Hid (yN c=0/\qh c=0):=by unfold yN qh;rw [if_pos h1,if_pos h1];exact ⟨rfl,rfl⟩
  clear h1
  go_wp2_with fail
  go_ret2
  exact ⟨by rw [e.out.1,e.out.2];rfl,rfl⟩
 have h1I: ¬(c:Int)<128:=by omega
 by_cases h2:194<=c/\c<224
 ·have e:Hid (yN c=1/\qh c=128):=by unfold yN qh;rw [if_neg h1,if_neg h1,if_pos h2,if_pos h2];exact ⟨rfl,rfl⟩
  have h2I:194<=(c:Int):=by omega
  have h2J:(c:Int)<224:=by omega
  clear h1 h2
  go_wp2_with fail
  go_ret2
  exact ⟨by rw [e.out.1,e.out.2];rfl,rfl⟩
 by_cases h3:224<=c/\c<240
 ·have e:Hid (yN c=2/\qh c=2048):=by unfold yN qh;rw [if_neg h1,if_neg h1,if_neg h2,if_neg h2,if_pos h3,if_pos h3];exact ⟨rfl,rfl⟩
  have h2I:194<=(c:Int):=by omega
  have h2J: ¬(c:Int)<224:=by omega
  have h3I:224<=(c:Int):=by omega
  have h3J:(c:Int)<240:=by omega
  clear h1 h2 h3
  go_wp2_with fail
  go_ret2
  exact ⟨by rw [e.out.1,e.out.2];rfl,rfl⟩
 by_cases h4:240<=c/\c<245
 ·have e:Hid (yN c=3/\qh c=65536):=by unfold yN qh;rw [if_neg h1,if_neg h1,if_neg h2,if_neg h2,if_neg h3,if_neg h3,if_pos h4,if_pos h4];exact ⟨rfl,rfl⟩
  have h2I:194<=(c:Int):=by omega
  have h2J: ¬(c:Int)<224:=by omega
  have h3I:224<=(c:Int):=by omega
  have h3J: ¬(c:Int)<240:=by omega
  have h4I:240<=(c:Int):=by omega
  have h4J:(c:Int)<245:=by omega
  clear h1 h2 h3 h4
  go_wp2_with fail
  go_ret2
  exact ⟨by rw [e.out.1,e.out.2];rfl,rfl⟩
 have e:Hid (yN c= -1/\qh c=0):=by unfold yN qh;rw [if_neg h1,if_neg h1,if_neg h2,if_neg h2,if_neg h3,if_neg h3,if_neg h4,if_neg h4];exact ⟨rfl,rfl⟩
 by_cases h5:c<194
 ·have h2I: ¬194<=(c:Int):=by omega
  have h3I: ¬224<=(c:Int):=by omega
  have h4I: ¬240<=(c:Int):=by omega
  clear h1 h2 h3 h4 h5
  go_wp2_with fail
  go_ret2
  exact ⟨by rw [e.out.1,e.out.2];rfl,rfl⟩
 ·have h2I:194<=(c:Int):=by omega
  have h2J: ¬(c:Int)<224:=by omega
  have h3I:224<=(c:Int):=by omega
  have h3J: ¬(c:Int)<240:=by omega
  have h4I:240<=(c:Int):=by omega
  have h4J: ¬(c:Int)<245:=by omega
  clear h1 h2 h3 h4 h5
  go_wp2_with fail
  go_ret2
  exact ⟨by rw [e.out.1,e.out.2];rfl,rfl⟩
theorem kN (s:ByteArray) (w:World) (hs:s.size<=1000):
 Calls prog 118 #[.string s] w fun e w'=> ∃a c,e= .returned (.slice a (lettersB s).length c)/\w'.ownsRow w.heap.size 9 1 (.slice a (lettersB s).length c) (lettersB s).length (zz (lettersB s))/\Below w.heap.size w w':=by
 obtain ⟨i0,hi,hz0,hz1,hz2⟩:=info_parts qM
 rw [Jw]
 go_enter func118,ntmps118
 go_wp2_with fail
 go_loopg [3,4] s.size (fun g v vi wr=> ∃(i n:Nat) (acc:List ByteArray),g=s.size-i/\i<=s.size/\n<=i/\vi= .int .i64 i/\acc.length=n/\Hid (acc++qS s i=qS s 0)/\wr.ownsRow w.heap.size 9 1 v n (zz acc)/\Below w.heap.size w wr)
 case atStart=>exact ⟨0,0,[],by omega,by omega,by omega,rfl,rfl,rfl,World.ownsRow_nil _ _ _ _,Below.refl _ _⟩
 case round=>
  obtain ⟨i,n,acc,hgi,hil,hni,rfl,hlen,hch,hown,hbw⟩:=hrel
  have hG:Hid (gk=s.size-i):=hgi
  clear hgi
  have hszr:=hbw.size
  obtain ⟨al,cl,rfl⟩:=zn hown
  by_cases hi2:i<s.size
  ·have hiI:(i:Int)<s.size:=by omega
   have hB0:=DY s i hi2
   go_wp2_with fail
   refine (DZ (byN s i) _).mono ?_
   rintro e w1 ⟨rfl,rfl⟩
   obtain ⟨hT1,hT2⟩:=Do (byN s i)
   obtain ⟨T,hTe⟩: ∃T,yN (byN s i)=T:=⟨_,rfl⟩
   have hTH:Hid (yN (byN s i)=T):=hTe
   obtain ⟨Lw,hLe⟩: ∃Lw,qh (byN s i)=Lw:=⟨_,rfl⟩
   have hLH:Hid (qh (byN s i)=Lw):=hLe
   rw [hTe] at hT1 hT2 ⊢
   rw [hLe]
   clear hTe hLe
   have hS0:Hid ((decide (0<=T/\(i:Int)+T<s.size)=false->wd s i=1)/\(decide (0<=T/\(i:Int)+T<s.size)=true->0<=T/\(i:Int)+T<s.size)):=by
    refine ⟨fun h=>TW s i ?_,fun h=>by simpa using h⟩
    rw [hTH.out]
    simp at h
    omega
   go_upto_region 5 with fail
   go_cut [7] (fun s7 wx=>s7= .bool (decide (0<=T/\(i:Int)+T<s.size))/\wr=wx)
   case first=>
    by_cases h0:0<=T
    ·by_cases h1:(i:Int)+T<s.size
     ·have hd:decide (0<=T/\(i:Int)+T<s.size)=true:=by simp [h0,h1]
      go_wp2_with fail
      go_meet
      case rel=>exact ⟨by rw [hd],rfl⟩
     ·have hd:decide (0<=T/\(i:Int)+T<s.size)=false:=by simp [h1]
      go_wp2_with fail
      go_meet
      case rel=>exact ⟨by rw [hd],rfl⟩
    ·have hd:decide (0<=T/\(i:Int)+T<s.size)=false:=by simp [h0]
     go_wp2_with fail
     go_meet
     case rel=>exact ⟨by rw [hd],rfl⟩
   case rest=>
    obtain ⟨rfl,rfl⟩:=hcut
    generalize decide (0<=T/\(i:Int)+T<s.size)=ok0 at *
    go_upto_block 2 with fail
    go_cut [7,8,9] (fun s7 s8 s9 wx=> ∃(ok:Bool) (r k:Nat),s7= .bool ok/\s8= .int .i64 r/\s9= .int .i64 k/\r<=1000000/\Hid ((ok=false->wd s i=1)/\(ok=true->0<=T/\(i:Int)+T<s.size/\r=rK s i T.toNat/\ ∀m,1<=m->m<=T.toNat->xO s i m=true))/\wr=wx)
    case first=>
     go_wp2_with fail
     go_loopg [7,8,9] 3 (fun g t7 t8 t9 wy=> ∃(j:Nat) (ok:Bool),g=3-j/\j<=3/\t7= .bool ok/\t8= .int .i64 ((rK s i j:Nat):Int)/\t9= .int .i64 ((j:Int)+1)/\Hid ((ok=false->wd s i=1)/\(ok=true->0<=T/\(j:Int)<=T/\(i:Int)+T<s.size/\ ∀m,1<=m->m<=j->xO s i m=true))/\wr=wy)
     case atStart=>exact ⟨0,ok0,rfl,by omega,rfl,rfl,rfl,⟨hS0.out.1,fun h=>⟨(hS0.out.2 h).1,by have:=(hS0.out.2 h).1;omega,(hS0.out.2 h).2,fun m h1 h2=>by omega⟩⟩,rfl⟩
     case round=>
      obtain ⟨j,ok,hgj,hj3,rfl,rfl,rfl,hI,rfl⟩:=hrel
      have hGj:Hid (_=3-j):=hgj
      have hrb:rK s i j<1000000:=by
       have h1:=TD s i j
       have h2:64 ^ j<=64 ^ 3:=Nat.pow_le_pow_right (by omega) hj3
       have h3:(64:Nat) ^ 3=262144:=by decide
       omega
      clear hgj
      cases ok with
      | false=>
        have hw1:Hid (wd s i=1):=hI.out.1 rfl
        clear hI
        go_wp2_with fail
        go_meet
        case rel=>exact ⟨false,rK s i j,j+1,rfl,rfl,rfl,by omega,⟨fun _=>hw1.out,fun h=>(by cases h)⟩,rfl⟩
      | true=>
        obtain ⟨t0,t1,t2,t3⟩:=hI.out.2 rfl
        have ht3:Hid (∀m,1<=m->m<=j->xO s i m=true):=t3
        clear hI t3
        by_cases hjT:(j:Int)+1<=T
        ·have hx:i+(j+1)<s.size:=by omega
         have hxI:(i:Int)+((j:Int)+1)<s.size:=by omega
         have hB1:=DY s (i+(j+1)) hx
         have hrk:Hid (rK s i (j+1)=64*rK s i j+byN s (i+(j+1)) % 64):=rfl
         have hcb:Hid (xO s i (j+1)=decide (128<=byN s (i+(j+1))/\byN s (i+(j+1))<192)):=rfl
         have hBl:=QX s (i+(j+1))
         have hnx:Hid (∀ok':Bool,ok'=xO s i (j+1)-> ∃(j':Nat) (ok:Bool),3-(j+1)=3-j'/\j'<=3/\Value.bool ok'= .bool ok/\Value.int .i64 (64*(rK s i j:Int)+(byN s (i+(j+1)):Int) % 64)= .int .i64 ((rK s i j':Nat):Int)/\Value.int .i64 ((j:Int)+1+1)= .int .i64 ((j':Int)+1)/\Hid ((ok=false->wd s i=1)/\(ok=true->0<=T/\(j':Int)<=T/\(i:Int)+T<s.size/\ ∀m,1<=m->m<=j'->xO s i m=true))):=by
          intro ok' hok
          refine ⟨j+1,ok',rfl,by omega,rfl,by rw [hrk.out];push_cast;rfl,by push_cast;rfl,⟨fun h=> ?_,fun h=>⟨t0,by omega,t2,fun m h1 h2=> ?_⟩⟩⟩
          ·exact Px s i (m:=j+1) (by omega) (by rw [hTH.out];omega) (by rw [<-hok];exact h)
          ·by_cases hm:m=j+1
           ·rw [hm,<-hok];exact h
           ·exact ht3.out m h1 (by omega)
         generalize byN s (i+(j+1))=Bn at *
         by_cases g1:128<=Bn
         ·have g1I:128<=(Bn:Int):=by omega
          by_cases g2:Bn<192
          ·have g2I:(Bn:Int)<192:=by omega
           have hR:=hnx.out true (by rw [hcb.out];simp [g1,g2])
           have hRH:Hid _:=hR
           clear hR hnx g1 g2
           go_wp2_with fail
           go_roundg (3-(j+1))
           ·obtain ⟨j',ok,q1,q2,q3,q4,q5,q6⟩:=hRH.out
            exact ⟨j',ok,q1,q2,q3,q4,q5,q6,rfl⟩
           ·have:=hGj.out;omega
          ·have g2I: ¬(Bn:Int)<192:=by omega
           have hR:=hnx.out false (by rw [hcb.out];simp [g2])
           have hRH:Hid _:=hR
           clear hR hnx g1 g2
           go_wp2_with fail
           go_roundg (3-(j+1))
           ·obtain ⟨j',ok,q1,q2,q3,q4,q5,q6⟩:=hRH.out
            exact ⟨j',ok,q1,q2,by rw [show decide ((Bn:Int)<192)=false by simp;omega];exact q3,q4,q5,q6,rfl⟩
           ·have:=hGj.out;omega
         ·have g1I: ¬128<=(Bn:Int):=by omega
          have hR:=hnx.out false (by rw [hcb.out];simp [g1])
          have hRH:Hid _:=hR
          clear hR hnx g1
          go_wp2_with fail
          go_roundg (3-(j+1))
          ·obtain ⟨j',ok,q1,q2,q3,q4,q5,q6⟩:=hRH.out
           exact ⟨j',ok,q1,q2,q3,q4,q5,q6,rfl⟩
          ·have:=hGj.out;omega
        ·have hjE:Hid (T.toNat=j):=by show _=_;omega
         go_wp2_with fail
         go_meet
         case rel=>exact ⟨true,rK s i j,j+1,rfl,rfl,rfl,by omega,⟨fun h=>(by cases h),fun _=>⟨t0,t2,by rw [hjE.out],by rw [hjE.out];exact ht3.out⟩⟩,rfl⟩
    case rest=>
     obtain ⟨ok,r,k,rfl,rfl,rfl,hr6,hK,rfl⟩:=hcut
     go_upto_region 12 with fail
     go_cut [69] (fun s69 wx=>s69= .bool (ok && decide (0<T))/\wr=wx)
     case first=>
      cases ok with
      | false=>
        go_wp2_with fail
        go_meet
        case rel=>exact ⟨rfl,rfl⟩
      | true=>
        by_cases h0:0<T
        ·go_wp2_with fail
         go_meet
         case rel=>exact ⟨by simp [h0],rfl⟩
        ·go_wp2_with fail
         go_meet
         case rel=>exact ⟨by simp [h0],rfl⟩
     case rest=>
      obtain ⟨rfl,rfl⟩:=hcut
      go_upto_if 69 with fail
      go_cut [7] (fun s7 wx=> ∃ok':Bool,s7= .bool ok'/\Hid ((ok'=true->0<=T/\wd s i=T.toNat+1)/\(ok'=false->wd s i=1))/\wr=wx)
      case first=>
       cases hN:(ok && decide (0<T)) with
       | false=>
         have hE:Hid ((ok=true->0<=T/\wd s i=T.toNat+1)/\(ok=false->wd s i=1)):=by
          refine ⟨fun h=> ?_,hK.out.1⟩
          have h1:=(hK.out.2 h).1
          rw [h] at hN
          simp at hN
          have h2:T=0:=by omega
          rw [h2]
          exact ⟨by omega,by rw [PU s i (by rw [hTH.out,h2])];rfl⟩
         go_wp2_with fail
         go_meet
         case rel=>exact ⟨ok,rfl,hE,rfl⟩
       | true=>
         obtain ⟨hok,hT0⟩:ok=true/\0<T:=by simpa using hN
         subst hok
         obtain ⟨k0,k1,k2,k3⟩:=hK.out.2 rfl
         obtain ⟨N,rfl⟩: ∃N:Nat,T=(N:Int):=⟨T.toNat,by omega⟩
         have hfin:Hid (wd s i=if Lw<=runeN s i N/\runeN s i N<1114112/\(runeN s i N<55296\/57344<=runeN s i N) then N+1 else 1):=by
          have:=TO s i (n:=N) (by omega) hTH.out (by omega) (fun m h1 h2=>k3 m h1 (by omega))
          rw [hLH.out] at this
          exact this
         have hrn:Hid (runeN s i N=r+leadN (byN s i) N*64 ^ N):=by
          show _=_
          rw [k2];rfl
         have hlb:leadN (byN s i) N<=31:=by
          unfold leadN
          repeat' split
          all_goals omega
         have hLd:Hid (leadN (byN s i) N=if N=3 then byN s i % 8 else if N=2 then byN s i % 16 else byN s i % 32):=rfl
         have hBl:=QX s i
         clear hK k2 k3 hN
         have hN3:N<=3:=by omega
         have hN1:1<=N:=by omega
         generalize leadN (byN s i) N=ld at *
         generalize runeN s i N=R at *
         generalize byN s i=B0 at *
         go_upto_if 76 with fail
         go_cut [10] (fun s10 wx=>s10= .int .i64 (((if N=2 then B0 % 16 else B0 % 32):Nat):Int)/\wr=wx)
         case first=>
          by_cases h2:N=2
          ·have h2I:(((N:Nat):Int)==2)=true:=by rw [h2];rfl
           go_wp2_with fail
           go_meet
           case rel=>exact ⟨by simp [h2],rfl⟩
          ·have h2I:(((N:Nat):Int)==2)=false:=by rw [beq_eq_false_iff_ne];omega
           go_wp2_with fail
           go_meet
           case rel=>exact ⟨by simp [h2],rfl⟩
         case rest=>
          obtain ⟨rfl,rfl⟩:=hcut
          generalize (if N=2 then B0 % 16 else B0 % 32)=l0 at *
          go_upto_if 83 with fail
          go_cut [10] (fun s10 wx=>s10= .int .i64 ((ld:Nat):Int)/\wr=wx)
          case first=>
           by_cases h3:N=3
           ·have h3I:(((N:Nat):Int)==3)=true:=by rw [h3];rfl
            go_wp2_with fail
            go_meet
            case rel=>exact ⟨by rw [hLd.out,if_pos h3];simp,rfl⟩
           ·have h3I:(((N:Nat):Int)==3)=false:=by rw [beq_eq_false_iff_ne];omega
            go_wp2_with fail
            go_meet
            case rel=>exact ⟨by rw [hLd.out,if_neg h3],rfl⟩
          case rest=>
           obtain ⟨rfl,rfl⟩:=hcut
           clear hLd
           have hpw:Hid (∀j,j<=N->ld*64 ^ j<=8126464):=by
            intro j hj
            have h1:64 ^ j<=64 ^ 3:=Nat.pow_le_pow_right (by omega) (by omega)
            have h2:=Nat.mul_le_mul hlb h1
            have h3:31*64 ^ 3=8126464:=by decide
            omega
           go_wp2_with fail
           go_loopg [10,11] N (fun g t10 t11 wy=> ∃j P:Nat,g=N-j/\j<=N/\t10= .int .i64 (P:Int)/\Hid (P=ld*64 ^ j)/\P<=8126464/\t11= .int .i64 j/\wr=wy)
           case atStart=>exact ⟨0,ld,by omega,by omega,rfl,by show _=_;simp,by omega,rfl,rfl⟩
           case round=>
            obtain ⟨j,P,hgj,hjN,rfl,hP,hPb,rfl,rfl⟩:=hrel
            have hGj:Hid (_=N-j):=hgj
            clear hgj
            by_cases hj:j<N
            ·have hjI:(j:Int)<N:=by omega
             have hP2:Hid (P*64=ld*64 ^ (j+1)):=by
              show _=_
              rw [hP.out,Nat.pow_succ,Nat.mul_assoc]
             have hP3:P*64<=8126464:=by rw [hP2.out];exact hpw.out (j+1) hj
             go_wp2_with fail
             go_roundg (N-(j+1))
             ·exact ⟨j+1,P*64,rfl,by omega,by push_cast;rfl,hP2,hP3,by push_cast;rfl,rfl⟩
             ·have:=hGj.out;omega
            ·obtain rfl:j=N:=by omega
             have hjI: ¬((j:Int)<j):=by omega
             have hRP:R=r+P:=by rw [hrn.out,hP.out]
             subst hRP
             have hT2:Hid ((j:Int).toNat=j):=by show _=_;omega
             have hmeet:Hid (∀ok':Bool,(ok'=true ↔ (Lw<=((r+P:Nat):Int)/\r+P<1114112/\(r+P<55296\/57344<=r+P)))->Hid ((ok'=true->0<=(j:Int)/\wd s i=(j:Int).toNat+1)/\(ok'=false->wd s i=1))):=by
              intro ok' h
              refine ⟨fun e=>⟨by omega,?_⟩,fun e=> ?_⟩
              ·rw [hfin.out,if_pos (h.1 e),hT2.out]
              ·rw [hfin.out,if_neg (fun h2=>by rw [h.2 h2] at e;cases e)]
             clear hfin hrn hP hpw
             by_cases q1:Lw<=(r:Int)+P
             ·by_cases q2:(r:Int)+P<1114112
              ·by_cases q3:(r:Int)+P<55296
               ·go_wp2_with fail
                go_meet
                case rel=>exact ⟨true,rfl,hmeet.out true (by simp;omega),rfl⟩
               ·by_cases q4:57344<=(r:Int)+P
                ·go_wp2_with fail
                 go_meet
                 case rel=>exact ⟨true,rfl,hmeet.out true (by simp;omega),rfl⟩
                ·go_wp2_with fail
                 go_meet
                 case rel=>exact ⟨false,rfl,hmeet.out false (by simp;omega),rfl⟩
              ·go_wp2_with fail
               go_meet
               case rel=>exact ⟨false,rfl,hmeet.out false (by simp;omega),rfl⟩
             ·go_wp2_with fail
              go_meet
              case rel=>exact ⟨false,rfl,hmeet.out false (by simp;omega),rfl⟩
      case rest=>
       obtain ⟨ok2,rfl,hW,rfl⟩:=hcut
       have hon: ∀t:ByteArray,∀u∈ [Value.string t],u.oneCell'=true:=by intro t u hu;simp at hu;subst hu;rfl
       have hfit:=Wm s i hi2
       have hpos:=Xq s i
       have hnext:Hid (qS s i=s.extract i (i+wd s i)::qS s (i+wd s i)):=kS s i hi2
       clear hK hS0
       cases ok2 with
       | false=>
         have hw1:=hW.out.2 rfl
         rw [hw1] at hnext hfit
         have hfI:(i:Int)+1<=s.size:=by omega
         go_wp2_with (at_builtin;refine zm rfl (.tmp 116) (.tmp 124) 27 rfl w.heap.size 9 i0 _ 1 16 underlying27 hi hz0 hz1 hz2 rfl (by decide) (.slice al n cl) n (zz acc) rfl (hown.alloc _) ⟨wr.heap.size,0,none⟩ 1 1 [.string (s.extract i (i+1))] rfl rfl (zt wr [.string (s.extract i (i+1))] 9) (hon _) (by unfold maxLen;omega) (by omega) (by simp;omega) ?_;intro v' w3 hown3 hgr hnew;have hb3:=(hbw.alloc (by omega) _).grown hgr (by simp;omega) (fun j e=>by have:=(hown.lt j e).1;omega))
         go_roundg (s.size-(i+1))
         ·exact ⟨i+1,n+1,acc++ [s.extract i (i+1)],rfl,by omega,by omega,by push_cast;rfl,by simp [hlen],by show _=_;rw [<-hch.out,hnext.out];simp,by rw [yi];exact hown3,hb3⟩
         ·have:=hG.out;omega
       | true=>
         obtain ⟨hT0,hw1⟩:=hW.out.1 rfl
         obtain ⟨N,rfl⟩: ∃N:Nat,T=(N:Int):=⟨T.toNat,by omega⟩
         have hw2:wd s i=N+1:=by rw [hw1];rfl
         rw [hw2] at hnext hfit
         have hfI:(i:Int)+N+1<=s.size:=by omega
         clear hw1
         go_wp2_with (at_builtin;refine zm rfl (.tmp 116) (.tmp 124) 27 rfl w.heap.size 9 i0 _ 1 16 underlying27 hi hz0 hz1 hz2 rfl (by decide) (.slice al n cl) n (zz acc) rfl (hown.alloc _) ⟨wr.heap.size,0,none⟩ 1 1 [.string (s.extract i (i+N+1))] rfl rfl (zt wr [.string (s.extract i (i+N+1))] 9) (hon _) (by unfold maxLen;omega) (by omega) (by simp;omega) ?_;intro v' w3 hown3 hgr hnew;have hb3:=(hbw.alloc (by omega) _).grown hgr (by simp;omega) (fun j e=>by have:=(hown.lt j e).1;omega))
         go_roundg (s.size-(i+N+1))
         ·exact ⟨i+N+1,n+1,acc++ [s.extract i (i+N+1)],rfl,by omega,by omega,by push_cast;rfl,by simp [hlen],by show _=_;rw [<-hch.out,hnext.out];simp [Nat.add_assoc],by rw [yi];exact hown3,hb3⟩
         ·have:=hG.out;omega
  ·obtain rfl:i=s.size:=by omega
   have hiI: ¬((s.size:Int)<s.size):=by omega
   have he:Hid (acc=qS s 0):=by
    show _=_
    rw [<-hch.out,Ym s s.size (Nat.le_refl _),List.append_nil]
   clear hch
   go_wp2_with fail
   go_ret
   refine ⟨al,cl,?_,?_,hbw⟩
   ·rw [<-he.out,hlen];rfl
   ·rw [<-he.out,hlen]
    exact hown
def Ya (l:List zk) (t:ByteArray):List zk:=match l.reverse with | []=> [] | r::q=>q.reverse++ [⟨r.kind,r.text++t⟩]
theorem yV (l:List zk) (r:zk) (t:ByteArray):Ya (l++ [r]) t=l++ [⟨r.kind,r.text++t⟩]:=by simp [Ya]
def newRun (L:List zk) (k:Nat):Bool:=decide (k=0) || decide ((L.getD (k-1) ⟨0,ByteArray.empty⟩).kind≠(L.getD k ⟨0,ByteArray.empty⟩).kind)
def foldR (L:List zk):Nat->List zk
 | 0=> []
 | k+1=>Ya (if newRun L k=true then foldR L k++ [⟨(L.getD k ⟨0,ByteArray.empty⟩).kind,ByteArray.empty⟩] else foldR L k) (L.getD k ⟨0,ByteArray.empty⟩).text
theorem YX (L:List zk): ∀k,(foldR L k).length<=k
 | 0=>by simp [foldR]
 | k+1=>by
   have ih:=YX L k
   have key: ∀(l:List zk) (t:ByteArray),(Ya l t).length=l.length:=by
    intro l t
    by_cases h:l= []
    ·subst h;rfl
    ·rw [<-List.dropLast_concat_getLast h,yV];simp
   unfold foldR
   rw [key]
   split
   ·simp;omega
   ·omega
theorem WD (L:List zk): ∀k,0<k->foldR L k≠ []
 | 0,h=>by omega
 | k+1,_=>by
   unfold foldR
   by_cases h:newRun L k=true
   ·rw [if_pos h,yV];simp
   ·rw [if_neg h]
    have hk:0<k:=by
     cases k with
     | zero=>simp [newRun] at h
     | succ k=>omega
    have:=WD L k hk
    rw [<-List.dropLast_concat_getLast this,yV]
    simp
theorem Qx {L:List zk} (h: ∀s∈L,s.text.size<=200): ∀k,∀r∈foldR L k,r.text.size<=k*200
 | 0=>by simp [foldR]
 | k+1=>by
   have ih:=Qx h k
   have hT:(L.getD k ⟨0,ByteArray.empty⟩).text.size<=200:=by
    by_cases hk:k<L.length
    ·have e:L.getD k ⟨0,ByteArray.empty⟩=L[k]:=by simp [List.getD,hk]
     rw [e]
     exact h _ (List.getElem_mem hk)
    ·have e:L.getD k ⟨0,ByteArray.empty⟩=⟨0,ByteArray.empty⟩:=by simp [List.getD,List.getElem?_eq_none (show L.length<=k by omega)]
     rw [e]
     exact Nat.zero_le _
   have key: ∀l:List zk,(∀r∈l,r.text.size<=k*200)-> ∀r∈Ya l (L.getD k ⟨0,ByteArray.empty⟩).text,r.text.size<=(k+1)*200:=by
    intro l hl r hr
    by_cases h0:l= []
    ·subst h0;simp [Ya] at hr
    ·have hl2:=hl (l.getLast h0) (List.getLast_mem h0)
     rw [<-List.dropLast_concat_getLast h0,yV] at hr
     rcases List.mem_append.1 hr with hr | hr
     ·have:=hl r (List.dropLast_subset _ hr)
      omega
     ·rw [List.mem_singleton] at hr
      subst hr
      show ((l.getLast h0).text++_).size<=_
      rw [ByteArray.size_append]
      omega
   unfold foldR
   split
   ·refine key _ fun r hr=> ?_
    rcases List.mem_append.1 hr with hr | hr
    ·exact ih r hr
    ·rw [List.mem_singleton] at hr
     subst hr
     exact Nat.zero_le _
   ·exact key _ ih
theorem xx {L:List zk} {k:Nat} (h:k<L.length):L.getD k ⟨0,ByteArray.empty⟩=L[k]:=by simp [List.getD,h]
theorem Jh {L:List zk} {b e:Nat} (hb:b<=e) (he:e<L.length):kG L b (e+1)=⟨(kG L b e).kind,(kG L b e).text++L[e].text⟩:=by
 unfold kG
 have h1:(L.take (e+1)).drop b=(L.take e).drop b++ [L[e]]:=by
  rw [List.take_succ_eq_append_getElem he,List.drop_append_of_le_length (by rw [List.length_take];omega)]
 simp only
 rw [h1,Fz,List.map_append,xH]
 simp [qd]
theorem JV {L:List zk} {b:Nat} {acc:List zk} (hb:b<L.length) (h0:foldR L b=acc) (hn:newRun L b=true):
 ∀j,1<=j->j<=runLen L b->foldR L (b+j)=acc++ [kG L b (b+j)]
 | 0,h,_=>by omega
 | j+1,_,hj=>by
   by_cases h1:j=0
   ·subst h1
    show foldR L (b+1)=_
    unfold foldR
    rw [if_pos hn,yV,h0,Jh (Nat.le_refl b) hb,xx hb]
    have e:kG L b b=⟨L[b].kind,⟨#[]⟩⟩:=by
     unfold kG
     rw [List.drop_of_length_le (by rw [List.length_take];omega),xx hb]
     rfl
    rw [e]
    rfl
   ·have ih:=JV hb h0 hn j (by omega) (by omega)
    obtain ⟨k1,k2⟩:=Zq hb (j:=j) (by omega)
    obtain ⟨k3,k4⟩:=Zq hb (j:=j-1) (by omega)
    have hnn:newRun L (b+j)=false:=by
     unfold newRun
     rw [xx k1,xx (show b+j-1<L.length by omega)]
     have e1:=k2 k1
     have e2:=k4 (show b+(j-1)<L.length by omega)
     have e3:L[b+j-1]'(by omega)=L[b+(j-1)]'k3:=by congr 1;omega
     rw [e3,e1,e2]
     simp
     omega
    show foldR L (b+j+1)=_
    unfold foldR
    rw [hnn,if_neg (by simp),ih,yV,xx k1]
    show _=acc++ [kG L b (b+j+1)]
    rw [Jh (by omega) k1]
theorem QK (L:List zk): ∀(k b:Nat) (acc:List zk),b<=L.length->L.length<=b+k->foldR L b=acc->(b<L.length->newRun L b=true)->foldR L L.length=acc++ZR L k b
 | 0,b,acc,h1,h2,h3,_=>by
   obtain rfl:b=L.length:=by omega
   rw [h3,ZR,List.append_nil]
 | k+1,b,acc,h1,h2,h3,h4=>by
   unfold ZR
   by_cases hb:b<L.length
   ·rw [if_pos hb]
    obtain ⟨p1,p2⟩:=ZZ hb
    have hr:=JV hb h3 (h4 hb) (runLen L b) p1 (Nat.le_refl _)
    rw [QK L k (b+runLen L b) _ p2 (by omega) hr (fun hlt=> ?_)]
    ·simp
    ·have e1:=Qs hb hlt
     obtain ⟨k3,k4⟩:=Zq hb (j:=runLen L b-1) (by omega)
     unfold newRun
     rw [xx hlt,xx (show b+runLen L b-1<L.length by omega)]
     have e2:=k4 k3
     have e3:L[b+runLen L b-1]'(by omega)=L[b+(runLen L b-1)]'k3:=by congr 1;omega
     rw [e3,e2]
     simp
     right
     intro e
     exact e1 e.symm
   ·rw [if_neg hb]
    obtain rfl:b=L.length:=by omega
    rw [h3,List.append_nil]
theorem JL (L:List zk):foldR L L.length=XC L:=by
 unfold XC
 rw [QK L L.length 0 [] (Nat.zero_le _) (by omega) rfl (fun _=>by simp [newRun])]
 rfl
theorem Gr {w:World} {base cap g:Nat} {l:List zk} {r:zk} (h:w.ownsRow base 101 2 (.slice (some ⟨g,0,none⟩) (l.length+1) cap) (l.length+1) (zg (l++ [r]))) (t:ByteArray):
 (w.setCell ⟨g,l.length*2+1,none⟩ (.string t)).ownsRow base 101 2 (.slice (some ⟨g,0,none⟩) (l.length+1) cap) (l.length+1) (zg (l++ [⟨r.kind,t⟩])):=by
 obtain ⟨hl,hr⟩:=h
 rcases hr with ⟨e,_⟩ | ⟨g',cap',cur,e,hb,hg,h1,h2,h3,h4⟩
 ·cases e
 ·cases e
  refine ⟨by rw [zG];simp,.inr ⟨g,cap,_,rfl,hb,zb _ _ _ _ _ _ _ hg,h1,h2,by simp [h3],?_⟩⟩
  have h5:List.take ((l.length+1)*2) (cur.setIfInBounds (l.length*2+1) (.string t)).toList=(List.take ((l.length+1)*2) cur.toList).set (l.length*2+1) (.string t):=by simp [List.take_set]
  rw [h5,h4,zB,zB,List.set_append_right _ _ (by rw [zG];omega),zG]
  have:l.length*2+1-l.length*2=1:=by omega
  rw [this]
  rfl
end Go.Proofs.YtcclgodahlinbaaGreatDoor
