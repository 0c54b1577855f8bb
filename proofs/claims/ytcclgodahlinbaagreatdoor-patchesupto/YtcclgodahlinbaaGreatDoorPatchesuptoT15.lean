import Derived.Test.YtcclgodahlinbaaGreatDoorPatchesuptoT13
import Derived.Test.YtcclgodahlinbaaGreatDoorPatchesuptoT14
import Derived.Test.YtcclgodahlinbaaGreatDoorPatchesuptoT08
import Derived.Test.YtcclgodahlinbaaGreatDoorPatchesuptoT12
import Derived.Test.YtcclgodahlinbaaGreatDoorRows
import Derived.Test.YtcclgodahlinbaaGreatDoorPatchesuptoT03
import Derived.Deep.DeepHandedRow
import Derived.Deep.DeepWitnessRowRef
import Derived.Deep.DeepLaidRun
import Derived.LaidLaws
import Derived.LaidHandle
import Derived.LaidSub
import Derived.Stop.LaidErr
import Derived.ProofKit
import Derived.OpenShut
import Derived.Lib.LaidU8
import Derived.Shelf.Vars
import Derived.SevenTiedAt
import Derived.Test.YtcclgodahlinbaaGreatDoorCards
import Derived.Test.YtcclgodahlinbaaGreatDoorTie
import Derived.JoinedCond
import Derived.ChangeSame
import Derived.ChangeSlices
namespace Go.Proofs.YtcclgodahlinbaaGreatDoor
open Go.RowKit Go
set_option maxRecDepth 100000
theorem patch_after {base wb bl cl M N : Nat} {al : Option Addr} {x : WV} {B : Bk} {w w5 : World} {hv : List HV} (K : Kept base wb x B w5) (R : Room M x B) (hM : M ≤ 650000000000) (hN : hv.length = N) (hso : HSo bl (.slice al N cl) hv w5) (hn : N ≤ 300000) (hln : ∀ p ∈ hv, p.1.lines.length ≤ 1048576)
    (hfl : ∀ p ∈ B.l, ∀ q ∈ hv, p.1.ownBlock = none ∨ p.1.ownBlock ≠ q.2.ownBlock) (hfh : ∀ p ∈ B.h, ∀ g, p.1.ownBlock = some g → g < bl) (hF : Frame base w w5 (fun _ => False)) (hlo : w.heap.size ≤ bl) (hbl : bl ≤ w5.heap.size) (hbase : base ≤ w5.heap.size) :
    Calls Tryz.prog 82 #[.pointer (some ⟨wb, 0, none⟩), .agg #[.slice al N cl]] w5 fun e w' => e = .returned (.tuple #[]) ∧ After base wb (M + 4 * N + 4) w w' := by
  subst hN
  refine (patch_any (bl := bl) (al := al) (cl := cl) (hv := hv) K hso (by omega) (fun p hp => Nat.le_trans (hln p hp) (by decide)) hfl hfh hbase hbl (by have := R.c; omega) (by have := R.l; omega) (by have := R.h; omega)).mono ?_
  rintro e w' ⟨rfl, x', B', k1, k2, k3, k4, k5, k6, k7⟩
  refine ⟨rfl, x', B', k1, ⟨?_, ?_, ?_, ?_, ?_⟩, (hF.trans k7).mono fun g hg k => k.elim id fun k => by omega⟩
  · have := R.c; rw [k6]; omega
  · have := R.h; rw [k4]; omega
  · have := R.l; rw [k5]; omega
  · have := R.s; rw [k2]; omega
  · have := R.r; rw [k3]; omega
set_option maxHeartbeats 4000000 in
theorem reads_ok {base wb M : Nat} {x : WV} {B : Bk} {w : World} {s : ByteArray} (K : Kept base wb x B w) (R : Room M x B) (hM : M ≤ 600000000000) (hg : GlobP w) (hbase : base ≤ w.heap.size) (hs4 : s.size ≤ 4000000000) :
    Calls Tryz.prog 44 #[.pointer (some ⟨wb, 0, none⟩), .string s] w fun e w' => e = .returned (.bool true) ∧ After base wb (M + 80004) w w' := by
  have hsm := readA_small s
  have hrd := read_any (s := s) (w := w) hs4 hg
  have hrr := fun W : World => refRead_any (s := s) (w := W) hs4
  have hls := fun (W : World) (al aq : Option Addr) (cl cq : Nat) (hA : HunksAt W.heap.size W (.slice al (readA s).1.length cl) (readA s).1) (hB : HunksAt W.heap.size W (.slice aq (readA s).1.length cq) (readA s).1) => lsame_any (hs := (readA s).1.map HI.ofM) (a := al) (b := aq) (ca := cl) (cb := cq) (w := W) (by rw [List.length_map]; exact HIAt.of_hunks hA) (by rw [List.length_map]; exact HIAt.of_hunks hB) (by rw [List.length_map]; omega) (fun h hh => by obtain ⟨m, hm, rfl⟩ := List.mem_map.1 hh; exact Nat.le_trans (hsm.2 m hm) (by decide))
  rw [List.length_map] at hls
  generalize readA s = RA at *
  obtain ⟨hs, at1, er⟩ := RA
  simp only at hrd hrr hls hsm
  obtain ⟨hsm1, hsm2⟩ := hsm
  have hlsH : Hid _ := hls
  have hsmH : Hid (∀ h ∈ hs, h.lines.length ≤ 20000) := hsm2
  have hrrH : Hid _ := hrr
  clear hls hsm2 hrr
  go_enter Tryz.func44, Tryz.ntmps44
  go_wp2_with fail
  refine hrd.mono ?_
  rintro e W1 ⟨al, cl, hv, rfl, hso, hmap, b1⟩
  have z1 := b1.size
  have hN : hv.length = hs.length := by rw [← hmap, List.length_map]
  rw [hN] at hso ⊢
  have hNH : Hid (hv.length = hs.length) := hN
  have hmapH : Hid (hv.map (·.1) = hs) := hmap
  clear hN hmap hrd
  obtain ⟨W2, hW2⟩ : ∃ W2, W1.alloc (.cells #[.slice al hs.length cl] 32) = W2 := ⟨_, rfl⟩
  have b2 : Below W1.heap.size W1 W2 := by rw [← hW2]; exact (Below.refl _ _).alloc (Nat.le_refl _) _
  have z2 : W2.heap.size = W1.heap.size + 1 := by rw [← hW2]; simp
  have hP2 : W2.heap[W1.heap.size]? = some (.cells #[.slice al hs.length cl] 32 (0, 0)) := by rw [← hW2]; exact heap_alloc_new W1 _
  have hrr2 := hrrH.out W2
  clear hrrH
  go_wp2_with fail
  clear hW2
  refine hrr2.mono ?_
  rintro e W3 ⟨aq, cq, rfl, hq, b3⟩
  have z3 := b3.size
  obtain ⟨W4, hW4⟩ : ∃ W4, W3.alloc (.cells #[.slice aq hs.length cq] 32) = W4 := ⟨_, rfl⟩
  have b4 : Below W3.heap.size W3 W4 := by rw [← hW4]; exact (Below.refl _ _).alloc (Nat.le_refl _) _
  have z4 : W4.heap.size = W3.heap.size + 1 := by rw [← hW4]; simp
  have hP4 : W4.heap[W3.heap.size]? = some (.cells #[.slice aq hs.length cq] 32 (0, 0)) := by rw [← hW4]; exact heap_alloc_new W3 _
  have b24 := b3.trans (b4.mono z3)
  have b14 := b2.trans (b24.mono (by omega))
  have r1 : W4.cell? ⟨W1.heap.size, 0, none⟩ = some (.slice al hs.length cl) := cell_of ((b24.block W1.heap.size (by omega)).trans hP2) rfl
  have r2 : W4.cell? ⟨W3.heap.size, 0, none⟩ = some (.slice aq hs.length cq) := cell_of hP4 rfl
  have hso4 := hso.same (w' := W4) fun g hg => b14.block g hg
  have hA := HunksAt.of_owns hso4
  rw [hmapH.out] at hA
  have hcall := hlsH.out W4 al aq cl cq hA ((hq.below b4).mono b4.size)
  clear hA hlsH hrr2 hq hP4
  go_wp2_with fail
  clear hW4
  refine hcall.mono ?_
  rintro e W5 ⟨rfl, b5⟩
  have z5 := b5.size
  have b25 := b24.trans (b5.mono (by omega))
  have b15 := b14.trans (b5.mono (by omega))
  have b05 := b1.trans (b15.mono z1)
  have s1 : W5.cell? ⟨W1.heap.size, 0, none⟩ = some (.slice al hs.length cl) := cell_of ((b25.block W1.heap.size (by omega)).trans hP2) rfl
  have hpc : Hid (Calls Tryz.prog 82 #[.pointer (some ⟨wb, 0, none⟩), .agg #[.slice al hs.length cl]] W5 fun e w' => e = .returned (.tuple #[]) ∧ After base wb (M + 80004) w w') := by
    have K5 := K.old (W' := W5) fun g hg => b05.block g hg
    refine (patch_after (bl := w.heap.size) (w := w) K5 R (by omega) hNH.out (hso4.same (w' := W5) fun g hg => b5.block g hg) (by omega) (fun p hp => ?_) (fun p hp q hq => ?_) (fun p hp g e => ?_) (Frame.of_below b05) (Nat.le_refl _) (by omega) (by omega)).mono ?_
    · exact Nat.le_trans (hsmH.out p.1 (by rw [← hmapH.out]; exact List.mem_map_of_mem hp)) (by decide)
    · cases hv1 : p.1.ownBlock with
      | none => exact .inl rfl
      | some g =>
        right
        intro e
        have h1 := ((K.l.ok p hp).lt g hv1).1
        have h2 : w.heap.size ≤ g := by
          rcases hso with ⟨rfl, _⟩ | ⟨g0, cap, _, _, hsv⟩
          · cases hq
          · exact ((hsv.lines q hq).lt g e.symm).1
        omega
    · exact ((K.h.ok p hp).lt g e).1
    · rintro e w' ⟨rfl, x', B', k1, k2, k3⟩
      exact ⟨rfl, x', B', k1, ⟨by have := k2.c; omega, by have := k2.h; omega, by have := k2.l; omega, by have := k2.s; omega, by have := k2.r; omega⟩, k3⟩
  have e0 : ∀ x : Int, (x == x) = true := by simp
  clear hcall r1 r2 hso hso4 hP2 K hmapH hsmH hNH b1 b2 b3 b4 b5 b24 b14 b25 b15 b05
  go_wp2_with fail
  refine hpc.out.mono ?_
  rintro e W6 ⟨rfl, hR⟩
  have hRH : Hid _ := hR
  clear hR hpc
  go_wp2_with fail
  go_ret
  exact ⟨by first | rfl | simp, hRH.out⟩
end Go.Proofs.YtcclgodahlinbaaGreatDoor
namespace Go.Proofs.YtcclgodahlinbaaGreatDoor
open Go.RowKit Go
set_option maxRecDepth 100000
theorem H0At.later {w w' : World} {v : Value} {hs : List HI} (h : H0At w.heap.size w v hs) (hb : Below w.heap.size w w') : H0At w'.heap.size w' v hs :=
  ⟨(h.1.below hb).mono hb.size, fun ms e => ((h.2 ms e).below hb).mono hb.size⟩
set_option maxHeartbeats 4000000 in
theorem reverses_ok {base wb M : Nat} {x : WV} {B : Bk} {w : World} {hs : List HI} {a : Option Addr} {cap : Nat} (K : Kept base wb x B w) (R : Room M x B) (hM : M ≤ 600000000000) (hbase : base ≤ w.heap.size)
    (S : Stays base w (.slice a hs.length cap) hs) (hL : Lim hs) :
    Calls Tryz.prog 45 #[.pointer (some ⟨wb, 0, none⟩), .agg #[.slice a hs.length cap]] w fun e w' => e = .returned (.bool true) ∧ After base wb (M + 8 * hs.length + 4) w w' := by
  have hsm := revA_small hL
  have hsl := revA_len hs
  have hlh := hL.1
  have hrv := fun (W : World) (ax : Option Addr) (cx : Nat) (h : H0At W.heap.size W (.slice ax hs.length cx) hs) => reverse_any (w := W) h hL
  have hrr := fun (W : World) (h : HIAt W.heap.size W (.slice a hs.length cap) hs) => refReverse_own (w := W) h hL
  have hls := fun (W : World) (al aq : Option Addr) (cl cq : Nat) (hA : HunksAt W.heap.size W (.slice al (revA hs).1.length cl) (revA hs).1) (hB : HunksAt W.heap.size W (.slice aq (revA hs).1.length cq) (revA hs).1) => lsame_any (hs := (revA hs).1.map HI.ofM) (a := al) (b := aq) (ca := cl) (cb := cq) (w := W) (by rw [List.length_map]; exact HIAt.of_hunks hA) (by rw [List.length_map]; exact HIAt.of_hunks hB) (by rw [List.length_map]; exact hsm.1) (fun h hh => by obtain ⟨m, hm, rfl⟩ := List.mem_map.1 hh; exact hsm.2 m hm)
  rw [List.length_map] at hls
  generalize revA hs = RA at *
  obtain ⟨rs, er⟩ := RA
  simp only at hrv hrr hls hsm hsl
  obtain ⟨hsm1, hsm2⟩ := hsm
  have hlsH : Hid _ := hls
  have hsmH : Hid (∀ h ∈ rs, h.lines.length ≤ 1048576) := hsm2
  have hrrH : Hid _ := hrr
  have hrvH : Hid _ := hrv
  have hslH : Hid (rs.length ≤ hs.length) := hsl
  clear hls hsm2 hrr hrv hsl
  obtain ⟨W0, hW0⟩ : ∃ W0, w.alloc (.cells #[.slice a hs.length cap] 32) = W0 := ⟨_, rfl⟩
  have b0 : Below w.heap.size w W0 := by rw [← hW0]; exact (Below.refl _ _).alloc (Nat.le_refl _) _
  have z0 : W0.heap.size = w.heap.size + 1 := by rw [← hW0]; simp
  have hP0 : W0.heap[w.heap.size]? = some (.cells #[.slice a hs.length cap] 32 (0, 0)) := by rw [← hW0]; exact heap_alloc_new w _
  have K0 := K.old (W' := W0) fun g hg => b0.block g hg
  have S0 := S.on (Frame.of_below (base := base) b0) (fun _ h => h.elim)
  have c0 : W0.cell? ⟨w.heap.size, 0, none⟩ = some (.slice a hs.length cap) := cell_of hP0 rfl
  have hlent := lent_any S0 hL (by omega)
  have hrl := R.l
  have hrc := R.c
  go_enter Tryz.func45, Tryz.ntmps45
  go_wp2_with fail
  clear hW0
  refine hlent.mono ?_
  rintro e W1 ⟨ax, cx, va, vr, rfl, hLO, b1⟩
  have z1 := b1.size
  obtain ⟨W2, hW2⟩ : ∃ W2, W1.alloc (.cells #[.slice ax hs.length cx] 32) = W2 := ⟨_, rfl⟩
  have b2 : Below W1.heap.size W1 W2 := by rw [← hW2]; exact (Below.refl _ _).alloc (Nat.le_refl _) _
  have z2 : W2.heap.size = W1.heap.size + 1 := by rw [← hW2]; simp
  have hP2 : W2.heap[W1.heap.size]? = some (.cells #[.slice ax hs.length cx] 32 (0, 0)) := by rw [← hW2]; exact heap_alloc_new W1 _
  have q0 : W2.cell? ⟨W1.heap.size, 0, none⟩ = some (.slice ax hs.length cx) := cell_of hP2 rfl
  have b02 := b1.trans (b2.mono z1)
  have hw := hrvH.out W2 ax cx (hLO.1.later b2)
  have hLOH : Hid (LentOk base W0 a cap hs (.slice ax hs.length cx) va vr W1) := hLO
  clear c0 hLO hlent hrvH
  go_wp2_with fail
  clear hW2
  refine hw.mono ?_
  rintro e W3 ⟨al, cl, hv, rfl, hso, hmap, b3⟩
  have z3 := b3.size
  have hN : hv.length = rs.length := by rw [← hmap, List.length_map]
  rw [hN] at hso ⊢
  have hNH : Hid (hv.length = rs.length) := hN
  have hmapH : Hid (hv.map (·.1) = rs) := hmap
  clear hN hmap hw q0 hP2
  obtain ⟨W4, hW4⟩ : ∃ W4, W3.alloc (.cells #[.slice al rs.length cl] 32) = W4 := ⟨_, rfl⟩
  have b4 : Below W3.heap.size W3 W4 := by rw [← hW4]; exact (Below.refl _ _).alloc (Nat.le_refl _) _
  have z4 : W4.heap.size = W3.heap.size + 1 := by rw [← hW4]; simp
  have hP4 : W4.heap[W3.heap.size]? = some (.cells #[.slice al rs.length cl] 32 (0, 0)) := by rw [← hW4]; exact heap_alloc_new W3 _
  have b04 := (b02.trans (b3.mono (by omega))).trans (b4.mono (by omega))
  have c4 : W4.cell? ⟨w.heap.size, 0, none⟩ = some (.slice a hs.length cap) := cell_of ((b04.block w.heap.size (by omega)).trans hP0) rfl
  have S4 := S0.on (Frame.of_below (base := base) b04) (fun _ h => h.elim)
  have hr := hrrH.out W4 S4.now
  clear hrrH
  go_wp2_with fail
  clear hW4
  refine hr.mono ?_
  rintro e W5 ⟨aq, cq, rfl, hq, b5⟩
  have z5 := b5.size
  obtain ⟨W6, hW6⟩ : ∃ W6, W5.alloc (.cells #[.slice aq rs.length cq] 32) = W6 := ⟨_, rfl⟩
  have b6 : Below W5.heap.size W5 W6 := by rw [← hW6]; exact (Below.refl _ _).alloc (Nat.le_refl _) _
  have z6 : W6.heap.size = W5.heap.size + 1 := by rw [← hW6]; simp
  have hP6 : W6.heap[W5.heap.size]? = some (.cells #[.slice aq rs.length cq] 32 (0, 0)) := by rw [← hW6]; exact heap_alloc_new W5 _
  have b46 := b5.trans (b6.mono z5)
  have b36 := b4.trans (b46.mono (by omega))
  have hR6 := (b46.block W3.heap.size (by omega)).trans hP4
  have r1 : W6.cell? ⟨W3.heap.size, 0, none⟩ = some (.slice al rs.length cl) := cell_of hR6 rfl
  have r2 : W6.cell? ⟨W5.heap.size, 0, none⟩ = some (.slice aq rs.length cq) := cell_of hP6 rfl
  have hso6 := hso.same (w' := W6) fun g hg => b36.block g hg
  have hq6 : HOwn W4.heap.size W6 (.slice aq rs.length cq) rs := hq.frame (Frame.of_below (base := base) b6) (fun _ _ _ h => h)
  have hA := HunksAt.of_owns hso6
  rw [hmapH.out] at hA
  have hcall := hlsH.out W6 al aq cl cq hA hq6.hunks
  clear hA hr hq hP4 c4
  go_wp2_with fail
  clear hW6
  refine hcall.mono ?_
  rintro e W7 ⟨rfl, b7⟩
  have z7 := b7.size
  have b07 := (b04.trans (b46.mono (by omega))).trans (b7.mono (by omega))
  have b37 := b36.trans (b7.mono (by omega))
  have b17 := ((b2.trans (b3.mono (by omega))).trans (b37.mono (by omega)))
  have c7 : W7.cell? ⟨w.heap.size, 0, none⟩ = some (.slice a hs.length cap) := cell_of ((b07.block w.heap.size (by omega)).trans hP0) rfl
  have hR7 := (b7.block W3.heap.size (by omega)).trans hR6
  have hQ7 := (b7.block W5.heap.size (by omega)).trans hP6
  have hso7 := hso6.same (w' := W7) fun g hg => b7.block g hg
  have hq7 : HOwn W4.heap.size W7 (.slice aq rs.length cq) rs := hq6.frame (Frame.of_below (base := base) b7) (fun _ _ _ h => h)
  have hu : Hid (Calls Tryz.prog 87 #[.pointer (some ⟨wb, 0, none⟩), va, vr, .agg #[.slice a hs.length cap]] W7 fun e w' => e = .returned (.bool true) ∧ UntAll base wb x B hs.length W0.heap.size W1.heap.size W7 w') := hLOH.out.2 wb x B W7 K0 b17 (by omega) (by omega)
  clear hcall r1 r2 hR6 hP6 hso6 hq6 hLOH hP0 S4 S0 S
  go_wp2_with fail
  refine hu.out.mono ?_
  rintro e W8 ⟨rfl, x8, E8, K8, E1, E2, F8, E3⟩
  have z8 := F8.1
  have hR8 := (F8.at hR7 (by decide) (by omega)).trans hR7
  have hQ8 := (F8.at hQ7 (by decide) (by omega)).trans hQ7
  have r1 : W8.cell? ⟨W3.heap.size, 0, none⟩ = some (.slice al rs.length cl) := cell_of hR8 rfl
  have r2 : W8.cell? ⟨W5.heap.size, 0, none⟩ = some (.slice aq rs.length cq) := cell_of hQ8 rfl
  have hso8 := hso7.frame F8 (fun g h1 h2 h3 => by omega)
  have hq8 := hq7.frame F8 (fun g h1 h2 h3 => by omega)
  have hA := HunksAt.of_owns hso8
  rw [hmapH.out] at hA
  have hcall := hlsH.out W8 al aq cl cq hA hq8.hunks
  have hK8 : Hid (Kept base wb x8 { B with l := B.l ++ E8 } W8 ∧ E8.length ≤ 4 * hs.length ∧ x8.c ≤ x.c + hs.length ∧ Frame base w W8 (fun _ => False) ∧ ∀ p ∈ E8, ∀ g, p.1.ownBlock = some g → (W0.heap.size ≤ g ∧ g < W1.heap.size) ∨ W7.heap.size ≤ g) :=
    ⟨K8, E1, E2, ((Frame.of_below (base := base) (b0.trans (b07.mono (by omega)))).trans F8).mono fun g hg k => k.elim id fun k => by omega, E3⟩
  clear hA hlsH hu c7 hR7 hQ7 hso7 hq7 K8 E1 E2 F8 E3 hq8 hQ8
  go_wp2_with fail
  refine hcall.mono ?_
  rintro e W9 ⟨rfl, b9⟩
  have z9 := b9.size
  have s1 : W9.cell? ⟨W3.heap.size, 0, none⟩ = some (.slice al rs.length cl) := cell_of ((b9.block W3.heap.size (by omega)).trans hR8) rfl
  have hpc : Hid (Calls Tryz.prog 82 #[.pointer (some ⟨wb, 0, none⟩), .agg #[.slice al rs.length cl]] W9 fun e w' => e = .returned (.tuple #[]) ∧ After base wb (M + 8 * hs.length + 4) w w') := by
    obtain ⟨K8, E1, E2, F8, E3⟩ := hK8.out
    have hsl := hslH.out
    have hqb : ∀ q ∈ hv, ∀ g, q.2.ownBlock = some g → W2.heap.size ≤ g ∧ g < W3.heap.size := fun q hq g e => by
      rcases hso with ⟨rfl, _⟩ | ⟨g0, cap, _, _, hsv⟩
      · cases hq
      · exact (hsv.lines q hq).lt g e
    refine (patch_after (bl := W2.heap.size) (w := w) (M := M + 4 * hs.length) (K8.old (W' := W9) fun g hg => b9.block g hg) ⟨?_, ?_, ?_, ?_, ?_⟩ (by omega) hNH.out (hso8.same (w' := W9) fun g hg => b9.block g hg) hsm1 (fun p hp => ?_) (fun p hp q hq => ?_) (fun p hp g e => ?_) (F8.thenB b9) (by omega) (by omega) (by omega)).mono ?_
    · omega
    · have := R.h; show B.h.length ≤ _; omega
    · show (B.l ++ E8).length ≤ _; rw [List.length_append]; omega
    · have := R.s; show B.s.length ≤ _; omega
    · have := R.r; show B.r.length ≤ _; omega
    · exact hsmH.out p.1 (by rw [← hmapH.out]; exact List.mem_map_of_mem hp)
    · cases hv1 : p.1.ownBlock with
      | none => exact .inl rfl
      | some g =>
        right
        intro e
        have h2 := hqb q hq g e.symm
        rcases List.mem_append.1 (show p ∈ B.l ++ E8 from hp) with hp | hp
        · have h1 := ((K.l.ok p hp).lt g hv1).1
          omega
        · rcases E3 p hp g hv1 with h | h <;> omega
    · have := ((K.h.ok p hp).lt g e).1
      omega
    · rintro e w' ⟨rfl, x', B', k1, k2, k3⟩
      exact ⟨rfl, x', B', k1, ⟨by have := k2.c; omega, by have := k2.h; omega, by have := k2.l; omega, by have := k2.s; omega, by have := k2.r; omega⟩, k3⟩
  have e0 : ∀ x : Int, (x == x) = true := by simp
  clear hcall r1 r2 hso hso8 hR8 K K0 hmapH hsmH hNH hK8 b0 b1 b2 b3 b4 b5 b6 b7 b9 b02 b04 b46 b36 b07 b37 b17 hslH R
  go_wp2_with fail
  refine hpc.out.mono ?_
  rintro e W10 ⟨rfl, hR⟩
  have hRH : Hid _ := hR
  clear hR hpc
  go_wp2_with fail
  go_ret
  exact ⟨by first | rfl | simp, hRH.out⟩
end Go.Proofs.YtcclgodahlinbaaGreatDoor
namespace Go.Proofs.YtcclgodahlinbaaGreatDoor
open Go.RowKit Go
set_option maxRecDepth 100000
def diffI (a b : ByteArray) (c : Int) : List HI := (diffR a b c).map HI.ofM
theorem diffI_lim (a b : ByteArray) (c : Int) : Lim (diffI a b c) := diffR_lim a b c
theorem diffI_len (a b : ByteArray) (c : Int) : (diffI a b c).length ≤ 402 := by unfold diffI; rw [List.length_map]; exact (diffR_small a b c).1
theorem refDiff_stays {a b : ByteArray} {c : Int} {w : World} (h1 : a.size ≤ 4000000000) (h2 : b.size ≤ 4000000000) :
    Calls Tryz.prog 20 #[.string a, .string b, .int .i64 c] w fun e w' => ∃ al cl, e = .returned (.tuple #[.agg #[.slice al (diffI a b c).length cl], .int .i64 (checkB a b c)]) ∧ Hid (∀ base, Stays base w' (.slice al (diffI a b c).length cl) (diffI a b c)) ∧ Below w.heap.size w w' :=
  (refDiff_own h1 h2).mono fun _ _ ⟨al, cl, e, h, b⟩ => ⟨al, cl, by rw [e]; unfold diffI; rw [List.length_map], by show ∀ base, _; intro base; unfold diffI; rw [List.length_map]; exact h.stays, b⟩
theorem After.pre {base wb M M' : Nat} {w w1 w2 : World} (F : Frame base w w1 (fun _ => False)) (h : After base wb M w1 w2) (hM : M ≤ M') : After base wb M' w w2 := by
  obtain ⟨x', B', k1, k2, k3⟩ := h
  exact ⟨x', B', k1, ⟨Nat.le_trans k2.c hM, Nat.le_trans k2.h hM, Nat.le_trans k2.l hM, Nat.le_trans k2.s hM, Nat.le_trans k2.r hM⟩, F.then k3⟩
theorem Frame.under {base : Nat} {w w' : World} (F : Frame base w w' (fun _ => False)) (hb : base ≤ w.heap.size) : Below base w w' :=
  ⟨F.2.2.1, F.2.2.2.1, F.2.2.2.2, F.1, fun g hg => F.low (fun _ h => h.elim) hg (by omega)⟩
theorem GlobP.frame {base : Nat} {w w' : World} (h : GlobP w) (F : Frame base w w' (fun _ => False)) (hb : base ≤ w.heap.size) (h6 : 6 ≤ base) : GlobP w' := h.below (F.under hb) h6 F.1
set_option maxHeartbeats 4000000 in
theorem step_write {base wb M : Nat} {x : WV} {B : Bk} {w : World} {kd n : Int} {a b : ByteArray} {ap : Option Addr} {cp : Nat} {hs : List HI} (k3 : kd = 3) (K : Kept base wb x B w) (R : Room M x B) (hM : M ≤ 590000000000) (hg : GlobP w) (hbase : base ≤ w.heap.size) (h6 : 6 ≤ base)
    (h1 : a.size ≤ 4000000000) (h2 : b.size ≤ 4000000000) (S : Stays base w (.slice ap hs.length cp) hs) (hL : Lim hs) :
    Calls Tryz.prog 21 #[.pointer (some ⟨wb, 0, none⟩), .agg #[.int .i64 kd, .int .i64 n, .string a, .string b, .slice ap hs.length cp]] w fun e w' => e = .returned (.bool true) ∧ After base wb (M + 2600000) w w' := by
  have hlh := hL.1
  obtain ⟨W0, hW0⟩ : ∃ W0, w.alloc (.cells #[.int .i64 kd, .int .i64 n, .string a, .string b, .slice ap hs.length cp] 57) = W0 := ⟨_, rfl⟩
  have b0 : Below w.heap.size w W0 := by rw [← hW0]; exact (Below.refl _ _).alloc (Nat.le_refl _) _
  have z0 : W0.heap.size = w.heap.size + 1 := by rw [← hW0]; simp
  have hO0 : W0.heap[w.heap.size]? = some (.cells #[.int .i64 kd, .int .i64 n, .string a, .string b, .slice ap hs.length cp] 57 (0, 0)) := by rw [← hW0]; exact heap_alloc_new w _
  have o0 : W0.cell? ⟨w.heap.size, 0, none⟩ = some (.int .i64 kd) := cell_of hO0 rfl
  have o1 : W0.cell? ⟨w.heap.size, 1, none⟩ = some (.int .i64 n) := cell_of hO0 rfl
  have o2 : W0.cell? ⟨w.heap.size, 2, none⟩ = some (.string a) := cell_of hO0 rfl
  have o3 : W0.cell? ⟨w.heap.size, 3, none⟩ = some (.string b) := cell_of hO0 rfl
  have hrd := refDiff_stays (a := a) (b := b) (c := n) (w := W0) h1 h2
  have hql := diffI_lim a b n
  have hqn := diffI_len a b n
  generalize diffI a b n = qs at *
  generalize checkB a b n = ck at *
  have q1 : (kd == 1) = false := by simp [k3]
  have q2 : (kd == 2) = false := by simp [k3]
  have q3 : (kd == 3) = true := by simp [k3]
  clear k3
  go_enter Tryz.func21, Tryz.ntmps21
  go_wp2_with fail
  clear hW0
  refine hrd.mono ?_
  rintro e W1 ⟨aq, cq, rfl, hSq, b1⟩
  have z1 := b1.size
  obtain ⟨W2, hW2⟩ : ∃ W2, W1.alloc (.cells #[.slice aq qs.length cq] 32) = W2 := ⟨_, rfl⟩
  have b2 : Below W1.heap.size W1 W2 := by rw [← hW2]; exact (Below.refl _ _).alloc (Nat.le_refl _) _
  have z2 : W2.heap.size = W1.heap.size + 1 := by rw [← hW2]; simp
  have hP2 : W2.heap[W1.heap.size]? = some (.cells #[.slice aq qs.length cq] 32 (0, 0)) := by rw [← hW2]; exact heap_alloc_new W1 _
  have b02 := b1.trans (b2.mono z1)
  have bw2 := b0.trans (b02.mono (by omega))
  have c4 : W2.cell? ⟨w.heap.size, 4, none⟩ = some (.slice ap hs.length cp) := cell_of ((b02.block w.heap.size (by omega)).trans hO0) rfl
  have S2 := (hSq.out base).on (Frame.of_below (base := base) b2) (fun _ h => h.elim)
  have hw1 := writes_ok (K.old (W' := W2) fun g hg => bw2.block g hg) R (by omega) (hg.next bw2) (by omega) (S.on (Frame.of_below (base := base) bw2) (fun _ h => h.elim)) hL
  have g2 := hg.next bw2
  clear o0 o1 o2 o3 hrd hSq
  go_wp2_with fail
  clear hW2
  refine hw1.mono ?_
  rintro e W3 ⟨rfl, hR3⟩
  have hP3 : Hid (W3.heap[W1.heap.size]? = some (.cells #[.slice aq qs.length cq] 32 (0, 0)) ∧ Calls Tryz.prog 42 #[.pointer (some ⟨wb, 0, none⟩), .agg #[.slice aq qs.length cq]] W3 fun e w' => e = .returned (.bool true) ∧ After base wb (M + 2600000) w w') := by
    obtain ⟨x3, B3, K3, R3, F3⟩ := hR3
    have z3 := F3.1
    refine ⟨(F3.at hP2 (by decide) (fun h => h)).trans hP2, ?_⟩
    refine (writes_ok K3 R3 (by omega) (g2.frame F3 (by omega) h6) (by omega) (S2.on F3 (fun _ h => h.elim)) hql).mono ?_
    rintro e w' ⟨rfl, hR⟩
    exact ⟨rfl, hR.pre ((Frame.of_below (base := base) bw2).then F3) (by omega)⟩
  have c3 : W3.cell? ⟨W1.heap.size, 0, none⟩ = some (.slice aq qs.length cq) := cell_of hP3.out.1 rfl
  have hw2 : Hid (Calls Tryz.prog 42 #[.pointer (some ⟨wb, 0, none⟩), .agg #[.slice aq qs.length cq]] W3 fun e w' => e = .returned (.bool true) ∧ After base wb (M + 2600000) w w') := hP3.out.2
  clear hR3 hw1 c4 hP3 S2 S K R g2 hg hP2 hO0
  go_wp2_with fail
  refine hw2.out.mono ?_
  rintro e W4 ⟨rfl, hR⟩
  have hRH : Hid _ := hR
  clear hR hw2 c3
  go_wp2_with fail
  go_ret
  exact ⟨by first | rfl | simp, hRH.out⟩
set_option maxHeartbeats 4000000 in
theorem step_reverse {base wb M : Nat} {x : WV} {B : Bk} {w : World} {kd n : Int} {a b : ByteArray} {ap : Option Addr} {cp : Nat} {hs : List HI} (k5 : kd = 5) (K : Kept base wb x B w) (R : Room M x B) (hM : M ≤ 590000000000) (hbase : base ≤ w.heap.size)
    (h1 : a.size ≤ 4000000000) (h2 : b.size ≤ 4000000000) (S : Stays base w (.slice ap hs.length cp) hs) (hL : Lim hs) :
    Calls Tryz.prog 21 #[.pointer (some ⟨wb, 0, none⟩), .agg #[.int .i64 kd, .int .i64 n, .string a, .string b, .slice ap hs.length cp]] w fun e w' => e = .returned (.bool true) ∧ After base wb (M + 2600000) w w' := by
  have hlh := hL.1
  obtain ⟨W0, hW0⟩ : ∃ W0, w.alloc (.cells #[.int .i64 kd, .int .i64 n, .string a, .string b, .slice ap hs.length cp] 57) = W0 := ⟨_, rfl⟩
  have b0 : Below w.heap.size w W0 := by rw [← hW0]; exact (Below.refl _ _).alloc (Nat.le_refl _) _
  have z0 : W0.heap.size = w.heap.size + 1 := by rw [← hW0]; simp
  have hO0 : W0.heap[w.heap.size]? = some (.cells #[.int .i64 kd, .int .i64 n, .string a, .string b, .slice ap hs.length cp] 57 (0, 0)) := by rw [← hW0]; exact heap_alloc_new w _
  have o0 : W0.cell? ⟨w.heap.size, 0, none⟩ = some (.int .i64 kd) := cell_of hO0 rfl
  have o1 : W0.cell? ⟨w.heap.size, 1, none⟩ = some (.int .i64 n) := cell_of hO0 rfl
  have o2 : W0.cell? ⟨w.heap.size, 2, none⟩ = some (.string a) := cell_of hO0 rfl
  have o3 : W0.cell? ⟨w.heap.size, 3, none⟩ = some (.string b) := cell_of hO0 rfl
  have hrd := refDiff_stays (a := a) (b := b) (c := n) (w := W0) h1 h2
  have hql := diffI_lim a b n
  have hqn := diffI_len a b n
  generalize diffI a b n = qs at *
  generalize checkB a b n = ck at *
  have q1 : (kd == 1) = false := by simp [k5]
  have q2 : (kd == 2) = false := by simp [k5]
  have q3 : (kd == 3) = false := by simp [k5]
  have q4 : (kd == 4) = false := by simp [k5]
  have q5 : (kd == 5) = true := by simp [k5]
  clear k5
  go_enter Tryz.func21, Tryz.ntmps21
  go_wp2_with fail
  clear hW0
  refine hrd.mono ?_
  rintro e W1 ⟨aq, cq, rfl, hSq, b1⟩
  have z1 := b1.size
  obtain ⟨W2, hW2⟩ : ∃ W2, W1.alloc (.cells #[.slice aq qs.length cq] 32) = W2 := ⟨_, rfl⟩
  have b2 : Below W1.heap.size W1 W2 := by rw [← hW2]; exact (Below.refl _ _).alloc (Nat.le_refl _) _
  have z2 : W2.heap.size = W1.heap.size + 1 := by rw [← hW2]; simp
  have hP2 : W2.heap[W1.heap.size]? = some (.cells #[.slice aq qs.length cq] 32 (0, 0)) := by rw [← hW2]; exact heap_alloc_new W1 _
  have b02 := b1.trans (b2.mono z1)
  have bw2 := b0.trans (b02.mono (by omega))
  have c4 : W2.cell? ⟨w.heap.size, 4, none⟩ = some (.slice ap hs.length cp) := cell_of ((b02.block w.heap.size (by omega)).trans hO0) rfl
  have S2 := (hSq.out base).on (Frame.of_below (base := base) b2) (fun _ h => h.elim)
  have hw1 := reverses_ok (K.old (W' := W2) fun g hg => bw2.block g hg) R (by omega) (by omega) (S.on (Frame.of_below (base := base) bw2) (fun _ h => h.elim)) hL
  clear o0 o1 o2 o3 hrd hSq
  go_wp2_with fail
  clear hW2
  refine hw1.mono ?_
  rintro e W3 ⟨rfl, hR3⟩
  have hP3 : Hid (W3.heap[W1.heap.size]? = some (.cells #[.slice aq qs.length cq] 32 (0, 0)) ∧ Calls Tryz.prog 45 #[.pointer (some ⟨wb, 0, none⟩), .agg #[.slice aq qs.length cq]] W3 fun e w' => e = .returned (.bool true) ∧ After base wb (M + 2600000) w w') := by
    obtain ⟨x3, B3, K3, R3, F3⟩ := hR3
    have z3 := F3.1
    refine ⟨(F3.at hP2 (by decide) (fun h => h)).trans hP2, ?_⟩
    refine (reverses_ok K3 R3 (by omega) (by omega) (S2.on F3 (fun _ h => h.elim)) hql).mono ?_
    rintro e w' ⟨rfl, hR⟩
    exact ⟨rfl, hR.pre ((Frame.of_below (base := base) bw2).then F3) (by omega)⟩
  have c3 : W3.cell? ⟨W1.heap.size, 0, none⟩ = some (.slice aq qs.length cq) := cell_of hP3.out.1 rfl
  have hw2 : Hid (Calls Tryz.prog 45 #[.pointer (some ⟨wb, 0, none⟩), .agg #[.slice aq qs.length cq]] W3 fun e w' => e = .returned (.bool true) ∧ After base wb (M + 2600000) w w') := hP3.out.2
  clear hR3 hw1 c4 hP3 S2 S K R hP2 hO0
  go_wp2_with fail
  refine hw2.out.mono ?_
  rintro e W4 ⟨rfl, hR⟩
  have hRH : Hid _ := hR
  clear hR hw2 c3
  go_wp2_with fail
  go_ret
  exact ⟨by first | rfl | simp, hRH.out⟩
set_option maxHeartbeats 4000000 in
theorem step_read {base wb M : Nat} {x : WV} {B : Bk} {w : World} {kd n : Int} {a b : ByteArray} {ap : Option Addr} {cp : Nat} {hs : List HI} (k4 : kd = 4) (K : Kept base wb x B w) (R : Room M x B) (hM : M ≤ 590000000000) (hg : GlobP w) (hbase : base ≤ w.heap.size) (h6 : 6 ≤ base)
    (h1 : a.size ≤ 4000000000) (h2 : b.size ≤ 4000000000) :
    Calls Tryz.prog 21 #[.pointer (some ⟨wb, 0, none⟩), .agg #[.int .i64 kd, .int .i64 n, .string a, .string b, .slice ap hs.length cp]] w fun e w' => e = .returned (.bool true) ∧ After base wb (M + 2600000) w w' := by
  obtain ⟨W0, hW0⟩ : ∃ W0, w.alloc (.cells #[.int .i64 kd, .int .i64 n, .string a, .string b, .slice ap hs.length cp] 57) = W0 := ⟨_, rfl⟩
  have b0 : Below w.heap.size w W0 := by rw [← hW0]; exact (Below.refl _ _).alloc (Nat.le_refl _) _
  have z0 : W0.heap.size = w.heap.size + 1 := by rw [← hW0]; simp
  have hO0 : W0.heap[w.heap.size]? = some (.cells #[.int .i64 kd, .int .i64 n, .string a, .string b, .slice ap hs.length cp] 57 (0, 0)) := by rw [← hW0]; exact heap_alloc_new w _
  have o0 : W0.cell? ⟨w.heap.size, 0, none⟩ = some (.int .i64 kd) := cell_of hO0 rfl
  have o1 : W0.cell? ⟨w.heap.size, 1, none⟩ = some (.int .i64 n) := cell_of hO0 rfl
  have o2 : W0.cell? ⟨w.heap.size, 2, none⟩ = some (.string a) := cell_of hO0 rfl
  have o3 : W0.cell? ⟨w.heap.size, 3, none⟩ = some (.string b) := cell_of hO0 rfl
  have hrd := refDiff_stays (a := a) (b := b) (c := n) (w := W0) h1 h2
  have hql := diffI_lim a b n
  generalize diffI a b n = qs at *
  generalize checkB a b n = ck at *
  have hws := writeA_size qs
  have q1 : (kd == 1) = false := by simp [k4]
  have q2 : (kd == 2) = false := by simp [k4]
  have q3 : (kd == 3) = false := by simp [k4]
  have q4 : (kd == 4) = true := by simp [k4]
  clear k4
  go_enter Tryz.func21, Tryz.ntmps21
  go_wp2_with fail
  clear hW0
  refine hrd.mono ?_
  rintro e W1 ⟨aq, cq, rfl, hSq, b1⟩
  have z1 := b1.size
  obtain ⟨W2, hW2⟩ : ∃ W2, W1.alloc (.cells #[.slice aq qs.length cq] 32) = W2 := ⟨_, rfl⟩
  have b2 : Below W1.heap.size W1 W2 := by rw [← hW2]; exact (Below.refl _ _).alloc (Nat.le_refl _) _
  have z2 : W2.heap.size = W1.heap.size + 1 := by rw [← hW2]; simp
  have hP2 : W2.heap[W1.heap.size]? = some (.cells #[.slice aq qs.length cq] 32 (0, 0)) := by rw [← hW2]; exact heap_alloc_new W1 _
  have p2 : W2.cell? ⟨W1.heap.size, 0, none⟩ = some (.slice aq qs.length cq) := cell_of hP2 rfl
  have b02 := b1.trans (b2.mono z1)
  have S2 := (hSq.out base).on (Frame.of_below (base := base) b2) (fun _ h => h.elim)
  have hw1 := refWrite_any (w := W2) S2.now hql
  clear o0 o1 o2 o3 hrd hSq
  generalize writeA qs = WA at *
  go_wp2_with fail
  clear hW2
  refine hw1.mono ?_
  rintro e W3 ⟨rfl, b3⟩
  have z3 := b3.size
  have b03 := b02.trans (b3.mono (by omega))
  have bw3 := b0.trans (b03.mono (by omega))
  have hO3 := (b03.block w.heap.size (by omega)).trans hO0
  have c2 : W3.cell? ⟨w.heap.size, 2, none⟩ = some (.string a) := cell_of hO3 rfl
  have g3 := hg.next bw3
  have hr1 := reads_ok (s := a) (K.old (W' := W3) fun g hg => bw3.block g hg) R (by omega) g3 (by omega) h1
  clear hw1 S2 p2 hP2 hO0 hO3
  go_wp2_with fail
  refine hr1.mono ?_
  rintro e W4 ⟨rfl, hR4⟩
  have hw2 : Hid (Calls Tryz.prog 44 #[.pointer (some ⟨wb, 0, none⟩), .string WA.1] W4 fun e w' => e = .returned (.bool true) ∧ After base wb (M + 2600000) w w') := by
    obtain ⟨x4, B4, K4, R4, F4⟩ := hR4
    have z4 := F4.1
    refine (reads_ok K4 R4 (by omega) (g3.frame F4 (by omega) h6) (by omega) (by omega)).mono ?_
    rintro e w' ⟨rfl, hR⟩
    exact ⟨rfl, hR.pre ((Frame.of_below (base := base) bw3).then F4) (by omega)⟩
  clear hR4 hr1 c2 K R g3 hg
  go_wp2_with fail
  refine hw2.out.mono ?_
  rintro e W5 ⟨rfl, hR⟩
  have hRH : Hid _ := hR
  clear hR hw2
  go_wp2_with fail
  go_ret
  exact ⟨by first | rfl | simp, hRH.out⟩
theorem step5_ok {base wb M : Nat} {x : WV} {B : Bk} {w : World} {kd n m : Int} {a b : ByteArray} {ap : Option Addr} {cp : Nat} {hs : List HI} (hk : kd ≤ 5) (K : Kept base wb x B w) (R : Room M x B) (hM : M ≤ 590000000000) (hm : w.cell? ⟨0, 0, none⟩ = some (.int .i64 m)) (hg : GlobP w) (hbase : base ≤ w.heap.size) (h6 : 6 ≤ base)
    (h1 : a.size ≤ 4000000000) (h2 : b.size ≤ 4000000000) (S : Stays base w (.slice ap hs.length cp) hs) (hL : Lim hs) :
    Calls Tryz.prog 21 #[.pointer (some ⟨wb, 0, none⟩), .agg #[.int .i64 kd, .int .i64 n, .string a, .string b, .slice ap hs.length cp]] w fun e w' => e = .returned (.bool true) ∧ After base wb (M + 2600000) w w' := by
  by_cases k2 : kd ≤ 2
  · refine (step2_ok (kd := kd) (n := n) (m := m) (a := a) (b := b) (ap := ap) (np := hs.length) (cp := cp) k2 K R (by omega) hm hbase h1 h2).mono ?_
    rintro e w' ⟨rfl, hR⟩
    exact ⟨rfl, After.pre (M := M + 2000) (Frame.refl base w) hR (by omega)⟩
  by_cases k3 : kd = 3
  · exact step_write k3 K R hM hg hbase h6 h1 h2 S hL
  by_cases k4 : kd = 4
  · exact step_read k4 K R hM hg hbase h6 h1 h2
  · exact step_reverse (by omega) K R hM hbase h1 h2 S hL
end Go.Proofs.YtcclgodahlinbaaGreatDoor
namespace Go.Proofs.YtcclgodahlinbaaGreatDoor
open Go.RowKit Go
set_option maxRecDepth 100000
abbrev tA : ByteArray := ⟨#[97, 10, 98, 10, 99, 10, 100, 10]⟩
abbrev tB : ByteArray := ⟨#[97, 10, 120, 10, 99, 10, 100, 10]⟩
theorem check_t : checkB tA tB 1 = 0 := by decide +kernel
def wv0 : WV := ⟨.slice none 0 0, .slice none 0 0, .slice none 0 0, .slice none 0 0, .slice none 0 0, .slice none 0 0, .slice none 0 0, .slice none 0 0, 0⟩
def bk0 : Bk := ⟨[], [], [], []⟩
theorem Kept.start {W : World} {wb : Nat} (h : W.heap[wb]? = some wv0.obj) : Kept wb wb wv0 bk0 W := by
  have key : ∀ (rowT markT T k : Nat) (pat : Value → List Value), KeptK wb rowT markT T k pat (.slice none 0 0) (.slice none 0 0) [] W := fun rowT markT T k pat =>
    ⟨World.ownsRow_nil _ _ _ _, World.ownsRow_nil _ _ _ _, fun p hp => (by cases hp), fun p hp => (by cases hp)⟩
  exact ⟨h, key _ _ _ _ _, key _ _ _ _ _, key _ _ _ _ _, key _ _ _ _ _, .inl rfl, .inl rfl, Nat.le_refl _⟩
end Go.Proofs.YtcclgodahlinbaaGreatDoor
namespace Go.Proofs.YtcclgodahlinbaaGreatDoor
open Go.RowKit Go
set_option maxRecDepth 100000
def ScriptP (w : World) (v : Value) (n : Nat) : Prop :=
  (n = 0 ∧ ∃ a c, v = .slice a 0 c) ∨ ∃ b off cap, v = .slice (some ⟨b, off, none⟩) n cap ∧ b < w.heap.size ∧ ∀ i, i < n → ∃ (kd nn : Int) (x y : ByteArray) (ap : Option Addr) (cp : Nat) (hs : List HI), w.cell? ⟨b, off + i * 5, none⟩ = some (.int .i64 kd) ∧ w.cell? ⟨b, off + i * 5 + 1, none⟩ = some (.int .i64 nn) ∧
    w.cell? ⟨b, off + i * 5 + 2, none⟩ = some (.string x) ∧ w.cell? ⟨b, off + i * 5 + 3, none⟩ = some (.string y) ∧ w.cell? ⟨b, off + i * 5 + 4, none⟩ = some (.slice ap hs.length cp) ∧ x.size ≤ 4000000000 ∧ y.size ≤ 4000000000 ∧ HIAt w.heap.size w (.slice ap hs.length cp) hs ∧ Lim hs
theorem still_after {base wb M M' : Nat} {w w' : World} (h : After base wb M w w') (hM : M ≤ 620000000000) (hM' : M ≤ M') {w0 : World} (F : Frame base w0 w (fun _ => False)) :
    Calls Tryz.prog 22 #[.pointer (some ⟨wb, 0, none⟩)] w' fun e w'' => e = .returned (.bool true) ∧ After base wb M' w0 w'' := by
  obtain ⟨x', B', k1, k2, k3⟩ := h
  refine (still_ok k1 (by have := k2.h; omega) (by have := k2.l; omega) (by have := k2.s; omega) (by have := k2.r; omega)).mono ?_
  rintro e w'' ⟨rfl, hb2⟩
  exact ⟨rfl, x', B', k1.old fun g hg => hb2.block g hg, ⟨by have := k2.c; omega, by have := k2.h; omega, by have := k2.l; omega, by have := k2.s; omega, by have := k2.r; omega⟩, (F.then k3).thenB hb2⟩
set_option maxHeartbeats 8000000 in
theorem played5_any {w : World} {aS : Option Addr} {n cs : Nat} {m : Int} (hS : ScriptP w (.slice aS n cs) n) (hn : n ≤ 200000) (hm : w.cell? ⟨0, 0, none⟩ = some (.int .i64 m)) (hgp : GlobP w) :
    Calls Tryz.prog 8 #[.slice aS n cs, .int .i64 5] w fun e w' => e = .returned (.bool true) ∧ Below w.heap.size w w' := by
  have hmlt := World.block_lt_of_cell? _ _ hm
  have h6 := hgp.sz
  have hwb : Hid (∀ W, Below w.heap.size w W → W.cell? ⟨0, 0, none⟩ = some (.int .i64 m) ∧ GlobP W) := fun W hb => ⟨(hb.cell (p := ⟨0, 0, none⟩) hmlt).trans hm, hgp.next hb⟩
  obtain ⟨W1, hW1⟩ : ∃ W1, w.alloc (.cells #[.slice none 0 0, .slice none 0 0, .slice none 0 0, .slice none 0 0, .slice none 0 0, .slice none 0 0, .slice none 0 0, .slice none 0 0, .int .i64 0] 55) = W1 := ⟨_, rfl⟩
  have b1 : Below w.heap.size w W1 := by rw [← hW1]; exact (Below.refl _ _).alloc (Nat.le_refl _) _
  have z1 : W1.heap.size = w.heap.size + 1 := by rw [← hW1]; simp
  have hk1 : W1.heap[w.heap.size]? = some wv0.obj := by rw [← hW1]; exact heap_alloc_new w _
  have K1 := Kept.start hk1
  have hck := check_t
  have hrd := refDiff_stays (a := tA) (b := tB) (c := 1) (w := W1) (by decide) (by decide)
  have hqlim := diffI_lim tA tB 1
  rw [hck] at hrd
  generalize (diffI tA tB 1) = qs at hrd hqlim
  have hql : Hid (Lim qs) := hqlim
  clear hgp hqlim
  go_enter Tryz.func8, Tryz.ntmps8
  go_wp2_with fail
  clear hW1
  refine hrd.mono ?_
  rintro e W2 ⟨ap, cp, rfl, hSq, b2⟩
  have z2 := b2.size
  obtain ⟨W3, hW3⟩ : ∃ W3, W2.alloc (.cells #[.slice ap qs.length cp] 32) = W3 := ⟨_, rfl⟩
  have b23 : Below W2.heap.size W2 W3 := by rw [← hW3]; exact (Below.refl _ _).alloc (Nat.le_refl _) _
  have b3 : Below W1.heap.size W1 W3 := b2.trans (b23.mono z2)
  have z3 : W3.heap.size = W2.heap.size + 1 := by rw [← hW3]; simp
  have hp3 : W3.heap[W2.heap.size]? = some (.cells #[.slice ap qs.length cp] 32 (0, 0)) := by rw [← hW3]; exact heap_alloc_new W2 _
  have hSp : Hid (Stays w.heap.size W3 (.slice ap qs.length cp) qs) := (hSq.out w.heap.size).on (Frame.of_below (base := w.heap.size) b23) (fun _ h => h.elim)
  have K3 : Kept w.heap.size w.heap.size wv0 bk0 W3 := K1.old fun g hg => b3.block g hg
  have F3 : Frame w.heap.size w W3 (fun _ => False) := Frame.of_below (b1.trans (b3.mono (by omega)))
  have hst : Hid (After w.heap.size w.heap.size 0 w W3) := ⟨wv0, bk0, K3, ⟨Nat.le_refl _, Nat.le_refl _, Nat.le_refl _, Nat.le_refl _, Nat.le_refl _⟩, F3⟩
  have hsp3 : Hid (After w.heap.size w.heap.size 0 w W3 ∧ Stays w.heap.size W3 (.slice ap qs.length cp) qs) := ⟨hst.out, hSp.out⟩
  obtain ⟨pb, hpb⟩ : ∃ pb, W2.heap.size = pb := ⟨_, rfl⟩
  clear hrd K1 hk1 hck hSq hSp hst
  go_wp2_with fail
  rw [hpb] at hp3
  clear hW3 K3 F3 hpb
  go_loopg [8, 9] 5 (fun g t8 t9 wk => ∃ k : Nat, g = 6 - k ∧ 1 ≤ k ∧ k ≤ 6 ∧ t8 = .bool true ∧ t9 = .int .i64 k ∧ Hid (After w.heap.size w.heap.size (2600000 * (k - 1)) w wk ∧ Stays w.heap.size wk (.slice ap qs.length cp) qs) ∧ wk.heap[pb]? = some (.cells #[.slice ap qs.length cp] 32 (0, 0)))
  case atStart => exact ⟨1, rfl, by omega, by omega, by first | rfl | simp, rfl, hsp3, hp3⟩
  case round =>
    rename World => wk
    obtain ⟨k, hgk, hk1, hk3, rfl, rfl, hI, hpk⟩ := hrel
    have hG : Hid (_ = 6 - k) := hgk
    clear hgk hsp3 hp3
    have pk : wk.cell? ⟨pb, 0, none⟩ = some (.slice ap qs.length cp) := cell_of hpk rfl
    have hpbk : pb < wk.heap.size := (Array.getElem?_eq_some_iff.1 hpk).1
    have hcallH : Hid (∀ (A B2 : ByteArray) (Wo : World), Below wk.heap.size wk Wo → k ≤ 5 → A.size ≤ 4000000000 → B2.size ≤ 4000000000 → Calls Tryz.prog 21 #[.pointer (some ⟨w.heap.size, 0, none⟩), .agg #[.int .i64 (k : Int), .int .i64 1, .string A, .string B2, .slice ap qs.length cp]] Wo fun e w' => e = .returned (.bool true) ∧ Hid (After w.heap.size w.heap.size (2600000 * (k + 1 - 1)) w w' ∧ Stays w.heap.size w' (.slice ap qs.length cp) qs) ∧ w'.heap[pb]? = some (.cells #[.slice ap qs.length cp] 32 (0, 0))) := by
      intro A B2 Wo bo hk hA hB
      obtain ⟨⟨x, B, Kk, Rk, Fk⟩, Sk⟩ := hI.out
      have hbk := Fk.below (Nat.le_refl _)
      have hzk := Fk.1
      have zo := bo.size
      have hbo := hbk.trans (bo.mono hzk)
      have Fo := Frame.of_below (base := w.heap.size) bo
      have So := Sk.on Fo (fun _ h => h.elim)
      refine (step5_ok (kd := (k : Int)) (n := 1) (m := m) (a := A) (b := B2) (ap := ap) (cp := cp) (hs := qs) (by omega) (Kk.old (W' := Wo) fun g hg => bo.block g hg) Rk (by omega) (hwb.out Wo hbo).1 (hwb.out Wo hbo).2 (by omega) h6 hA hB So hql.out).mono ?_
      rintro e w' ⟨rfl, hR⟩
      have hpo := (bo.block pb hpbk).trans hpk
      obtain ⟨x', B', k1, k2, k3⟩ := hR
      refine ⟨rfl, ⟨After.pre (M := 2600000 * (k - 1) + 2600000) (Fk.then Fo) ⟨x', B', k1, k2, k3⟩ (by omega), So.on k3 (fun _ h => h.elim)⟩, (k3.at hpo (by decide) (fun h => h)).trans hpo⟩
    by_cases hk : k ≤ 5
    · have hkI : (k : Int) ≤ 5 := by omega
      by_cases hk1' : k = 2
      · obtain rfl : k = 2 := by omega
        obtain ⟨Wo, hWo⟩ : ∃ Wo, wk.alloc (.cells #[.int .i64 2, .int .i64 1, .string ⟨#[99, 97, 102, 101]⟩, .string ⟨#[99, 97, 116]⟩, .slice ap qs.length cp] 57) = Wo := ⟨_, rfl⟩
        have bo : Below wk.heap.size wk Wo := by rw [← hWo]; exact (Below.refl _ _).alloc (Nat.le_refl _) _
        have zo : Wo.heap.size = wk.heap.size + 1 := by rw [← hWo]; simp
        have hOo : Wo.heap[wk.heap.size]? = some (.cells #[.int .i64 2, .int .i64 1, .string ⟨#[99, 97, 102, 101]⟩, .string ⟨#[99, 97, 116]⟩, .slice ap qs.length cp] 57 (0, 0)) := by rw [← hWo]; exact heap_alloc_new wk _
        have o0 : Wo.cell? ⟨wk.heap.size, 0, none⟩ = some (.int .i64 2) := cell_of hOo rfl
        have o1 : Wo.cell? ⟨wk.heap.size, 1, none⟩ = some (.int .i64 1) := cell_of hOo rfl
        have o2 : Wo.cell? ⟨wk.heap.size, 2, none⟩ = some (.string ⟨#[99, 97, 102, 101]⟩) := cell_of hOo rfl
        have o3 : Wo.cell? ⟨wk.heap.size, 3, none⟩ = some (.string ⟨#[99, 97, 116]⟩) := cell_of hOo rfl
        have o4 : Wo.cell? ⟨wk.heap.size, 4, none⟩ = some (.slice ap qs.length cp) := cell_of hOo rfl
        have hcall := hcallH.out ⟨#[99, 97, 102, 101]⟩ ⟨#[99, 97, 116]⟩ Wo bo (by decide) (by decide) (by decide)
        clear hI hOo hcallH
        go_wp2_with fail
        clear hWo
        refine hcall.mono ?_
        rintro e W5 ⟨rfl, hR, hpk5⟩
        clear hcall
        go_wp2_with fail
        go_roundg (6 - (2 + 1))
        · exact ⟨2 + 1, rfl, by omega, by omega, rfl, by push_cast; rfl, hR, hpk5⟩
        · have := hG.out; omega
      · have hne : ((k : Int) == 2) = false := by rw [beq_eq_false_iff_ne]; omega
        obtain ⟨Wo, hWo⟩ : ∃ Wo, wk.alloc (.cells #[.int .i64 (k : Int), .int .i64 1, .string tA, .string tB, .slice ap qs.length cp] 57) = Wo := ⟨_, rfl⟩
        have bo : Below wk.heap.size wk Wo := by rw [← hWo]; exact (Below.refl _ _).alloc (Nat.le_refl _) _
        have zo : Wo.heap.size = wk.heap.size + 1 := by rw [← hWo]; simp
        have hOo : Wo.heap[wk.heap.size]? = some (.cells #[.int .i64 (k : Int), .int .i64 1, .string tA, .string tB, .slice ap qs.length cp] 57 (0, 0)) := by rw [← hWo]; exact heap_alloc_new wk _
        have o0 : Wo.cell? ⟨wk.heap.size, 0, none⟩ = some (.int .i64 (k : Int)) := cell_of hOo rfl
        have o1 : Wo.cell? ⟨wk.heap.size, 1, none⟩ = some (.int .i64 1) := cell_of hOo rfl
        have o2 : Wo.cell? ⟨wk.heap.size, 2, none⟩ = some (.string tA) := cell_of hOo rfl
        have o3 : Wo.cell? ⟨wk.heap.size, 3, none⟩ = some (.string tB) := cell_of hOo rfl
        have o4 : Wo.cell? ⟨wk.heap.size, 4, none⟩ = some (.slice ap qs.length cp) := cell_of hOo rfl
        have hcall := hcallH.out tA tB Wo bo hk (by decide) (by decide)
        clear hI hOo hcallH hk1'
        go_wp2_with fail
        clear hWo
        refine hcall.mono ?_
        rintro e W5 ⟨rfl, hR, hpk5⟩
        clear hcall
        go_wp2_with fail
        go_roundg (6 - (k + 1))
        · exact ⟨k + 1, rfl, by omega, by omega, rfl, by push_cast; rfl, hR, hpk5⟩
        · have := hG.out; omega
    · obtain rfl : k = 6 := by omega
      clear hk pk hcallH
      have hI2 : Hid (After w.heap.size w.heap.size (13000000 + 2600000 * 0) w wk) := hI.out.1
      have hSH : Hid (ScriptP w (.slice aS n cs) n) := hS
      clear hI hpk hpbk hS b1 b2 b3 b23 z1 z2 z3
      go_wp2_with fail
      go_loopg [8, 11] n (fun g t8 t11 wq => ∃ i : Nat, g = n - i ∧ i ≤ n ∧ t8 = .bool true ∧ t11 = .int .i64 i ∧ Hid (After w.heap.size w.heap.size (13000000 + 2600000 * i) w wq))
      case atStart => exact ⟨0, by omega, by omega, rfl, rfl, hI2⟩
      case round =>
        rename World => wq
        obtain ⟨i, hgi, hin, rfl, rfl, hI3⟩ := hrel
        have hG2 : Hid (_ = n - i) := hgi
        clear hgi hI2
        by_cases hi : i < n
        · have hiI : (i : Int) < n := by omega
          obtain ⟨x, B, Kq, Rq, Fq⟩ := hI3.out
          have hbq := Fq.below (Nat.le_refl _)
          have hzq := Fq.1
          rcases hSH.out with ⟨h0, _⟩ | ⟨b, off, cap, e, hb, hc⟩
          · omega
          obtain ⟨rfl, rfl⟩ : aS = some ⟨b, off, none⟩ ∧ cs = cap := by cases e; exact ⟨rfl, rfl⟩
          obtain ⟨kd, nn, X, Y, ap2, cp2, hs2, c0, c1, c2, c3, c4, hx, hy, hH, hL⟩ := hc i hi
          have d0 := (hbq.cell (p := ⟨b, off + i * 5, none⟩) hb).trans c0
          have d1 := (hbq.cell (p := ⟨b, off + i * 5 + 1, none⟩) hb).trans c1
          have d2 := (hbq.cell (p := ⟨b, off + i * 5 + 2, none⟩) hb).trans c2
          have d3 := (hbq.cell (p := ⟨b, off + i * 5 + 3, none⟩) hb).trans c3
          have d4 := (hbq.cell (p := ⟨b, off + i * 5 + 4, none⟩) hb).trans c4
          clear c0 c1 c2 c3 c4 hc e
          by_cases hkd : kd ≤ 5
          · have hkI : ¬ 5 < kd := by omega
            have hcall : Hid (Calls Tryz.prog 21 #[.pointer (some ⟨w.heap.size, 0, none⟩), .agg #[.int .i64 kd, .int .i64 nn, .string X, .string Y, .slice ap2 hs2.length cp2]] wq fun e w' => e = .returned (.bool true) ∧ (Calls Tryz.prog 22 #[.pointer (some ⟨w.heap.size, 0, none⟩)] w' fun e w'' => e = .returned (.bool true) ∧ After w.heap.size w.heap.size (13000000 + 2600000 * (i + 1)) w w'')) := by
              have Sq := (Stays.of_low (base := w.heap.size) hH (Nat.le_refl _) (Nat.le_refl _)).on Fq (fun _ h => h.elim)
              refine (step5_ok (kd := kd) (n := nn) (m := m) (a := X) (b := Y) (ap := ap2) (cp := cp2) (hs := hs2) hkd Kq Rq (by omega) (hwb.out wq hbq).1 (hwb.out wq hbq).2 hzq h6 hx hy Sq hL).mono ?_
              rintro e w' ⟨rfl, hR⟩
              exact ⟨rfl, still_after hR (by omega) (by omega) Fq⟩
            clear Kq Rq Fq hI3 hH hL
            go_wp2_with fail
            refine hcall.out.mono ?_
            rintro e W5 ⟨rfl, hst⟩
            clear hcall
            go_wp2_with fail
            refine hst.mono ?_
            rintro e W6 ⟨rfl, hR⟩
            have hRH : Hid _ := hR
            clear hR hst
            go_wp2_with fail
            go_roundg (n - (i + 1))
            · exact ⟨i + 1, rfl, by omega, rfl, by push_cast; rfl, hRH⟩
            · have := hG2.out; omega
          · have hkI : 5 < kd := by omega
            have hRH : Hid (After w.heap.size w.heap.size (13000000 + 2600000 * (i + 1)) w wq) := ⟨x, B, Kq, ⟨by have := Rq.c; omega, by have := Rq.h; omega, by have := Rq.l; omega, by have := Rq.s; omega, by have := Rq.r; omega⟩, Fq⟩
            clear Kq Rq Fq hI3 hH hL
            go_wp2_with fail
            go_roundg (n - (i + 1))
            · exact ⟨i + 1, rfl, by omega, rfl, by push_cast; rfl, hRH⟩
            · have := hG2.out; omega
        · have hiI : ¬ ((i : Int) < n) := by omega
          obtain ⟨x, B, _, _, Fq⟩ := hI3.out
          have hfin : Hid (Below w.heap.size w wq) := Fq.below (Nat.le_refl _)
          clear Fq hI3
          go_wp2_with fail
          go_ret
          exact ⟨rfl, hfin.out⟩
theorem patches_any {w : World} {aS : Option Addr} {n cs : Nat} {m : Int} (hS : ScriptP w (.slice aS n cs) n) (hn : n ≤ 200000) (hm : w.cell? ⟨0, 0, none⟩ = some (.int .i64 m)) (hgp : GlobP w) :
    Calls Tryz.prog 4 #[.slice aS n cs] w fun e w' => e = .returned (.bool true) ∧ Below w.heap.size w w' := by
  have hp := played5_any hS hn hm hgp
  go_enter Tryz.func4, Tryz.ntmps4
  go_wp2_with fail
  refine hp.mono ?_
  rintro e w' ⟨rfl, hb⟩
  go_wp2_with fail
  go_ret
  exact ⟨rfl, hb⟩
end Go.Proofs.YtcclgodahlinbaaGreatDoor
namespace Go.Proofs.YtcclgodahlinbaaGreatDoor
open Go.RowKit Go
set_option maxRecDepth 100000
def cellOfD (d : DataW Unit) : List Value := match d with
  | .lit (.int k n) => [.int k n]
  | _ => []
def cellsOfD (d : DataW Unit) : List Value := match d with
  | .agg l => l.flatMap fun x => match x with
    | .agg m => m.flatMap cellOfD
    | y => cellOfD y
  | _ => []
abbrev synS : ByteArray := { data := #[105, 110, 118, 97, 108, 105, 100, 32, 115, 121, 110, 116, 97, 120] }
abbrev rngS : ByteArray := { data := #[118, 97, 108, 117, 101, 32, 111, 117, 116, 32, 111, 102, 32, 114, 97, 110, 103, 101] }
def heldZ : Input := ⟨#[.cells #[.string synS] 240, .cells #[.string rngS] 240], #[], []⟩
def withTables (w0 : World) : World :=
  let put (h : Array Obj) (g : Nat) (cs : Array Value) : Array Obj := h.modify g fun
    | .cells _ t frozen => .cells cs t frozen
    | o => o
  let h1 := put w0.heap 1 (Lib.firstTab.map fun z => Value.int .u8 z).toArray
  let h2 := put h1 2 (cellsOfD Rows.laid_unicode_utf8_acceptRanges).toArray
  let h3 := put h2 3 (cellsOfD Rows.laid_internal_strconv_uint64pow10).toArray
  let h4 := put h3 4 #[.iface 238 (.pointer (some ⟨w0.heap.size - 2, 0, none⟩))]
  let h5 := put h4 5 #[.iface 238 (.pointer (some ⟨w0.heap.size - 1, 0, none⟩))]
  let h6 := put h5 6 (cellsOfD Rows.laid_math_bits_deBruijn32tab).toArray
  let h7 := put h6 7 (cellsOfD Rows.laid_math_bits_deBruijn64tab).toArray
  { w0 with heap := h7 }
theorem laid_met (os : Os) (args : Array Value) : laidMetH Tryz.prog Rows.strictRow.laid ((withTables (World.holding Tryz.prog os heldZ)).forCall (fun _ _ => 0) ⟨#[], args, []⟩).memory :=
  laidMetH_of_parts (laidMet_of_run' 8 (by kernel_rfl) (by kernel_rfl)) (by kernel_rfl)
theorem ownK : ownKnob Tryz.prog.godebug = none := by kernel_rfl
theorem maxlen_of {W : World} (h : W.ShapedOpen Tryz.prog) : ∃ m, W.cell? ⟨0, 0, none⟩ = some (.int .i64 m) :=
  cell_of_shapedOpen_int (P := Tryz.prog) (g := 0) (t := 3) (zero := #[.int .i64 0]) h (of_decide_eq_true (by kernel_rfl)) (by kernel_rfl) rfl (by kernel_rfl) (by kernel_rfl) Tryz.underlying3
theorem cell_lt {w : World} {a : Addr} {v : Value} (h : w.cell? a = some v) : a.block < w.heap.size := by
  by_cases hb : a.block < w.heap.size
  · exact hb
  · unfold World.cell? at h
    rw [Array.getElem?_eq_none (by omega)] at h
    cases h
theorem i64_bounds {n : Int} (h : (Lit.int .i64 n).wf = true) : -9223372036854775808 ≤ n ∧ n ≤ 9223372036854775807 := by
  simp only [Lit.wf, Bool.and_eq_true, decide_eq_true_eq] at h
  exact ⟨h.1, h.2⟩
end Go.Proofs.YtcclgodahlinbaaGreatDoor
namespace Go.Proofs.YtcclgodahlinbaaGreatDoor
open Go.ChangeShapes Go.WideShapes Go.ChangeAt Go.RowKit Go
set_option maxRecDepth 100000
theorem laidOutD : laidOutB Tryz.prog = true := by kernel_rfl
theorem wants_ops : Tryz.prog.wantsStandIn 22 = false := by kernel_rfl
theorem cellsI : Tryz.prog.cellsOf 3 = 1 := by kernel_rfl
theorem cellsS : Tryz.prog.cellsOf 9 = 1 := by kernel_rfl
theorem cellsP : Tryz.prog.cellsOf 32 = 1 := by kernel_rfl
theorem cellsH : Tryz.prog.cellsOf 30 = 1 := by kernel_rfl
theorem cellsO : Tryz.prog.cellsOf 57 = 5 := by kernel_rfl
theorem bulk_pos {H : Type} (d : DataW H) : 0 < Rows.uptoBulk d := by
  cases d with
  | lit l => cases l <;> simp [Rows.uptoBulk]
  | nil => simp [Rows.uptoBulk]
  | ptr d => simp [Rows.uptoBulk]
  | slice a b => simp [Rows.uptoBulk]
  | agg a => simp [Rows.uptoBulk]
  | iface t d => simp [Rows.uptoBulk]
  | map a => simp [Rows.uptoBulk]
  | held h => simp [Rows.uptoBulk]
theorem bulk_mem {H : Type} {d : DataW H} : ∀ {l : List (DataW H)}, d ∈ l → Rows.uptoBulk d ≤ Rows.uptoBulkAll l
  | [], h => by cases h
  | y :: r, h => by
    simp only [Rows.uptoBulkAll]
    rcases List.mem_cons.1 h with e | e
    · rw [e]; omega
    · have := bulk_mem e; omega
theorem bulk_count {H : Type} : ∀ l : List (DataW H), l.length ≤ Rows.uptoBulkAll l
  | [] => by simp
  | y :: r => by
    have h1 := bulk_pos y
    have h2 := bulk_count r
    simp only [Rows.uptoBulkAll, List.length_cons]
    omega
theorem five_of {α : Type} {l : List α} (h : l.length = 5) : ∃ a b c d e, l = [a, b, c, d, e] := by
  match l, h with
  | [a, b, c, d, e], _ => exact ⟨a, b, c, d, e, rfl⟩
theorem add_none (b off i : Nat) : (⟨b, off, none⟩ : Addr).add i = ⟨b, off + i, none⟩ := by unfold Addr.add; split <;> simp_all
theorem cellsLs : Tryz.prog.cellsOf 59 = 1 := by kernel_rfl
theorem cellsL : Tryz.prog.cellsOf 93 = 2 := by kernel_rfl
theorem cellsHk : Tryz.prog.cellsOf 61 = 5 := by kernel_rfl
theorem cellsU8 : Tryz.prog.cellsOf 5 = 1 := by kernel_rfl
theorem two_of {α : Type} {l : List α} (h : l.length = 2) : ∃ a b, l = [a, b] := by
  match l, h with
  | [a, b], _ => exact ⟨a, b, rfl⟩
theorem list_of {α : Type} {Q : Nat → α → Prop} : ∀ n, (∀ i, i < n → ∃ s, Q i s) → ∃ L : List α, L.length = n ∧ ∀ i (h : i < L.length), Q i L[i]
  | 0, _ => ⟨[], rfl, fun i h => absurd h (Nat.not_lt_zero i)⟩
  | n + 1, h => by
    obtain ⟨L, hl, hq⟩ := list_of n fun i hi => h i (Nat.lt_succ_of_lt hi)
    obtain ⟨s, hs⟩ := h n (Nat.lt_succ_self n)
    refine ⟨L ++ [s], by simp [hl], fun i hi => ?_⟩
    by_cases e : i < L.length
    · rw [List.getElem_append_left e]
      exact hq i e
    · have e2 : i = L.length := by simp at hi; omega
      subst e2
      rw [List.getElem_append_right (Nat.le_refl _)]
      simp only [Nat.sub_self, List.getElem_cons_zero]
      rw [hl]
      exact hs
theorem u8_bounds {n : Int} (h : (Lit.int .u8 n).wf = true) : 0 ≤ n ∧ n ≤ 255 := by
  simp only [Lit.wf, Bool.and_eq_true, decide_eq_true_eq] at h
  exact ⟨h.1, h.2⟩
theorem bulk_six {H : Type} (l : List (DataW H)) (h : ∀ d ∈ l, 6 ≤ Rows.uptoBulk d) : 6 * l.length ≤ Rows.uptoBulkAll l := by
  induction l with
  | nil => simp
  | cons y r ih =>
    have h1 := h y List.mem_cons_self
    have h2 := ih fun d hd => h d (List.mem_cons_of_mem _ hd)
    simp only [Rows.uptoBulkAll, List.length_cons]
    omega
theorem bulk_agg5 {H : Type} (l : List (DataW H)) (h : l.length = 5) : 6 ≤ Rows.uptoBulk (.agg l) := by
  have := bulk_count l
  simp only [Rows.uptoBulk]
  omega
theorem open_lines {H : Type} {enc : TypeId × Value → H} {W : World} {c : Value} {fuel : Nat} {x : DataW H × List MemPlace}
    (hf : DataW.trod enc Tryz.prog W 0 (fun _ => true) true fuel 59 [c] = some x) (hb : Rows.uptoBulk x.1 ≤ 1048576) : ∃ a cap L, c = .slice a (List.length L) cap ∧ LinesAt W.heap.size W (.slice a L.length cap) L ∧ L.length ≤ 1048576 ∧ ∀ s ∈ L, s.kind < 256 ∧ s.text.size ≤ 1048576 := by
  rcases DataW.trod_slice Tryz.underlying59 hf with ⟨hcs, _⟩ | ⟨a, len, cap, elems, rest, n, _, hcs, rfl, _, hl, hm, hlen, hel, _, _⟩
  · simp at hcs
    exact ⟨none, 0, [], hcs, .inl ⟨rfl, _, _, rfl⟩, by simp, by simp⟩
  · simp at hcs
    have hbl : Rows.uptoBulkAll (elems.map (·.1)) ≤ 1048576 := by
      simp only [Rows.uptoBulk] at hb
      omega
    have hle : len ≤ 1048576 := by
      have := bulk_count (elems.map (·.1))
      rw [List.length_map, hlen] at this
      omega
    have key : ∀ i, i < len → ∃ s : StepB, W.cell? ((a.add (i * 2)).add 0) = some (.int .u8 (s.kind : Nat)) ∧ W.cell? ((a.add (i * 2)).add 1) = some (.string s.text) ∧ s.kind < 256 ∧ s.text.size ≤ 1048576 := by
      intro i hi
      have h1 := hel i hi
      have hie : i < elems.length := by omega
      rw [cellsL, List.getElem?_eq_getElem hie, Option.bind_eq_some_iff] at h1
      obtain ⟨cs, hcs, hy⟩ := h1
      obtain ⟨_, hl5, hc⟩ := World.cells?_some hcs
      have hmem : Rows.uptoBulk elems[i].1 ≤ 1048576 := Nat.le_trans (bulk_mem (List.mem_map.2 ⟨elems[i], List.getElem_mem hie, rfl⟩)) hbl
      generalize elems[i] = y at hy hmem
      obtain ⟨xs, m, _, rfl, _, hx5, hfd⟩ := DataW.trod_struct Tryz.underlying93 hy
      obtain ⟨c0, c1, rfl⟩ := two_of hl5
      obtain ⟨x0, x1, rfl⟩ := two_of (show xs.length = 2 from hx5)
      have f0 : DataW.trod enc Tryz.prog W 0 (fun _ => true) true m 5 ((([c0, c1] : List Value).drop 0).take (Tryz.prog.cellsOf 5)) = [x0, x1][0]? := hfd 0 _ rfl
      rw [cellsU8] at f0
      have f0 : DataW.trod enc Tryz.prog W 0 (fun _ => true) true m 5 [c0] = some x0 := f0
      have f1 : DataW.trod enc Tryz.prog W 0 (fun _ => true) true m 9 ((([c0, c1] : List Value).drop 1).take (Tryz.prog.cellsOf 9)) = [x0, x1][1]? := hfd 1 _ rfl
      rw [cellsS] at f1
      have f1 : DataW.trod enc Tryz.prog W 0 (fun _ => true) true m 9 [c1] = some x1 := f1
      obtain ⟨kd, e0, r0, w0⟩ := DataW.trod_int Tryz.underlying5 f0
      obtain ⟨X, e1, r1, _⟩ := DataW.trod_string Tryz.underlying9 f1
      have wk := u8_bounds w0
      have z0 := hc 0 (by omega)
      have z1 := hc 1 (by omega)
      simp at e0 e1 z0 z1
      have hbb : Rows.uptoBulkAll ([x0, x1].map (·.1)) ≤ 1048576 := by
        simp only [Rows.uptoBulk] at hmem
        omega
      have hX := Nat.le_trans (bulk_mem (d := x1.1) (l := [x0, x1].map (·.1)) (by simp)) hbb
      rw [r1] at hX
      simp only [Rows.uptoBulk] at hX
      have sX : X.data.toList.length = X.size := rfl
      have ek : ((kd.toNat : Nat) : Int) = kd := by omega
      exact ⟨⟨kd.toNat, X⟩, by rw [z0, e0]; simp only; rw [ek], by rw [z1, e1], by simp only; omega, by simp only; omega⟩
    obtain ⟨L, hL, hq⟩ := list_of len key
    refine ⟨some a, cap, L, by rw [hL]; exact hcs, ?_, by omega, fun s hs => ?_⟩
    · by_cases h0 : len = 0
      · left
        have : L = [] := List.eq_nil_of_length_eq_zero (by omega)
        subst this
        exact ⟨rfl, _, _, rfl⟩
      · right
        obtain ⟨b, off, spot⟩ := a
        obtain ⟨_, k0, _⟩ := key 0 (by omega)
        have hspot : spot = none := by simpa [Addr.add] using World.cell?_spot k0
        subst hspot
        refine ⟨b, off, cap, rfl, ?_, fun i hi => ?_⟩
        · have := cell_lt k0
          rw [add_none, add_none] at this
          exact this
        · obtain ⟨k0, k1, _⟩ := hq i hi
          rw [add_none, add_none] at k0 k1
          exact ⟨k0, k1⟩
    · obtain ⟨i, hi, rfl⟩ := List.getElem_of_mem hs
      exact ⟨(hq i hi).2.2.1, (hq i hi).2.2.2⟩
theorem open_hunks {H : Type} {enc : TypeId × Value → H} {W : World} {c : Value} {fuel : Nat} {x : DataW H × List MemPlace}
    (hf : DataW.trod enc Tryz.prog W 0 (fun _ => true) true fuel 30 [c] = some x) (hb : Rows.uptoBulk x.1 ≤ 1048576) : ∃ a cap hs, c = .slice a (List.length hs) cap ∧ HIAt W.heap.size W (.slice a hs.length cap) hs ∧ Lim hs := by
  rcases DataW.trod_slice Tryz.underlying30 hf with ⟨hcs, _⟩ | ⟨a, len, cap, elems, rest, n, _, hcs, rfl, _, hl, hm, hlen, hel, _, _⟩
  · simp at hcs
    exact ⟨none, 0, [], hcs, .inl ⟨rfl, _, _, rfl⟩, by simp, by simp⟩
  · simp at hcs
    have hbl : Rows.uptoBulkAll (elems.map (·.1)) ≤ 1048576 := by
      simp only [Rows.uptoBulk] at hb
      omega
    have key0 : ∀ i, i < len → ∃ cs, World.cells? W 0 (a.add (i * 5)) 5 = some cs ∧ ∃ y, elems[i]? = some y ∧ DataW.trod enc Tryz.prog W 0 (fun _ => true) true n 61 cs = some y := by
      intro i hi
      have h1 := hel i hi
      have hie : i < elems.length := by omega
      rw [cellsHk, List.getElem?_eq_getElem hie, Option.bind_eq_some_iff] at h1
      obtain ⟨cs, hcs, hy⟩ := h1
      exact ⟨cs, hcs, elems[i], List.getElem?_eq_getElem hie, hy⟩
    have hle : 6 * len ≤ 1048576 := by
      have h6 := bulk_six (elems.map (·.1)) (fun d hd => by
        obtain ⟨y, hy, rfl⟩ := List.mem_map.1 hd
        obtain ⟨i, hi, rfl⟩ := List.getElem_of_mem hy
        obtain ⟨cs, _, y, hy1, hy2⟩ := key0 i (by omega)
        rw [List.getElem?_eq_getElem hi] at hy1
        cases hy1
        obtain ⟨xs, m, _, e, _, hx5, _⟩ := DataW.trod_struct Tryz.underlying61 hy2
        rw [e]
        exact bulk_agg5 _ (by rw [List.length_map]; exact hx5))
      rw [List.length_map, hlen] at h6
      omega
    have key : ∀ i, i < len → ∃ h : HI, ∃ a' c', W.cell? ((a.add (i * 5)).add 0) = some (.int .i64 h.fr) ∧ W.cell? ((a.add (i * 5)).add 1) = some (.int .i64 h.fc) ∧ W.cell? ((a.add (i * 5)).add 2) = some (.int .i64 h.tr) ∧ W.cell? ((a.add (i * 5)).add 3) = some (.int .i64 h.tc) ∧ W.cell? ((a.add (i * 5)).add 4) = some (.slice a' h.lines.length c') ∧ LinesAt W.heap.size W (.slice a' h.lines.length c') h.lines ∧
        (h.lines.length ≤ 1048576 ∧ (-9223372036854775808 ≤ h.fr ∧ h.fr ≤ 9223372036854775807) ∧ (-9223372036854775808 ≤ h.fc ∧ h.fc ≤ 9223372036854775807) ∧ (-9223372036854775808 ≤ h.tr ∧ h.tr ≤ 9223372036854775807) ∧ (-9223372036854775808 ≤ h.tc ∧ h.tc ≤ 9223372036854775807) ∧ ∀ s ∈ h.lines, s.kind < 256 ∧ s.text.size ≤ 1048576) := by
      intro i hi
      obtain ⟨cs, hcs, y, hy1, hy⟩ := key0 i hi
      obtain ⟨_, hl5, hc⟩ := World.cells?_some hcs
      have hmem : Rows.uptoBulk y.1 ≤ 1048576 := Nat.le_trans (bulk_mem (List.mem_map.2 ⟨y, List.mem_of_getElem? hy1, rfl⟩)) hbl
      clear hy1
      obtain ⟨xs, m, _, rfl, _, hx5, hfd⟩ := DataW.trod_struct Tryz.underlying61 hy
      obtain ⟨c0, c1, c2, c3, c4, rfl⟩ := five_of hl5
      obtain ⟨x0, x1, x2, x3, x4, rfl⟩ := five_of (show xs.length = 5 from hx5)
      have f0 : DataW.trod enc Tryz.prog W 0 (fun _ => true) true m 3 ((([c0, c1, c2, c3, c4] : List Value).drop 0).take (Tryz.prog.cellsOf 3)) = [x0, x1, x2, x3, x4][0]? := hfd 0 _ rfl
      rw [cellsI] at f0
      have f0 : DataW.trod enc Tryz.prog W 0 (fun _ => true) true m 3 [c0] = some x0 := f0
      have f1 : DataW.trod enc Tryz.prog W 0 (fun _ => true) true m 3 ((([c0, c1, c2, c3, c4] : List Value).drop 1).take (Tryz.prog.cellsOf 3)) = [x0, x1, x2, x3, x4][1]? := hfd 1 _ rfl
      rw [cellsI] at f1
      have f1 : DataW.trod enc Tryz.prog W 0 (fun _ => true) true m 3 [c1] = some x1 := f1
      have f2 : DataW.trod enc Tryz.prog W 0 (fun _ => true) true m 3 ((([c0, c1, c2, c3, c4] : List Value).drop 2).take (Tryz.prog.cellsOf 3)) = [x0, x1, x2, x3, x4][2]? := hfd 2 _ rfl
      rw [cellsI] at f2
      have f2 : DataW.trod enc Tryz.prog W 0 (fun _ => true) true m 3 [c2] = some x2 := f2
      have f3 : DataW.trod enc Tryz.prog W 0 (fun _ => true) true m 3 ((([c0, c1, c2, c3, c4] : List Value).drop 3).take (Tryz.prog.cellsOf 3)) = [x0, x1, x2, x3, x4][3]? := hfd 3 _ rfl
      rw [cellsI] at f3
      have f3 : DataW.trod enc Tryz.prog W 0 (fun _ => true) true m 3 [c3] = some x3 := f3
      have f4 : DataW.trod enc Tryz.prog W 0 (fun _ => true) true m 59 ((([c0, c1, c2, c3, c4] : List Value).drop 4).take (Tryz.prog.cellsOf 59)) = [x0, x1, x2, x3, x4][4]? := hfd 4 _ rfl
      rw [cellsLs] at f4
      have f4 : DataW.trod enc Tryz.prog W 0 (fun _ => true) true m 59 [c4] = some x4 := f4
      obtain ⟨n0, e0, _, w0⟩ := DataW.trod_int Tryz.underlying3 f0
      obtain ⟨n1, e1, _, w1⟩ := DataW.trod_int Tryz.underlying3 f1
      obtain ⟨n2, e2, _, w2⟩ := DataW.trod_int Tryz.underlying3 f2
      obtain ⟨n3, e3, _, w3⟩ := DataW.trod_int Tryz.underlying3 f3
      have hbb : Rows.uptoBulkAll ([x0, x1, x2, x3, x4].map (·.1)) ≤ 1048576 := by
        simp only [Rows.uptoBulk] at hmem
        omega
      obtain ⟨al, cl, L, e4, hLA, hl1, hl2⟩ := open_lines f4 (Nat.le_trans (bulk_mem (d := x4.1) (l := [x0, x1, x2, x3, x4].map (·.1)) (by simp)) hbb)
      have z0 := hc 0 (by omega)
      have z1 := hc 1 (by omega)
      have z2 := hc 2 (by omega)
      have z3 := hc 3 (by omega)
      have z4 := hc 4 (by omega)
      simp at e0 e1 e2 e3 z0 z1 z2 z3 z4
      exact ⟨⟨n0, n1, n2, n3, L⟩, al, cl, by rw [z0, e0], by rw [z1, e1], by rw [z2, e2], by rw [z3, e3], by rw [z4, e4], hLA, hl1, i64_bounds w0, i64_bounds w1, i64_bounds w2, i64_bounds w3, hl2⟩
    obtain ⟨hs, hL, hq⟩ := list_of len key
    refine ⟨some a, cap, hs, by rw [hL]; exact hcs, ?_, by omega, fun h hh => ?_⟩
    · by_cases h0 : len = 0
      · left
        have : hs = [] := List.eq_nil_of_length_eq_zero (by omega)
        subst this
        exact ⟨rfl, _, _, rfl⟩
      · right
        obtain ⟨b, off, spot⟩ := a
        obtain ⟨_, _, _, k0, _⟩ := key 0 (by omega)
        have hspot : spot = none := by simpa [Addr.add] using World.cell?_spot k0
        subst hspot
        refine ⟨b, off, cap, rfl, ?_, fun i hi => ?_⟩
        · have := cell_lt k0
          rw [add_none, add_none] at this
          exact this
        · obtain ⟨a', c', k0, k1, k2, k3, k4, k5, _⟩ := hq i hi
          rw [add_none, add_none] at k0 k1 k2 k3 k4
          exact ⟨a', c', k0, k1, k2, k3, k4, k5⟩
    · obtain ⟨i, hi, rfl⟩ := List.getElem_of_mem hh
      obtain ⟨_, _, _, _, _, _, _, _, r⟩ := hq i hi
      exact r
theorem open_script {H : Type} {enc : TypeId × Value → H} {W : World} {a0 : Option Addr} {len cap fuel : Nat} {x : DataW H × List MemPlace}
    (hf : DataW.trod enc Tryz.prog W 0 (fun _ => true) true fuel 22 [.slice a0 len cap] = some x) (hb : Rows.uptoBulk x.1 ≤ 1048576) : len ≤ 200000 ∧ ScriptP W (.slice a0 len cap) len := by
  rcases DataW.trod_slice Tryz.underlying22 hf with ⟨hcs, _⟩ | ⟨a, len', cap', elems, rest, n, _, hcs, rfl, _, hl, hm, hlen, hel, _, _⟩
  · simp at hcs
    obtain ⟨rfl, rfl, rfl⟩ := hcs
    exact ⟨Nat.zero_le _, .inl ⟨rfl, _, _, rfl⟩⟩
  · simp at hcs
    obtain ⟨rfl, rfl, rfl⟩ := hcs
    have hbl : Rows.uptoBulkAll (elems.map (·.1)) ≤ 1048576 := by
      simp only [Rows.uptoBulk] at hb
      omega
    have hle : len ≤ 200000 := by
      have h6 := bulk_six (elems.map (·.1)) (fun d hd => by
        obtain ⟨y, hy, rfl⟩ := List.mem_map.1 hd
        obtain ⟨i, hi, rfl⟩ := List.getElem_of_mem hy
        have h1 := hel i (by omega)
        rw [cellsO, List.getElem?_eq_getElem hi, Option.bind_eq_some_iff] at h1
        obtain ⟨cs, _, hy2⟩ := h1
        obtain ⟨xs, m, _, e, _, hx5, _⟩ := DataW.trod_struct Tryz.underlying57 hy2
        rw [e]
        exact bulk_agg5 _ (by rw [List.length_map]; exact hx5))
      rw [List.length_map, hlen] at h6
      omega
    refine ⟨hle, ?_⟩
    have key : ∀ i, i < len → ∃ (kd nn : Int) (X Y : ByteArray) (ap : Option Addr) (cp : Nat) (hs : List HI), W.cell? ((a.add (i * 5)).add 0) = some (.int .i64 kd) ∧ W.cell? ((a.add (i * 5)).add 1) = some (.int .i64 nn) ∧ W.cell? ((a.add (i * 5)).add 2) = some (.string X) ∧ W.cell? ((a.add (i * 5)).add 3) = some (.string Y) ∧ W.cell? ((a.add (i * 5)).add 4) = some (.slice ap hs.length cp) ∧ X.size ≤ 4000000000 ∧ Y.size ≤ 4000000000 ∧ HIAt W.heap.size W (.slice ap hs.length cp) hs ∧ Lim hs := by
      intro i hi
      have h1 := hel i hi
      have hie : i < elems.length := by omega
      rw [cellsO, List.getElem?_eq_getElem hie, Option.bind_eq_some_iff] at h1
      obtain ⟨cs, hcs, hy⟩ := h1
      obtain ⟨_, hl5, hc⟩ := World.cells?_some hcs
      have hmem : Rows.uptoBulk elems[i].1 ≤ 1048576 := Nat.le_trans (bulk_mem (List.mem_map.2 ⟨elems[i], List.getElem_mem hie, rfl⟩)) hbl
      generalize elems[i] = y at hy hmem
      obtain ⟨xs, m, _, rfl, _, hx5, hfd⟩ := DataW.trod_struct Tryz.underlying57 hy
      obtain ⟨c0, c1, c2, c3, c4, rfl⟩ := five_of hl5
      obtain ⟨x0, x1, x2, x3, x4, rfl⟩ := five_of (show xs.length = 5 from hx5)
      have f0 : DataW.trod enc Tryz.prog W 0 (fun _ => true) true m 3 ((([c0, c1, c2, c3, c4] : List Value).drop 0).take (Tryz.prog.cellsOf 3)) = [x0, x1, x2, x3, x4][0]? := hfd 0 _ rfl
      rw [cellsI] at f0
      have f0 : DataW.trod enc Tryz.prog W 0 (fun _ => true) true m 3 [c0] = some x0 := f0
      have f1 : DataW.trod enc Tryz.prog W 0 (fun _ => true) true m 3 ((([c0, c1, c2, c3, c4] : List Value).drop 1).take (Tryz.prog.cellsOf 3)) = [x0, x1, x2, x3, x4][1]? := hfd 1 _ rfl
      rw [cellsI] at f1
      have f1 : DataW.trod enc Tryz.prog W 0 (fun _ => true) true m 3 [c1] = some x1 := f1
      have f2 : DataW.trod enc Tryz.prog W 0 (fun _ => true) true m 9 ((([c0, c1, c2, c3, c4] : List Value).drop 2).take (Tryz.prog.cellsOf 9)) = [x0, x1, x2, x3, x4][2]? := hfd 2 _ rfl
      rw [cellsS] at f2
      have f2 : DataW.trod enc Tryz.prog W 0 (fun _ => true) true m 9 [c2] = some x2 := f2
      have f3 : DataW.trod enc Tryz.prog W 0 (fun _ => true) true m 9 ((([c0, c1, c2, c3, c4] : List Value).drop 3).take (Tryz.prog.cellsOf 9)) = [x0, x1, x2, x3, x4][3]? := hfd 3 _ rfl
      rw [cellsS] at f3
      have f3 : DataW.trod enc Tryz.prog W 0 (fun _ => true) true m 9 [c3] = some x3 := f3
      have f4 : DataW.trod enc Tryz.prog W 0 (fun _ => true) true m 32 ((([c0, c1, c2, c3, c4] : List Value).drop 4).take (Tryz.prog.cellsOf 32)) = [x0, x1, x2, x3, x4][4]? := hfd 4 _ rfl
      rw [cellsP] at f4
      have f4 : DataW.trod enc Tryz.prog W 0 (fun _ => true) true m 32 [c4] = some x4 := f4
      obtain ⟨kd, e0, r0, _⟩ := DataW.trod_int Tryz.underlying3 f0
      obtain ⟨nn, e1, r1, _⟩ := DataW.trod_int Tryz.underlying3 f1
      obtain ⟨X, e2, r2, _⟩ := DataW.trod_string Tryz.underlying9 f2
      obtain ⟨Y, e3, r3, _⟩ := DataW.trod_string Tryz.underlying9 f3
      obtain ⟨ys, m2, _, ex4, _, hy1, hfp⟩ := DataW.trod_struct Tryz.underlying32 f4
      have g0 : DataW.trod enc Tryz.prog W 0 (fun _ => true) true m2 30 ((([c4] : List Value).drop 0).take (Tryz.prog.cellsOf 30)) = ys[0]? := hfp 0 _ rfl
      have hy1' : ys.length = 1 := hy1
      rw [cellsH, List.getElem?_eq_getElem (show 0 < ys.length by omega)] at g0
      have g0 : DataW.trod enc Tryz.prog W 0 (fun _ => true) true m2 30 [c4] = some (ys[0]'(by omega)) := g0
      have z0 := hc 0 (by omega)
      have z1 := hc 1 (by omega)
      have z2 := hc 2 (by omega)
      have z3 := hc 3 (by omega)
      have z4 := hc 4 (by omega)
      simp at e0 e1 e2 e3 z0 z1 z2 z3 z4
      have hbb : Rows.uptoBulkAll ([x0, x1, x2, x3, x4].map (·.1)) ≤ 1048576 := by
        simp only [Rows.uptoBulk] at hmem
        omega
      have hX := Nat.le_trans (bulk_mem (d := x2.1) (l := [x0, x1, x2, x3, x4].map (·.1)) (by simp)) hbb
      have hY := Nat.le_trans (bulk_mem (d := x3.1) (l := [x0, x1, x2, x3, x4].map (·.1)) (by simp)) hbb
      rw [r2] at hX
      rw [r3] at hY
      simp only [Rows.uptoBulk] at hX hY
      have hP := Nat.le_trans (bulk_mem (d := x4.1) (l := [x0, x1, x2, x3, x4].map (·.1)) (by simp)) hbb
      rw [ex4] at hP
      simp only [Rows.uptoBulk] at hP
      have hP2 := bulk_mem (d := (ys[0]'(by omega)).1) (l := ys.map (·.1)) (List.mem_map.2 ⟨_, List.getElem_mem _, rfl⟩)
      obtain ⟨ap, cp, hs, e4, hHI, hLim⟩ := open_hunks g0 (by omega)
      have sX : X.data.toList.length = X.size := rfl
      have sY : Y.data.toList.length = Y.size := rfl
      exact ⟨kd, nn, X, Y, ap, cp, hs, by rw [z0, e0], by rw [z1, e1], by rw [z2, e2], by rw [z3, e3], by rw [z4, e4], by omega, by omega, hHI, hLim⟩
    by_cases h0 : len = 0
    · subst h0
      exact .inl ⟨rfl, _, _, rfl⟩
    · right
      obtain ⟨b, off, spot⟩ := a
      obtain ⟨_, _, _, _, _, _, _, k0, _⟩ := key 0 (by omega)
      have hspot : spot = none := by simpa [Addr.add] using World.cell?_spot k0
      subst hspot
      refine ⟨b, off, cap, rfl, ?_, fun i hi => ?_⟩
      · have := cell_lt k0
        rw [add_none, add_none] at this
        exact this
      · obtain ⟨kd, nn, X, Y, ap, cp, hs, k0, k1, k2, k3, k4, k5, k6, k7, k8⟩ := key i hi
        refine ⟨kd, nn, X, Y, ap, cp, hs, ?_, ?_, ?_, ?_, ?_, k5, k6, k7, k8⟩
        · rw [add_none, add_none] at k0; exact k0
        · rw [add_none, add_none] at k1; exact k1
        · rw [add_none, add_none] at k2; exact k2
        · rw [add_none, add_none] at k3; exact k3
        · rw [add_none, add_none] at k4; exact k4
theorem gES : Tryz.prog.globalNamed "strconv.ErrSyntax" = some 4 := by kernel_rfl
theorem gESType : (Tryz.prog.globals[4]?).map (·.type) = some 139 := by kernel_rfl
theorem gER : Tryz.prog.globalNamed "strconv.ErrRange" = some 5 := by kernel_rfl
theorem gERType : (Tryz.prog.globals[5]?).map (·.type) = some 139 := by kernel_rfl
theorem cellsErrS : Tryz.prog.cellsOf 240 = 1 := by kernel_rfl
theorem starErr : "*" ++ "errors.errorString" = "*errors.errorString" := by decide
theorem rowErr (u : TypeId) (h : Tryz.prog.typeName? 3 u = some "*errors.errorString") : u = 238 :=
  typeName_ptr_named (nm := "errors.errorString") (by rw [starErr]; kernel_rfl) (by kernel_rfl) (by decide) u (by rw [starErr]; exact h)
theorem pow10_tab : (Rows.laid_internal_strconv_uint64pow10 : DataW Unit) = Lib.tabData .u64 Lib.pow10Tab := by kernel_rfl
theorem globP_of {W : World} (hL : laidMetH Tryz.prog Rows.patchesUptoRow.laid W) (hsh : W.ShapedOpen Tryz.prog) : GlobP W := by
  have h1 := (laidMetH_iff.1 hL).1
  have h2 : laidMet Tryz.prog [(_, Rows.laid_math_bits_deBruijn32tab), (_, Rows.laid_math_bits_deBruijn64tab), ("internal/strconv.uint64pow10", Rows.laid_internal_strconv_uint64pow10), (_, Rows.laid_unicode_utf8_acceptRanges), ("strconv.ErrRange", Rows.laid_strconv_ErrRange), ("strconv.ErrSyntax", Rows.laid_strconv_ErrSyntax), (_, Rows.laid_unicode_utf8_first)] W := h1
  have ht := h2.tail.tail
  have hr := h2.tail.tail.tail.tail
  have hs := h2.tail.tail.tail.tail.tail
  rw [pow10_tab] at ht
  have htab := Lib.tabIs_of_head (t := 220) (e := 213) (n := 20) (g := 3) (by kernel_rfl) (by kernel_rfl) Tryz.underlying220 Tryz.underlying213 (by kernel_rfl) (by kernel_rfl) ht
  unfold Rows.laid_strconv_ErrSyntax at hs
  unfold Rows.laid_strconv_ErrRange at hr
  obtain ⟨a0, s0, hv0, -, -, -⟩ := laid_sentinel hs gES gESType Tryz.underlying139 rowErr Tryz.underlying238 Tryz.underlying240 rfl rfl Tryz.underlying9 cellsErrS cellsS
  obtain ⟨a1, s1, hv1, -, -, -⟩ := laid_sentinel hr gER gERType Tryz.underlying139 rowErr Tryz.underlying238 Tryz.underlying240 rfl rfl Tryz.underlying9 cellsErrS cellsS
  have h0 := World.var?_cell gES hv0 0
  have h1 := World.var?_cell gER hv1 0
  have c0 : W.cell? ⟨4, 0, none⟩ = some (.iface 238 (.pointer (some a0))) := by simpa using h0
  have c1 : W.cell? ⟨5, 0, none⟩ = some (.iface 238 (.pointer (some a1))) := by simpa using h1
  have k0 := cell_lt c0
  have k1 := cell_lt c1
  simp at k0 k1
  exact ⟨⟨maxlen_of hsh, ⟨_, c0, .inr ⟨_, _, rfl⟩⟩, by omega⟩, ⟨_, c1, .inr ⟨_, _, rfl⟩⟩, htab, by omega⟩
end Go.Proofs.YtcclgodahlinbaaGreatDoor
namespace Go.Proofs.YtcclgodahlinbaaGreatDoor
open Go.ChangeShapes Go.WideShapes Go.ChangeAt Go.RowKit Go
set_option maxRecDepth 100000
theorem patches_witness (os : Os) {H : Type} (enc : TypeId × Value → H) :
    (Rows.OpenSpec.upto Rows.patchesSpec).preRow enc Tryz.prog Tryz.f4 Rows.patchesUptoRow.domain false Rows.patchesUptoRow.laid ((withTables (World.holding Tryz.prog os heldZ)).forCall (fun _ _ => 0) ⟨#[], #[.slice none 0 0], []⟩).memory #[.slice none 0 0] := by
  have hw : (DataW.whole enc Tryz.prog ((withTables (World.holding Tryz.prog os heldZ)).forCall (fun _ _ => 0) ⟨#[], #[.slice none 0 0], []⟩).memory Tryz.f4.params.toList (Rows.OpenSpec.upto Rows.patchesSpec).vars false (#[.slice none 0 0] : Array Value).toList 8).map (fun x => (x.1, x.2.1)) =
      some ([.nil], []) := by kernel_rfl
  obtain ⟨⟨x1, x2, x3⟩, hx, hx1⟩ := Option.map_eq_some_iff.1 hw
  simp only [Prod.mk.injEq] at hx1
  obtain ⟨rfl, rfl⟩ := hx1
  exact OpenSpec.preRow_of_cond 8 hx (by kernel_rfl) (fun k hk => by cases hk; kernel_rfl) (by kernel_rfl) (laid_met os _)
theorem patches_lifted (os : Os) (started : os.Started) (H : Type) (enc : TypeId × Value → H) (F : Stop.Interp) :
    ReturnsInHanded {} Tryz.checked os 4 .any ((Rows.OpenSpec.upto Rows.patchesSpec).preRow enc Tryz.prog Tryz.f4 Rows.patchesUptoRow.domain false Rows.patchesUptoRow.laid) (((Rows.OpenSpec.upto Rows.patchesSpec).at F).post enc Tryz.prog Tryz.f4 false true false false) := by
  refine returnsInHanded_of_row (C := Tryz.checked) (s := Rows.OpenSpec.upto Rows.patchesSpec) ownK started (by kernel_rfl) Tryz.func4
    (witness_row_atRef (enc := enc) (C := Tryz.checked) false (withTables (World.holding Tryz.prog os heldZ)) #[.slice none 0 0] rfl (by kernel_rfl) (by kernel_rfl) (by kernel_rfl) (patches_witness os enc)) ?_
  intro W base args ds gs before hval0 hW _ hcond _ hL hsh _
  have hval : ∀ (j : Nat) t v, Tryz.f4.params[j]? = some t → args[j]? = some v → Value.okWide Tryz.prog W .any base t v := hval0
  have hW' := hW
  obtain ⟨p, q, hA0, hV, rfl, _, _⟩ := hW
  have hA : DataW.TrodAll enc Tryz.prog W 0 (fun _ => true) true Tryz.f4.params.toList args.toList ds p := hA0
  rw [Tryz.params4] at hA hval
  obtain ⟨v0, vs0, d0, ds0, p0, q0, hargs, rfl, rfl, h0, r0⟩ := trodAll_cons hA
  obtain ⟨rfl, rfl, rfl⟩ := trodAll_nil r0
  obtain rfl : args = #[v0] := by cases args; simp_all
  obtain ⟨rfl, rfl⟩ := trodVars_none hV
  obtain ⟨a0, l0, c0, rfl⟩ := okWide_slice Tryz.underlying22 (hval 0 22 v0 rfl rfl)
  have h0k := h0
  obtain ⟨fuel0, hf0⟩ := h0
  clear hA0 hval0
  simp only [List.append_nil] at hW'
  have hk := hcond _ rfl
  have hb0 : Rows.uptoBulk d0 ≤ 1048576 := by
    have h := of_decide_eq_true hk
    simp only [List.append_nil, Rows.uptoBulkAll] at h
    omega
  have hlt : ∀ x ∈ p0, x.block < W.heap.size := fun x hx => by simpa using hW'.lt x hx
  obtain ⟨hle, hS⟩ := open_script hf0 hb0
  obtain ⟨m, hm⟩ := maxlen_of hsh
  refine (patches_any (m := m) hS hle hm (globP_of hL hsh)).mono fun e W' ⟨he, hb⟩ => ?_
  subst he
  refine ⟨_, rfl, _, _, _, [], p0, [], hW', ?_, ?_, ?_, hb.frame _, fun h => by cases h⟩
  · exact trodAll_mk1 (shut_bool Tryz.underlying4 true)
  · have t0 := Below.trod laidOutD (by kernel_rfl) (of_decide_eq_true (by kernel_rfl)) h0k hb (fun x hx => hlt x hx)
    have := trodAll_cons_mk t0 trodAll_mk0
    simp only [List.append_nil] at this
    exact this
  · exact rfl
theorem patches_row : Rows.PatchesUptoSaid :=
  OpenClaim.holds_of_cond 4 Tryz.f4 rfl rfl rfl rfl rfl rfl rfl ⟨rfl, rfl, rfl, rfl, rfl⟩ rfl rfl rfl rfl rfl (by kernel_rfl) Tryz.func4 (by kernel_rfl)
    (of_decide_eq_true (by kernel_rfl)) (by unfold Func.isWrapper; rw [if_neg (of_decide_eq_false (by kernel_rfl))]; exact ⟨rfl, rfl⟩)
    (fun os started H enc _ F0 => by rw [OpenClaim.pre_eq_preRow]; exact patches_lifted os started H enc F0)
theorem patches_card : Rows.PatchesUptoCardSaid :=
  Claim7.holds_tied_plain_at .later [] [.data, .data, .data, .data, .sentinel, .sentinel, .pinned] true (true, "7161e2264f3eed6547cfefa7174f8f11a68028a5e43b3bef197380733a8fa1fb") true
    patches_row (fun _ h => by cases h) (by kernel_rfl) (fun _ h => by cases h) patchesUpto_row_tie rfl ⟨rfl, rfl⟩ (by kernel_rfl) rfl
    (fun f fn hf hfn => by
      obtain rfl : f = 4 := Option.some.inj ((show Tryz.prog.funcNamed Tryz.f4.name = some 4 by kernel_rfl).symm.trans hf) |>.symm
      obtain rfl : fn = Tryz.f4 := (Option.some.inj (Tryz.func4.symm.trans hfn)).symm
      exact ⟨by kernel_rfl, fun j t ht => by
        rw [Tryz.params4] at ht
        rcases j with _ | j
        · obtain rfl : t = 22 := by simpa using ht.symm
          exact wants_ops
        · simp at ht⟩)
    (by kernel_rfl)
#print axioms patches_card
end Go.Proofs.YtcclgodahlinbaaGreatDoor
