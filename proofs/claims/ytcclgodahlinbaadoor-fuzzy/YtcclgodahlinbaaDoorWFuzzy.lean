import Derived.Test.YtcclgodahlinbaaDoorWFuzzyM
import Derived.Laws.IdiomStrings
import Derived.Deep.Cut
import Derived.Deep.RegionLaw
namespace Go.Proofs.YtcclgodahlinbaaDoor
open Go.RowKit Go
set_option maxRecDepth 100000

theorem conv_dig (k : Nat) (hk : k < 9) (wr : World) : (convert 51 9 (.slice (some ⟨wr.heap.size, 0, none⟩) 1 1)).run Tryd.prog (wr.alloc (.cells #[.int .u8 (49 + (k : Int))] 5)) = .ok (.string (digB k)) (wr.alloc (.cells #[.int .u8 (49 + (k : Int))] 5)) := by
  have h := run_convert_bytes_back (P := Tryd.prog) (wr.alloc (.cells #[.int .u8 (49 + (k : Int))] 5)) 51 9 5 ⟨wr.heap.size, 0, none⟩ 1 [UInt8.ofNat (49 + k)] Tryd.underlying51 Tryd.underlying5 Tryd.underlying9 (by
    intro j hj
    obtain rfl : j = 0 := by simpa using hj
    refine cell_of (heap_alloc_new wr _) ?_
    simp
    have : (49 + k) % 256 = 49 + k := by omega
    omega)
  exact h

theorem fz_facts {d f kk : Nat} {b : Bool} (h : fzOne d f b = true) (hk : kk = if b = true then 4 + (d + 1) else 4 - (d + 1)) :
    applyOkB (textB (zL kk 9)) [fzH] = true ∧ (textL (zL kk 9)).length ≤ 1000 ∧ (textL (wL kk 9)).length ≤ 1000 ∧
    (f < 5 - (d + 1) → applyT (linesB (textB (zL kk 9))) f [fzH] = textB (zL kk 9) ∧ applyS (linesB (textB (zL kk 9))) f [fzH] = [⟨false, 0, 0⟩]) ∧
    (¬ f < 5 - (d + 1) → applyT (linesB (textB (zL kk 9))) f [fzH] = textB (wL kk 9) ∧ applyS (linesB (textB (zL kk 9))) f [fzH] = [⟨true, 0, 5 - (d + 1)⟩]) := by
  subst hk
  unfold fzOne at h
  simp only [Bool.and_eq_true, decide_eq_true_eq] at h
  refine ⟨h.1.1.1, h.1.1.2, h.1.2, fun hl => ?_, fun hl => ?_⟩
  · have := h.2
    rw [if_pos hl] at this
    simpa using this
  · have := h.2
    rw [if_neg hl] at this
    simpa using this
theorem text_drew {w : World} {a : Option Addr} {c : Nat} {L : List ByteArray} (hR : RowS w (.slice a L.length c) L) (hl : (textL L).length ≤ 100000) :
    Calls Tryd.prog 15 #[.slice a L.length c] w.drew fun e w' => e = .returned (.string (textB L)) ∧ w' = w.drew :=
  (ktext_any (hR.of_heap (w' := w.drew) (fun _ _ _ h => h)) hl).mono fun _ _ h => ⟨h.1, h.2.symm⟩

theorem run_ktext (x : Value) (w : World) : (callFunc 15 #[x]).run Tryd.prog w = .ok (.enter 15 #[x]) w := by kernel_rfl
theorem run_kapply (x y z : Value) (w : World) : (callFunc 17 #[x, y, z]).run Tryd.prog w = .ok (.enter 17 #[x, y, z]) w := by kernel_rfl

set_option maxHeartbeats 4000000 in
theorem fuzzy_any (d0 f0 : Int) (bh : Bool) {m : Int} {w : World} (hd : -9223372036854775808 ≤ d0 ∧ d0 ≤ 9223372036854775807) (hf : -9223372036854775808 ≤ f0 ∧ f0 ≤ 9223372036854775807) (hm : w.cell? ⟨0, 0, none⟩ = some (.int .i64 m)) (hm0 : 0 < w.heap.size) :
    Calls Tryd.prog 7 #[.int .i64 d0, .int .i64 f0, .bool bh] w fun e w' => e = .returned (.bool true) ∧ Below w.heap.size w w' := by
  obtain ⟨i0, hi, hz0, hz1, hz2⟩ := info_parts info_str
  have hdl := pickN_lt d0 (n := 4) (by decide)
  have hfl := pickN_lt f0 (n := 11) (by decide)
  have hp1 := fun w => pick_any d0 4 w hd (by decide) (by decide)
  have hp2 := fun w => pick_any f0 11 w hf (by decide) (by decide)
  have hone := fz_one bh hdl hfl
  generalize pickN d0 4 = d at *
  generalize pickN f0 11 = f at *
  have haw := awake_any hm hm0
  go_enter Tryd.func7, Tryd.ntmps7
  go_wp2_with fail
  refine haw.mono ?_
  clear haw
  rintro e w1 ⟨rfl, b1⟩
  have hz1' := b1.size
  have hm1 := (b1.cell (p := ⟨0, 0, none⟩) hm0).trans hm
  have hdf := diff_at (c := 4) (w := w1) fz_check (by decide) (by decide) hm1
  rw [fz_diff] at hdf
  have hdf' : Calls Tryd.prog 14 #[.string ⟨#[49, 10, 50, 10, 51, 10, 52, 10, 53, 10, 54, 10, 55, 10, 56, 10, 57, 10]⟩, .string ⟨#[49, 10, 50, 10, 51, 10, 52, 10, 102, 105, 118, 101, 10, 54, 10, 55, 10, 56, 10, 57, 10]⟩, .int .i64 4] w1 fun e w' =>
      ∃ a cap, e = .returned (.tuple #[.agg #[.slice a 1 cap], .int .i64 0]) ∧ HunksAt w'.heap.size w' (.slice a 1 cap) [fzH] ∧ Below w1.heap.size w1 w' := hdf
  clear hdf
  go_wp2_with (first | (go_at_call 12; refine (hp1 _).mono ?_; clear hp1; rintro e w' ⟨rfl, rfl⟩) | (go_at_call 12; refine (hp2 _).mono ?_; rintro e w' ⟨rfl, rfl⟩))
  refine hdf'.mono ?_
  clear hdf'
  rintro e w2 ⟨a, cap, rfl, hH, b2⟩
  have hz2' := b2.size
  have hb3 := (Below.refl w2.heap.size w2).alloc (Nat.le_refl _) (.cells #[.slice a 1 cap] 37)
  have hp3 := heap_alloc_new w2 (.cells #[.slice a 1 cap] 37)
  have z3 : (w2.alloc (.cells #[.slice a 1 cap] 37)).heap.size = w2.heap.size + 1 := by simp
  obtain ⟨kk, hkk⟩ : ∃ kk, kk = (if bh then 4 + (d + 1) else 4 - (d + 1)) := ⟨_, rfl⟩
  have hkk9 : kk < 9 := by rw [hkk]; cases bh <;> simp <;> omega
  have hkk4 : kk ≠ 4 := by rw [hkk]; cases bh <;> simp <;> omega
  have hH1 : Hid (fzOne d f bh = true ∧ kk = (if bh then 4 + (d + 1) else 4 - (d + 1))) := ⟨hone, hkk⟩
  clear hone hkk
  go_upto_if 33 with (fail)
  go_cut [11] from 20 (fun vk wc => vk = .int .i64 (kk : Int) ∧ wc = w2.alloc (.cells #[.slice a 1 cap] 37))
  case first =>
    cases bh with
    | true =>
      have hkI : (4 : Int) + (1 + d) = (kk : Int) := by have := hH1.out.2; simp at this; omega
      have hkI' : Hid ((4 : Int) + (1 + d) = (kk : Int)) := hkI
      clear hkI
      go_wp2_with fail
      go_meet
      case rel => exact ⟨by rw [hkI'.out], rfl⟩
    | false =>
      have hkI : (4 : Int) - (1 + d) = (kk : Int) := by have := hH1.out.2; simp at this; omega
      have hkI' : Hid ((4 : Int) - (1 + d) = (kk : Int)) := hkI
      clear hkI
      go_wp2_with fail
      go_meet
      case rel => exact ⟨by rw [hkI'.out], rfl⟩
  case rest =>
    obtain ⟨rfl, rfl⟩ := hcut
    go_wp2_with fail
    generalize w2.alloc (.cells #[.slice a 1 cap] 37) = W3 at hb3 hp3 z3 ⊢
    go_loopg [12, 13, 14] 9 (fun g vz vw t wr => ∃ k : Nat, g = 9 - k ∧ k ≤ 9 ∧ t = .int .i64 k ∧ Two W3.heap.size vz vw (zL kk k) (wL kk k) wr ∧ Below W3.heap.size W3 wr)
    case atStart => exact ⟨0, by omega, by omega, rfl, ⟨World.ownsRow_nil _ _ _ _, World.ownsRow_nil _ _ _ _, .inl rfl⟩, Below.refl _ _⟩
    case round =>
      obtain ⟨k, hgk, hk9, rfl, htwo, hbel⟩ := hrel
      have hszr := hbel.size
      obtain ⟨az, cz, rfl⟩ := owns_isSlice htwo.o
      obtain ⟨aw, cw, rfl⟩ := owns_isSlice htwo.f
      by_cases hk : k < 9
      · have hkI : (k : Int) < 9 := by omega
        have x1 : IntKind.i64.wrap (49 + (k : Int)) = 49 + (k : Int) := by rw [IntKind.wrap_i64]; omega
        have x2 : IntKind.u8.wrap (49 + (k : Int)) = 49 + (k : Int) := by rw [IntKind.wrap_u8]; omega
        have hconv := conv_dig k hk wr
        have htwo1 := htwo.alloc (.cells #[.int .u8 (49 + (k : Int))] 5)
        have hbel1 := hbel.alloc hszr (.cells #[.int .u8 (49 + (k : Int))] 5)
        have hlz := zL_length kk k
        have hlw := wL_length kk k
        have hb1 : (zL kk k).length + 1 ≤ maxLen := by unfold maxLen; omega
        have hb2 : ((zL kk k).length + 1) * 16 ≤ 140737488355328 := by omega
        have hb3' : (wL kk k).length + 1 ≤ maxLen := by unfold maxLen; omega
        have hb4 : ((wL kk k).length + 1) * 16 ≤ 140737488355328 := by omega
        clear hlz hlw
        have hon : ∀ t : ByteArray, ∀ u ∈ [Value.string t], u.oneCell' = true := by intro t u hu; simp at hu; subst hu; rfl
        have hG : Hid (gk = 9 - k) := hgk
        clear hgk
        by_cases e1 : k = kk
        · have hE : Hid (zAt kk k = ⟨#[111, 116, 104, 101, 114]⟩ ∧ wAt kk k = ⟨#[111, 116, 104, 101, 114]⟩) := by
            refine ⟨by unfold zAt; rw [if_pos e1]; rfl, by unfold wAt zAt; rw [if_neg (by omega), if_pos e1]; rfl⟩
          have q1 : ((k : Int) == (kk : Int)) = true := by simp [e1]
          have q2 : ((k : Int) == 4) = false := by simp; omega
          clear e1
          go_wp2_with (first | (at_builtin; refine wpList_append_own2 rfl (.tmp 48) (.tmp 50) 31 rfl W3.heap.size 9 i0 _ 1 16 Tryd.underlying31 hi hz0 hz1 hz2 rfl (by decide) (.slice az (zL kk k).length cz) (zL kk k).length (strCells (zL kk k)) rfl (htwo1.o.alloc _) ⟨wr.heap.size + 1, 0, none⟩ 1 1 [.string (⟨#[111, 116, 104, 101, 114]⟩)] rfl rfl (cells_new' (W := wr.alloc (.cells #[.int .u8 (49 + (k : Int))] 5)) (by simp) [.string (⟨#[111, 116, 104, 101, 114]⟩)] 9) (hon _) hb1 hb2 (by simp; omega) ?_; intro vz' wz hownz hgrz hnewz; have htwo2 := htwo1.addO hownz hgrz hnewz; have hbz := (hbel1.alloc (by simp; omega) _).grown hgrz (by simp; omega) (fun j e => (htwo1.o.lt j e).1); have hsz := hbz.size) | (at_builtin; refine wpList_append_own2 rfl (.tmp 54) (.tmp 56) 31 rfl W3.heap.size 9 i0 _ 1 16 Tryd.underlying31 hi hz0 hz1 hz2 rfl (by decide) (.slice aw (wL kk k).length cw) (wL kk k).length (strCells (wL kk k)) rfl (htwo2.f.alloc _) ⟨wz.heap.size, 0, none⟩ 1 1 [.string (⟨#[111, 116, 104, 101, 114]⟩)] rfl rfl (cells_new wz [.string (⟨#[111, 116, 104, 101, 114]⟩)] 9) (hon _) hb3' hb4 (by simp; omega) ?_; intro vw' ww hownw hgrw hneww; have htwo3 := htwo2.addF hownw hgrw hneww; have hbw := (hbz.alloc (by omega) _).grown hgrw (by simp; omega) (fun j e => (htwo2.f.lt j e).1)))
          go_roundg (9 - (k + 1))
          · exact ⟨k + 1, rfl, by omega, by push_cast; rfl, by rw [zL_succ, wL_succ, hE.out.1, hE.out.2]; exact htwo3, hbw⟩
          · have := hG.out; omega
        · by_cases e2 : k = 4
          · have hE : Hid (zAt kk k = digB k ∧ wAt kk k = ⟨#[102, 105, 118, 101]⟩) := by
              refine ⟨by unfold zAt; rw [if_neg e1], by unfold wAt; rw [if_pos e2]; rfl⟩
            have q1 : ((k : Int) == (kk : Int)) = false := by simp; omega
            have q2 : ((k : Int) == 4) = true := by simp; omega
            clear e1 e2
            go_wp2_with (first | (at_builtin; refine wpList_append_own2 rfl (.tmp 48) (.tmp 50) 31 rfl W3.heap.size 9 i0 _ 1 16 Tryd.underlying31 hi hz0 hz1 hz2 rfl (by decide) (.slice az (zL kk k).length cz) (zL kk k).length (strCells (zL kk k)) rfl (htwo1.o.alloc _) ⟨wr.heap.size + 1, 0, none⟩ 1 1 [.string (digB k)] rfl rfl (cells_new' (W := wr.alloc (.cells #[.int .u8 (49 + (k : Int))] 5)) (by simp) [.string (digB k)] 9) (hon _) hb1 hb2 (by simp; omega) ?_; intro vz' wz hownz hgrz hnewz; have htwo2 := htwo1.addO hownz hgrz hnewz; have hbz := (hbel1.alloc (by simp; omega) _).grown hgrz (by simp; omega) (fun j e => (htwo1.o.lt j e).1); have hsz := hbz.size) | (at_builtin; refine wpList_append_own2 rfl (.tmp 54) (.tmp 56) 31 rfl W3.heap.size 9 i0 _ 1 16 Tryd.underlying31 hi hz0 hz1 hz2 rfl (by decide) (.slice aw (wL kk k).length cw) (wL kk k).length (strCells (wL kk k)) rfl (htwo2.f.alloc _) ⟨wz.heap.size, 0, none⟩ 1 1 [.string (⟨#[102, 105, 118, 101]⟩)] rfl rfl (cells_new wz [.string (⟨#[102, 105, 118, 101]⟩)] 9) (hon _) hb3' hb4 (by simp; omega) ?_; intro vw' ww hownw hgrw hneww; have htwo3 := htwo2.addF hownw hgrw hneww; have hbw := (hbz.alloc (by omega) _).grown hgrw (by simp; omega) (fun j e => (htwo2.f.lt j e).1)))
            go_roundg (9 - (k + 1))
            · exact ⟨k + 1, rfl, by omega, by push_cast; rfl, by rw [zL_succ, wL_succ, hE.out.1, hE.out.2]; exact htwo3, hbw⟩
            · have := hG.out; omega
          · have hE : Hid (zAt kk k = digB k ∧ wAt kk k = digB k) := by
              refine ⟨by unfold zAt; rw [if_neg e1], by unfold wAt zAt; rw [if_neg e2, if_neg e1]⟩
            have q1 : ((k : Int) == (kk : Int)) = false := by simp; omega
            have q2 : ((k : Int) == 4) = false := by simp; omega
            go_wp2_with (first | (at_builtin; refine wpList_append_own2 rfl (.tmp 48) (.tmp 50) 31 rfl W3.heap.size 9 i0 _ 1 16 Tryd.underlying31 hi hz0 hz1 hz2 rfl (by decide) (.slice az (zL kk k).length cz) (zL kk k).length (strCells (zL kk k)) rfl (htwo1.o.alloc _) ⟨wr.heap.size + 1, 0, none⟩ 1 1 [.string (digB k)] rfl rfl (cells_new' (W := wr.alloc (.cells #[.int .u8 (49 + (k : Int))] 5)) (by simp) [.string (digB k)] 9) (hon _) hb1 hb2 (by simp; omega) ?_; intro vz' wz hownz hgrz hnewz; have htwo2 := htwo1.addO hownz hgrz hnewz; have hbz := (hbel1.alloc (by simp; omega) _).grown hgrz (by simp; omega) (fun j e => (htwo1.o.lt j e).1); have hsz := hbz.size) | (at_builtin; refine wpList_append_own2 rfl (.tmp 54) (.tmp 56) 31 rfl W3.heap.size 9 i0 _ 1 16 Tryd.underlying31 hi hz0 hz1 hz2 rfl (by decide) (.slice aw (wL kk k).length cw) (wL kk k).length (strCells (wL kk k)) rfl (htwo2.f.alloc _) ⟨wz.heap.size, 0, none⟩ 1 1 [.string (digB k)] rfl rfl (cells_new wz [.string (digB k)] 9) (hon _) hb3' hb4 (by simp; omega) ?_; intro vw' ww hownw hgrw hneww; have htwo3 := htwo2.addF hownw hgrw hneww; have hbw := (hbz.alloc (by omega) _).grown hgrw (by simp; omega) (fun j e => (htwo2.f.lt j e).1)))
            go_roundg (9 - (k + 1))
            · exact ⟨k + 1, rfl, by omega, by push_cast; rfl, by rw [zL_succ, wL_succ, hE.out.1, hE.out.2]; exact htwo3, hbw⟩
            · have := hG.out; omega
      · obtain rfl : k = 9 := by omega
        obtain ⟨f1, f2, f3, f4, f5⟩ := fz_facts hH1.out.1 hH1.out.2
        clear hH1
        have hrz := RowS.of_owns htwo.o
        have hrw := RowS.of_owns htwo.f
        have hkt := text_drew hrz (by omega)
        have hH3 := (((hH.below hb3).mono hb3.size).below hbel.drew).mono (show W3.heap.size ≤ wr.drew.heap.size from hszr)
        have hm3 := ((hbel.drew.cell (p := ⟨0, 0, none⟩) (by show 0 < W3.heap.size; omega)).trans ((hb3.cell (p := ⟨0, 0, none⟩) (by show 0 < w2.heap.size; omega)).trans ((b2.cell (p := ⟨0, 0, none⟩) (by show 0 < w1.heap.size; omega)).trans hm1)))
        have hap := apply_of (fz := f) (cap := cap) (a := a) f1 (by omega) hH3 hm3 (by show 0 < wr.heap.size; omega)
        have hc0 : wr.drew.cell? ⟨w2.heap.size, 0, none⟩ = some (.slice a 1 cap) := cell_of ((hbel.drew.block w2.heap.size (by omega)).trans hp3) rfl
        have hbf : Below w.heap.size w wr.drew := b1.trans ((b2.mono (by omega)).trans ((hb3.mono (by omega)).trans (hbel.drew.mono (by omega))))
        clear f1 hH hH3 hm3 hb3 hbel b1 b2 hm1 hm hm0 hp2 hp3 htwo
        generalize hTT : applyT (linesB (textB (zL kk 9))) f [fzH] = TT at hap f4 f5
        generalize hSS : applyS (linesB (textB (zL kk 9))) f [fzH] = SS at hap f4 f5
        clear hTT hSS
        go_wp2_with fail
        go_cut [16, 17, 18] from 20 (fun vs vl ve wc => ∃ a' c', vs = .string TT ∧ vl = .slice a' 1 c' ∧ ve = .int .i64 0 ∧ SeamsAt wc (.slice a' 1 c') SS ∧ Below wr.drew.heap.size wr.drew wc)
        case first =>
          go_region_law (first | (refine step_call rfl 15 _ _ rfl #[.slice az (zL kk 9).length cz] (by simp [Act.eval, Act.put]) (run_ktext _ _) (fun v w' => v = .string (textB (zL kk 9)) ∧ w' = wr.drew) (hkt.mono (fun e w' h => ⟨_, h.1, rfl, h.2⟩)) ?_; rintro v w' ⟨rfl, rfl⟩) | (refine step_call rfl 17 _ _ rfl #[.string (textB (zL kk 9)), .agg #[.slice a 1 cap], .int .i64 f] (by simp [Act.eval]) (run_kapply _ _ _ _) (fun v w' => ∃ a' c', v = .tuple #[.string TT, .slice a' 1 c', .int .i64 0] ∧ SeamsAt w' (.slice a' 1 c') SS ∧ Below wr.drew.heap.size wr.drew w') (hap.mono (by rintro e w' ⟨a', c', rfl, h1, h2⟩; exact ⟨_, rfl, a', c', rfl, h1, h2⟩)) ?_; rintro v w4 ⟨a', c', rfl, hS, b4⟩))
          all_goals
            go_wp2_with fail
            go_meet
            case rel => exact ⟨a', c', rfl, rfl, rfl, hS, b4⟩
        case rest =>
          obtain ⟨a', c', rfl, rfl, rfl, hS, b4⟩ := hcut
          have hkz := ktext_any ((hrz.of_heap (w' := wr.drew) (fun _ _ _ h => h)).below b4) (by omega)
          have hkw := ktext_any ((hrw.of_heap (w' := wr.drew) (fun _ _ _ h => h)).below b4) (by omega)
          have hbe : Below w.heap.size w wc := hbf.trans (b4.mono (by show w.heap.size ≤ wr.heap.size; omega))
          by_cases hlt : f < 5 - (d + 1)
          · obtain ⟨e1, e2⟩ := f4 hlt
            subst e1 e2
            rcases hS with ⟨e, _⟩ | ⟨g, cs, e, hg, hc⟩
            · cases e
            cases e
            obtain ⟨s0, s1, s2⟩ := hc 0 (by simp)
            have t0 : wc.cell? ⟨g, 0, none⟩ = some (.bool false) := s0
            have t1 : wc.cell? ⟨g, 1, none⟩ = some (.int .i64 0) := s1
            have t2 : wc.cell? ⟨g, 2, none⟩ = some (.int .i64 0) := s2
            have hltI : (f : Int) < 5 - (1 + (d : Int)) := by omega
            clear f2 f3 f4 f5 hkt hap hc0 hrz hrw s0 s1 s2 hc hlt hbf b4 hkw
            go_wp2_with (go_at_call 15; refine hkz.mono ?_; rintro e w' ⟨rfl, rfl⟩)
            go_ret
            exact ⟨rfl, hbe⟩
          · obtain ⟨e1, e2⟩ := f5 hlt
            subst e1 e2
            rcases hS with ⟨e, _⟩ | ⟨g, cs, e, hg, hc⟩
            · cases e
            cases e
            obtain ⟨s0, s1, s2⟩ := hc 0 (by simp)
            have t0 : wc.cell? ⟨g, 0, none⟩ = some (.bool true) := s0
            have t1 : wc.cell? ⟨g, 1, none⟩ = some (.int .i64 0) := s1
            have e5 : ((5 - (d + 1) : Nat) : Int) = 5 - (1 + (d : Int)) := by omega
            have t2 : wc.cell? ⟨g, 2, none⟩ = some (.int .i64 (5 - (1 + (d : Int)))) := by rw [← e5]; exact s2
            have hltI : ¬ (f : Int) < 5 - (1 + (d : Int)) := by omega
            clear f2 f3 f4 f5 hkt hap hc0 hrz hrw s0 s1 s2 hc hlt hbf b4 hkz e5
            go_wp2_with (go_at_call 15; refine hkw.mono ?_; rintro e w' ⟨rfl, rfl⟩)
            go_ret
            exact ⟨rfl, hbe⟩
end Go.Proofs.YtcclgodahlinbaaDoor
