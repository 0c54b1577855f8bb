import Derived.Test.YtcclgodahlinbaaGreatDoorWIsRight
namespace Go.Proofs.YtcclgodahlinbaaGreatDoor
open Go.RowKit Go
set_option maxRecDepth 100000

set_option maxHeartbeats 1000000 in
theorem checkApply_yes {s : ByteArray} {hs : List HunkM} {fz : Nat} {a : Option Addr} {cap : Nat} {w : World} (h1 : isTextB s = true) (h2 : largeB s = false) (hf : fz ≤ 10)
    (hH : HunksAt w.heap.size w (.slice a hs.length cap) hs) (hok : rightM 0 0 hs = true) (hL : hs.length ≤ 1000) (hsz : s.size < 4294967281) :
    Calls Tryz.prog 28 #[.string s, .agg #[.slice a hs.length cap], .int .i64 fz] w fun e w' => e = .returned (.int .i64 0) ∧ Below w.heap.size w w' := by
  have i1 := fun w => isText_any s w hsz
  have i2 := fun w => tooLarge_any s w hsz
  rw [h1] at i1
  rw [h2] at i2
  have hw0 : Below w.heap.size w (w.alloc (.cells #[.slice a hs.length cap] 32)) := (Below.refl _ _).alloc (Nat.le_refl _) _
  have hr := isRight_yes ((hH.below hw0).mono (by simp : w.heap.size ≤ (w.alloc (.cells #[.slice a hs.length cap] 32)).heap.size)) hok hL
  have t1 : ¬ ((fz : Int) < 0) := by omega
  have t2 : ¬ ((10 : Int) < fz) := by omega
  go_enter Tryz.func28, Tryz.ntmps28
  go_wp2_with (first | (go_at_call 47; refine (i1 _).mono ?_; rintro e w' ⟨rfl, rfl⟩) | (go_at_call 48; refine (i2 _).mono ?_; rintro e w' ⟨rfl, rfl⟩) | (go_at_call 31; refine hr.mono ?_; rintro e w' ⟨rfl, hb⟩))
  go_ret
  exact ⟨rfl, hw0.trans (hb.mono (by simp))⟩

/-! ### keepsAtEnds -/
/-- keeps at the beginning, keeps behind the last change, has a change come? -/
def keepsK (l : List StepB) (k : Nat) : Nat × Nat × Bool := (l.take k).foldl (fun st s => if s.kind = 32 then (if st.2.2 = true then (st.1, st.2.1 + 1, true) else (st.1 + 1, st.2.1, false)) else (st.1, 0, true)) (0, 0, false)
theorem keepsK_succ (l : List StepB) (k : Nat) (h : k < l.length) : keepsK l (k + 1) = (if l[k].kind = 32 then (if (keepsK l k).2.2 = true then ((keepsK l k).1, (keepsK l k).2.1 + 1, true) else ((keepsK l k).1 + 1, (keepsK l k).2.1, false)) else ((keepsK l k).1, 0, true)) := by
  unfold keepsK
  rw [List.take_succ_eq_append_getElem h, List.foldl_append]
  rfl
theorem keepsK_le (l : List StepB) : ∀ k, (keepsK l k).1 ≤ k ∧ (keepsK l k).2.1 ≤ k := by
  intro k
  induction k with
  | zero => simp [keepsK]
  | succ k ih =>
    by_cases h : k < l.length
    · rw [keepsK_succ l k h]
      split
      · split <;> simp <;> omega
      · simp; omega
    · have : keepsK l (k + 1) = keepsK l k := by unfold keepsK; rw [List.take_of_length_le (by omega), List.take_of_length_le (by omega)]
      rw [this]; omega

set_option maxHeartbeats 1000000 in
theorem keeps_any {L : List StepB} {a : Option Addr} {cap : Nat} {w : World} (hS : StepsAt w.heap.size w (.slice a L.length cap) L) (hL : L.length ≤ 1000) :
    Calls Tryz.prog 61 #[.slice a L.length cap] w fun e w' => e = .returned (.tuple #[.int .i64 ((keepsK L L.length).1 : Nat), .int .i64 ((keepsK L L.length).2.1 : Nat)]) ∧ Below w.heap.size w w' := by
  go_enter Tryz.func61, Tryz.ntmps61
  go_wp2
  go_loopg [2, 3, 4, 9] L.length (fun g t2 t3 t4 t wr => ∃ k : Nat, g = L.length - k ∧ k ≤ L.length ∧ t = .int .i64 k ∧ t2 = .int .i64 ((keepsK L k).1 : Nat) ∧ t3 = .int .i64 ((keepsK L k).2.1 : Nat) ∧ t4 = .bool (keepsK L k).2.2 ∧ Below w.heap.size w wr)
  case atStart => exact ⟨0, by omega, by omega, rfl, rfl, rfl, rfl, Below.refl _ _⟩
  case round =>
    obtain ⟨k, hgk, hkl, rfl, rfl, rfl, rfl, hbel⟩ := hrel
    have hsz := hbel.size
    by_cases hk : k < L.length
    · have hkI : (k : Int) < L.length := by omega
      obtain ⟨b, rfl, hbB, r0, r1⟩ := (hS.below hbel).at hk
      have hsu := keepsK_succ L k hk
      have hle := keepsK_le L k
      have hA : Hid (gk = L.length - k) := hgk
      clear hgk
      generalize L[k] = s at r0 r1 hsu
      generalize hK : keepsK L k = K at *
      obtain ⟨x, y, z⟩ := K
      simp only at hsu hle ⊢
      have hbx := hbel.alloc hsz (.cells #[.int .u8 (s.kind : Int), .string s.text] 93)
      by_cases h32 : s.kind = 32
      · have r0' : wr.cell? ⟨b, k * 2, none⟩ = some (.int .u8 32) := by rw [r0, h32]; rfl
        rw [if_pos h32] at hsu
        rw [h32] at hbx
        cases z
        · have hs2 : Hid (keepsK L (k + 1) = (x + 1, y, false)) := hsu
          clear hsu r0 h32 hK
          go_wp2
          go_roundg (L.length - (k + 1))
          case measure => have := hA.out; omega
          case rel => exact ⟨k + 1, rfl, by omega, by go_num, by rw [hs2.out]; go_num, by rw [hs2.out], by rw [hs2.out], hbx⟩
        · have hs2 : Hid (keepsK L (k + 1) = (x, y + 1, true)) := hsu
          clear hsu r0 h32 hK
          go_wp2
          go_roundg (L.length - (k + 1))
          case measure => have := hA.out; omega
          case rel => exact ⟨k + 1, rfl, by omega, by go_num, by rw [hs2.out], by rw [hs2.out]; go_num, by rw [hs2.out], hbx⟩
      · rw [if_neg h32] at hsu
        have hs2 : Hid (keepsK L (k + 1) = (x, 0, true)) := hsu
        have hne : (((s.kind : Nat) : Int) == 32) = false := by rw [beq_eq_false_iff_ne]; omega
        have hne2 : (((s.kind : Nat) : Int) != 32) = true := by simp only [bne, hne]; rfl
        clear hsu h32 hK
        go_wp2
        go_roundg (L.length - (k + 1))
        case measure => have := hA.out; omega
        case rel => exact ⟨k + 1, rfl, by omega, by go_num, by rw [hs2.out], by rw [hs2.out]; rfl, by rw [hs2.out], hbx⟩
    · have hkI : ¬ ((k : Int) < L.length) := by omega
      have hkn : k = L.length := by omega
      subst hkn
      go_wp2
      go_ret2
      exact ⟨rfl, hbel⟩
end Go.Proofs.YtcclgodahlinbaaGreatDoor
