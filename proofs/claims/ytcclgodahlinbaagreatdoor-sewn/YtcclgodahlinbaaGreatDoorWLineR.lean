import Derived.Test.YtcclgodahlinbaaGreatDoorWReader
namespace Go.Proofs.YtcclgodahlinbaaGreatDoor
open Go.RowKit Go
set_option maxRecDepth 100000

/-- what a reader holds is small -/
def Bd (n : Nat) (st : Rd) : Prop := st.hs.length ≤ n ∧ -(100 * (n : Int)) ≤ st.gr ∧ st.gr ≤ 100 * n ∧ st.f ≤ 100 ∧ st.t ≤ 100 ∧ ∀ h ∈ st.hs, h.lines.length ≤ n
theorem Bd.start : Bd 0 Rd.start := ⟨by simp [Rd.start], by simp [Rd.start], by simp [Rd.start], by simp [Rd.start], by simp [Rd.start], by simp [Rd.start]⟩
theorem Bd.step {n : Nat} {st st' : Rd} {tk : Tok} (h : Bd n st) (hs : Step st tk st') : Bd (n + 1) st' := by
  obtain ⟨b1, b2, b3, b4, b5, b6⟩ := h
  cases tk with
  | inl h0 =>
    obtain ⟨a1, a2, a3, a4, a5, a6, rfl⟩ := hs
    have s2 := a5.2.1
    have s4 := a5.2.2.2
    refine ⟨by simp; omega, by simp only; omega, by simp only; omega, by simp only; omega, by simp only; omega, ?_⟩
    intro x hx
    rcases List.mem_append.1 hx with hx | hx
    · have := b6 x hx; omega
    · rw [List.mem_singleton] at hx
      subst hx
      rw [a4]; simp
  | inr s =>
    obtain ⟨a1, a2, a3, a4, a5, init, h0, e, rfl⟩ := hs
    rw [e] at b1 b6
    refine ⟨by simp at b1 ⊢; omega, by simp only; omega, by simp only; omega, by simp only; omega, by simp only; omega, ?_⟩
    intro x hx
    rcases List.mem_append.1 hx with hx | hx
    · have := b6 x (by simp [hx]); omega
    · rw [List.mem_singleton] at hx
      subst hx
      have := b6 h0 (by simp)
      simp
      omega

set_option maxHeartbeats 2000000 in
theorem line_head {S n : Nat} {st st' : Rd} {v : Value} {hv : List HV} {w : World} {h : HunkM} (hR : RdM S st v hv w) (hs : Step st (.inl h) st') (hb : Bd n st) (hn : n ≤ 1000) (hg : Glob w) :
    Calls Tryz.prog 35 #[.pointer (some ⟨S, 0, none⟩), .string ⟨(headM h).toArray⟩] w fun e w' => e = .returned (.bool true) ∧ (∃ v' hv', RdM S st' v' hv' w') ∧ Below S w w' := by
  obtain ⟨a1, a2, a3, a4, a5, a6, rfl⟩ := hs
  obtain ⟨b1, b2, b3, b4, b5, b6⟩ := hb
  have hlt := hR.lt
  have x3 : w.cell? ⟨S, 3, none⟩ = some (.int .i64 0) := by have := cell_of (k := 3) hR.blk rfl; rw [a1] at this; exact this
  have x4 : w.cell? ⟨S, 4, none⟩ = some (.int .i64 0) := by have := cell_of (k := 4) hR.blk rfl; rw [a2] at this; exact this
  have x5 : w.cell? ⟨S, 5, none⟩ = some (.bool st.b) := cell_of (k := 5) hR.blk rfl
  have hfu := full_yes st.b w
  have hX : Hid (∀ w1, Below w.heap.size w w1 → Calls Tryz.prog 36 #[.pointer (some ⟨S, 0, none⟩)] w1 fun e w' => e = .returned (.bool true) ∧ Below w1.heap.size w1 w') := by
    intro w1 hb1
    refine (ended_any (hR.below hb1)).mono ?_
    rintro e w' ⟨⟨r, rfl, hr⟩, hb'⟩
    exact ⟨by rw [hr.2 a3], hb'⟩
  have hY : Hid (∀ w1 w2, Below w.heap.size w w1 → Below w1.heap.size w1 w2 → Calls Tryz.prog 77 #[.pointer (some ⟨S, 0, none⟩), .string ⟨(headM h).toArray⟩] w2 fun e w' => e = .returned (.bool true) ∧ (∃ v' hv', RdM S ⟨st.hs ++ [h], placeM h.fr h.fc + h.fc, st.gr + h.tc - h.fc, h.fc, h.tc, false⟩ v' hv' w') ∧ Below S w w') := by
    intro w1 w2 hb1 hb2
    have hb12 := hb1.trans (hb2.mono hb1.size)
    refine (rdheader_ok (hR.below hb12) a5 a4 a6 (by omega) (by omega) (by omega) (hg.next hb12)).mono ?_
    rintro e w' ⟨rfl, hr, hb'⟩
    exact ⟨rfl, hr, (hb12.mono (by omega)).trans hb'⟩
  generalize (⟨(headM h).toArray⟩ : ByteArray) = s0 at *
  generalize st.b = sb at *
  go_enter Tryz.func35, Tryz.ntmps35
  go_wp2_with (first | (go_at_call 76; refine hfu.mono ?_; rintro e w1 ⟨rfl, hb1⟩; have hX1 := hX.out w1 hb1) | (go_at_call 36; refine hX1.mono ?_; rintro e w2 ⟨rfl, hb2⟩; have hY1 := hY.out w1 w2 hb1 hb2) | (go_at_call 77; refine hY1.mono ?_; rintro e w3 ⟨rfl, hr, hb3⟩))
  go_ret
  exact ⟨rfl, hr, hb3⟩
/-- a line that the reader refuses where a hunk may begin -/
def Refused (st : Rd) (l : List UInt8) : Prop := st.f = 0 ∧ st.t = 0 ∧ st.ended ∧ (l = [120] ∨ ∃ h, l = headM h ∧ Small h ∧ min h.fc 1 ≤ h.fr ∧ min h.tc 1 ≤ h.tr ∧ (placeM h.fr h.fc < st.en ∨ ((placeM h.tr h.tc : Nat) : Int) ≠ placeM h.fr h.fc + st.gr))
set_option maxHeartbeats 2000000 in
theorem line_no {S n : Nat} {st : Rd} {v : Value} {hv : List HV} {w : World} {l : List UInt8} (hR : RdM S st v hv w) (hs : Refused st l) (hb : Bd n st) (hn : n ≤ 1000) (hg : Glob w) :
    Calls Tryz.prog 35 #[.pointer (some ⟨S, 0, none⟩), .string ⟨l.toArray⟩] w fun e w' => e = .returned (.bool false) ∧ Below w.heap.size w w' := by
  obtain ⟨a1, a2, a3, a4⟩ := hs
  obtain ⟨b1, b2, b3, b4, b5, b6⟩ := hb
  have hlt := hR.lt
  have x3 : w.cell? ⟨S, 3, none⟩ = some (.int .i64 0) := by have := cell_of (k := 3) hR.blk rfl; rw [a1] at this; exact this
  have x4 : w.cell? ⟨S, 4, none⟩ = some (.int .i64 0) := by have := cell_of (k := 4) hR.blk rfl; rw [a2] at this; exact this
  have x5 : w.cell? ⟨S, 5, none⟩ = some (.bool st.b) := cell_of (k := 5) hR.blk rfl
  have hfu := full_yes st.b w
  have hX : Hid (∀ w1, Below w.heap.size w w1 → Calls Tryz.prog 36 #[.pointer (some ⟨S, 0, none⟩)] w1 fun e w' => e = .returned (.bool true) ∧ Below w1.heap.size w1 w') := by
    intro w1 hb1
    refine (ended_any (hR.below hb1)).mono ?_
    rintro e w' ⟨⟨r, rfl, hr⟩, hb'⟩
    exact ⟨by rw [hr.2 a3], hb'⟩
  have hY : Hid (∀ w1 w2, Below w.heap.size w w1 → Below w1.heap.size w1 w2 → Calls Tryz.prog 77 #[.pointer (some ⟨S, 0, none⟩), .string ⟨l.toArray⟩] w2 fun e w' => e = .returned (.bool false) ∧ Below w.heap.size w w') := by
    intro w1 w2 hb1 hb2
    have hb12 := hb1.trans (hb2.mono hb1.size)
    rcases a4 with rfl | ⟨h, rfl, c1, c2, c3, c4⟩
    · refine (rdheader_x (hR.below hb12) (hg.next hb12)).mono ?_
      rintro e w' ⟨rfl, hb'⟩
      exact ⟨rfl, hb12.trans (hb'.mono hb12.size)⟩
    · refine (rdheader_no (hR.below hb12) c1 c2 c3 c4 (by omega) (by omega) (hg.next hb12)).mono ?_
      rintro e w' ⟨rfl, hb'⟩
      exact ⟨rfl, hb12.trans (hb'.mono hb12.size)⟩
  generalize (⟨l.toArray⟩ : ByteArray) = s0 at *
  generalize st.b = sb at *
  go_enter Tryz.func35, Tryz.ntmps35
  go_wp2_with (first | (go_at_call 76; refine hfu.mono ?_; rintro e w1 ⟨rfl, hb1⟩; have hX1 := hX.out w1 hb1) | (go_at_call 36; refine hX1.mono ?_; rintro e w2 ⟨rfl, hb2⟩; have hY1 := hY.out w1 w2 hb1 hb2) | (go_at_call 77; refine hY1.mono ?_; rintro e w3 ⟨rfl, hb3⟩))
  go_ret
  exact ⟨rfl, hb3⟩
end Go.Proofs.YtcclgodahlinbaaGreatDoor
