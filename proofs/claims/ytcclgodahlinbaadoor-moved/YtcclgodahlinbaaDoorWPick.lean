import Derived.Test.YtcclgodahlinbaaDoorWApply
namespace Go.Proofs.YtcclgodahlinbaaDoor
open Go.RowKit Go
set_option maxRecDepth 100000

/-- which of n things a raw number speaks of -/
def pickN (c : Int) (n : Nat) : Nat := ((if c < 0 then -(c + 1) else c) % n).toNat
theorem pickN_lt (c : Int) {n : Nat} (h : 0 < n) : pickN c n < n := by
  unfold pickN
  have h1 := Int.emod_nonneg (if c < 0 then -(c + 1) else c) (b := (n : Int)) (by omega)
  have h2 := Int.emod_lt_of_pos (if c < 0 then -(c + 1) else c) (b := (n : Int)) (by omega)
  omega

set_option maxHeartbeats 400000 in
theorem pick_any (c : Int) (n : Nat) (w : World) (hc : -9223372036854775808 ≤ c ∧ c ≤ 9223372036854775807) (hn : 0 < n) (hn2 : n ≤ 1000) :
    Calls Tryd.prog 12 #[.int .i64 c, .int .i64 (n : Int)] w fun e w' => e = .returned (.int .i64 (pickN c n : Nat)) ∧ w = w' := by
  have hne : ¬ ((n : Int) = 0) := by omega
  by_cases h : c < 0
  · have e1 : IntKind.i64.wrap (c + 1) = c + 1 := by rw [IntKind.wrap_i64]; omega
    have e2 : IntKind.i64.wrap (-(c + 1)) = -(c + 1) := by rw [IntKind.wrap_i64]; omega
    have h1 := Int.emod_nonneg (-(c + 1)) (b := (n : Int)) (by omega)
    have h2 := Int.emod_lt_of_pos (-(c + 1)) (b := (n : Int)) (by omega)
    have e3 : ((pickN c n : Nat) : Int) = -(c + 1) % n := by unfold pickN; rw [if_pos h]; omega
    rw [e3]
    go_enter Tryd.func12, Tryd.ntmps12
    go_wp2
    go_ret
    refine ⟨ret_int ?_, rfl⟩
    rw [← Int.neg_tmod, Int.tmod_eq_emod_of_nonneg (by omega)]
  · have h1 := Int.emod_nonneg c (b := (n : Int)) (by omega)
    have h2 := Int.emod_lt_of_pos c (b := (n : Int)) (by omega)
    have e3 : ((pickN c n : Nat) : Int) = c % n := by unfold pickN; rw [if_neg h]; omega
    rw [e3]
    go_enter Tryd.func12, Tryd.ntmps12
    go_wp2
    go_ret
    exact ⟨rfl, rfl⟩

/-- lines joined, as a string -/
def textB (l : List ByteArray) : ByteArray := ⟨(textL l).toArray⟩
theorem textB_take (l : List ByteArray) (k : Nat) (h : k < l.length) : textB (l.take k) ++ l.getD k ByteArray.empty ++ ⟨#[10]⟩ = textB (l.take (k + 1)) := by
  apply ByteArray.ext
  unfold textB
  rw [textL_take l k h]
  simp [ByteArray.data_append]
set_option maxHeartbeats 1000000 in
theorem ktext_any {w : World} {a : Option Addr} {c : Nat} {L : List ByteArray} (hR : RowS w (.slice a L.length c) L) (hl : (textL L).length ≤ 100000) :
    Calls Tryd.prog 15 #[.slice a L.length c] w fun e w' => e = .returned (.string (textB L)) ∧ w = w' := by
  have hLl := textL_len L
  go_enter Tryd.func15, Tryd.ntmps15
  go_wp2
  go_loopg [3, 4] L.length (fun g s x wr => ∃ k : Nat, g = L.length - k ∧ k ≤ L.length ∧ x = .int .i64 k ∧ s = .string (textB (L.take k)) ∧ wr = w)
  case atStart => exact ⟨0, by omega, by omega, rfl, rfl, rfl⟩
  case round =>
    obtain ⟨k, hgk, hkl, rfl, rfl, rfl⟩ := hrel
    by_cases hkk : k < L.length
    · have hkI : (k : Int) < L.length := by omega
      obtain ⟨b, off, rfl, hc⟩ := hR.at hkk
      have htk := textB_take L k hkk
      have hle := textL_take_le L (k + 1)
      rw [textL_take L k hkk] at hle
      simp only [List.length_append, List.length_cons, List.length_nil] at hle
      have hsz : (textB (L.take k)).size = (textL (L.take k)).length := by unfold textB; rfl
      generalize L.getD k ByteArray.empty = s at hc htk hle
      have hss : s.data.toList.length = s.size := rfl
      have hA : Hid (gk = L.length - k ∧ textB (L.take k) ++ s ++ ⟨#[10]⟩ = textB (L.take (k + 1))) := ⟨hgk, htk⟩
      clear hgk htk
      go_wp2_with fail
      go_roundg (L.length - (k + 1))
      · exact ⟨k + 1, rfl, by omega, by push_cast; rfl, by rw [hA.out.2], rfl⟩
      · have := hA.out.1; omega
    · obtain rfl : k = L.length := by omega
      go_wp2
      go_ret
      refine ⟨?_, rfl⟩
      show Ending.returned (.string (textB (L.take L.length))) = _
      rw [List.take_length]
end Go.Proofs.YtcclgodahlinbaaDoor
