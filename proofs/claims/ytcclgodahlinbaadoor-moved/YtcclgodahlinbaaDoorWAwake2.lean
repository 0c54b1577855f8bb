import Derived.Test.YtcclgodahlinbaaDoorWAwake
namespace Go.Proofs.YtcclgodahlinbaaDoor
open Go.RowKit Go
set_option maxRecDepth 100000

def awA : ByteArray := ⟨#[97, 10, 98, 10, 99, 10, 100, 10]⟩
def awB : ByteArray := ⟨#[97, 10, 120, 10, 99, 10, 100, 10]⟩
def awC : ByteArray := ⟨#[110, 10, 97, 10, 98, 10, 99, 10, 100, 10]⟩
def awD : ByteArray := ⟨#[110, 10, 97, 10, 120, 10, 99, 10, 100, 10]⟩
def awH : HunkM := ⟨1, 3, 1, 3, [⟨32, ⟨#[97]⟩⟩, ⟨45, ⟨#[98]⟩⟩, ⟨43, ⟨#[120]⟩⟩, ⟨32, ⟨#[99]⟩⟩]⟩
theorem aw_check : checkB awA awB (1 : Nat) = 0 := by kernel_rfl
theorem aw_diff : diffM awA awB 1 = [awH] := by kernel_rfl
theorem aw_ok : applyOkB awC [awH] = true := by kernel_rfl
theorem aw_text : applyT (linesB awC) 0 [awH] = awD := by kernel_rfl
theorem aw_seams : applyS (linesB awC) 0 [awH] = [⟨true, 1, 0⟩] := by kernel_rfl

set_option maxHeartbeats 2000000 in
theorem awake_any {m : Int} {w : World} (hm : w.cell? ⟨0, 0, none⟩ = some (.int .i64 m)) (hm0 : 0 < w.heap.size) :
    Calls Tryd.prog 9 #[] w fun e w' => e = .returned (.bool true) ∧ Below w.heap.size w w' := by
  have hd := diff_at (c := 1) (w := w) aw_check (by decide) (by decide) hm
  rw [aw_diff] at hd
  have hd' : Calls Tryd.prog 14 #[.string ⟨#[97, 10, 98, 10, 99, 10, 100, 10]⟩, .string ⟨#[97, 10, 120, 10, 99, 10, 100, 10]⟩, .int .i64 1] w fun e w' =>
      ∃ a cap, e = .returned (.tuple #[.agg #[.slice a 1 cap], .int .i64 0]) ∧ HunksAt w'.heap.size w' (.slice a 1 cap) [awH] ∧ Below w.heap.size w w' := hd
  clear hd
  go_enter Tryd.func9, Tryd.ntmps9
  go_wp2_with fail
  refine hd'.mono ?_
  clear hd'
  rintro e w1 ⟨a, cap, rfl, hH, b1⟩
  have hz1 := b1.size
  go_wp2_with fail
  have hb2 := (Below.refl w1.heap.size w1).alloc (Nat.le_refl _) (.cells #[.slice a 1 cap] 37)
  have hp2 := heap_alloc_new w1 (.cells #[.slice a 1 cap] 37)
  have z2 : (w1.alloc (.cells #[.slice a 1 cap] 37)).heap.size = w1.heap.size + 1 := by simp
  generalize w1.alloc (.cells #[.slice a 1 cap] 37) = W2 at hb2 hp2 z2 ⊢
  have hH2 := (hH.below hb2).mono hb2.size
  have hm2 := (hb2.cell (p := ⟨0, 0, none⟩) (by show 0 < _; omega)).trans ((b1.cell (p := ⟨0, 0, none⟩) hm0).trans hm)
  have ha := apply_of (fz := 0) (cap := cap) (a := a) aw_ok (by omega) hH2 hm2 (by omega)
  rw [aw_text, aw_seams] at ha
  have ha' : Calls Tryd.prog 17 #[.string ⟨#[110, 10, 97, 10, 98, 10, 99, 10, 100, 10]⟩, .agg #[.slice a 1 cap], .int .i64 0] W2 fun e w' =>
      ∃ a' c', e = .returned (.tuple #[.string ⟨#[110, 10, 97, 10, 120, 10, 99, 10, 100, 10]⟩, .slice a' 1 c', .int .i64 0]) ∧ SeamsAt w' (.slice a' 1 c') [⟨true, 1, 0⟩] ∧ Below W2.heap.size W2 w' := ha
  clear ha
  refine ha'.mono ?_
  clear ha'
  rintro e w3 ⟨a', c', rfl, hS, b3⟩
  have hp3 := (b3.block w1.heap.size (by omega)).trans hp2
  have hH3 := hH2.below b3
  obtain ⟨b, a'', c'', rfl, hbB, r0, r1, r2, r3, r4, hst⟩ := hH3.at (i := 0) (by decide)
  rcases hS with ⟨e, _⟩ | ⟨g, cs, e, hg, hc⟩
  · cases e
  cases e
  obtain ⟨s0, s1, s2⟩ := hc 0 (by decide)
  have q0 : w3.cell? ⟨w1.heap.size, 0, none⟩ = some (.slice (some ⟨b, 0, none⟩) 1 cap) := cell_of hp3 rfl
  have t0 : w3.cell? ⟨g, 0, none⟩ = some (.bool true) := s0
  have t1 : w3.cell? ⟨g, 1, none⟩ = some (.int .i64 1) := s1
  have t2 : w3.cell? ⟨g, 2, none⟩ = some (.int .i64 0) := s2
  have t4 : w3.cell? ⟨b, 4, none⟩ = some (.slice a'' 4 c'') := r4
  have hfin : Below w.heap.size w w3 := b1.trans ((hb2.mono (by omega)).trans (b3.mono (by omega)))
  clear r0 r1 r2 r3 r4 s0 s1 s2 hc hH hH2 hH3 hst
  go_wp2_with fail
  go_ret
  exact ⟨rfl, hfin⟩
end Go.Proofs.YtcclgodahlinbaaDoor
