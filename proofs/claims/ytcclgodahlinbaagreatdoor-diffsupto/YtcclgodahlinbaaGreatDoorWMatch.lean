import Derived.Test.YtcclgodahlinbaaGreatDoorWRight
namespace Go.Proofs.YtcclgodahlinbaaGreatDoor
open Go.RowKit Go
set_option maxRecDepth 100000

def matchM : Nat → Nat → Bool → List StepB → Bool
  | f, t, b, [] => decide (f = 0) && decide (t = 0) && b
  | f, t, b, s :: l => decide (s.kind = 32 ∨ s.kind = 45 ∨ s.kind = 43) && decide (kf s.kind ≤ f) && decide (kt s.kind ≤ t) && decide (¬ 0 ≤ Lib.indexByte s.text.data.toList 10) && matchM (f - kf s.kind) (t - kt s.kind) (b || decide (s.kind ≠ 32)) l

theorem contains_no (s : ByteArray) (w : World) (h : ¬ 0 ≤ Lib.indexByte s.data.toList 10) : Calls Tryz.prog 107 #[.string s, .string ⟨#[10]⟩] w fun e w' => e = .returned (.bool false) ∧ w = w' := by
  refine (Tryz.strings_Contains_one s 10 w).mono ?_
  rintro e w' ⟨rfl, rfl⟩
  exact ⟨by rw [decide_eq_false h], rfl⟩

set_option maxHeartbeats 2000000 in
theorem linesMatch_yes {h : HunkM} {a : Option Addr} {cap : Nat} {w : World} (hS : StepsAt w.heap.size w (.slice a h.lines.length cap) h.lines) (hok : matchM h.fc h.tc false h.lines = true) (hL : h.lines.length ≤ 1000) (hf : h.fc ≤ 100000) (ht : h.tc ≤ 100000) :
    Calls Tryz.prog 69 #[hunkVal h (.slice a h.lines.length cap)] w fun e w' => e = .returned (.bool true) ∧ Below w.heap.size w w' := by
  have hw0 : Below w.heap.size w (w.alloc (.cells #[.int .i64 (h.fr : Int), .int .i64 (h.fc : Int), .int .i64 (h.tr : Int), .int .i64 (h.tc : Int), .slice a h.lines.length cap] 61)) := (Below.refl _ _).alloc (Nat.le_refl _) _
  have hB0 := heap_alloc_new w (.cells #[.int .i64 (h.fr : Int), .int .i64 (h.fc : Int), .int .i64 (h.tr : Int), .int .i64 (h.tc : Int), .slice a h.lines.length cap] 61)
  have hr := restOf_any h a h.lines.length cap (w.alloc (.cells #[.int .i64 (h.fr : Int), .int .i64 (h.fc : Int), .int .i64 (h.tr : Int), .int .i64 (h.tc : Int), .slice a h.lines.length cap] 61))
  have hz0 : (w.alloc (.cells #[.int .i64 (h.fr : Int), .int .i64 (h.fc : Int), .int .i64 (h.tr : Int), .int .i64 (h.tc : Int), .slice a h.lines.length cap] 61)).heap.size = w.heap.size + 1 := by simp
  have hX : Hid (∀ w1, Below (w.alloc (.cells #[.int .i64 (h.fr : Int), .int .i64 (h.fc : Int), .int .i64 (h.tr : Int), .int .i64 (h.tc : Int), .slice a h.lines.length cap] 61)).heap.size (w.alloc (.cells #[.int .i64 (h.fr : Int), .int .i64 (h.fc : Int), .int .i64 (h.tr : Int), .int .i64 (h.tc : Int), .slice a h.lines.length cap] 61)) w1 →
      Below w.heap.size w w1 ∧ w1.cell? ⟨w.heap.size, 4, none⟩ = some (.slice a h.lines.length cap) ∧ w.heap.size < w1.heap.size) := by
    intro w1 hb
    refine ⟨hw0.trans (hb.mono (by omega)), (hb.cell (p := ⟨w.heap.size, 4, none⟩) (by simp)).trans (cell_of hB0 rfl), by have := hb.size; omega⟩
  clear hw0 hB0 hz0
  go_enter Tryz.func69, Tryz.ntmps69
  go_wp2_with (go_at_call 106; refine hr.mono ?_; rintro e w1 ⟨rfl, hb1⟩; obtain ⟨hbw, c4, hlt⟩ := hX.out w1 hb1)
  clear hX hr hb1
  have hR0 := heap_alloc_new w1 (.cells #[.int .i64 (h.fc : Int), .int .i64 (h.tc : Int), .bool false] 86)
  have hbR : Below w.heap.size w (w1.alloc (.cells #[.int .i64 (h.fc : Int), .int .i64 (h.tc : Int), .bool false] 86)) := hbw.alloc hbw.size _
  go_loopg [11] h.lines.length (fun g t wr => ∃ (k f tt : Nat) (b : Bool), g = h.lines.length - k ∧ k ≤ h.lines.length ∧ t = .int .i64 k ∧ wr.heap[w1.heap.size]? = some (.cells #[.int .i64 (f : Int), .int .i64 (tt : Int), .bool b] 86 (0, 0)) ∧ matchM f tt b (h.lines.drop k) = true ∧ f ≤ 1000000 ∧ tt ≤ 1000000 ∧ Below w.heap.size w wr)
  case atStart => exact ⟨0, h.fc, h.tc, false, by omega, by omega, rfl, hR0, hok, by omega, by omega, hbR⟩
  case round =>
    obtain ⟨k, f, tt, b, hgk, hkl, rfl, hR, hm, hf1, ht1, hbel⟩ := hrel
    clear hR0 hbR hok hbw c4
    have hsz := hbel.size
    have hRw : w1.heap.size < wr.heap.size := (Array.getElem?_eq_some_iff.1 hR).1
    by_cases hk : k < h.lines.length
    · have hkI : (k : Int) < h.lines.length := by omega
      obtain ⟨bb, rfl, hbB, r0, r1⟩ := (hS.below hbel).at hk
      rw [List.drop_eq_getElem_cons hk] at hm
      generalize h.lines[k] = s at r0 r1 hm
      rw [matchM] at hm
      simp only [Bool.and_eq_true, decide_eq_true_eq] at hm
      obtain ⟨⟨⟨⟨m1, m2⟩, m3⟩, m4⟩, m5⟩ := hm
      have hm5 : Hid _ := m5
      clear m5
      have hcon := fun w => contains_no s.text w m4
      have htk : Hid (∀ ob, Calls Tryz.prog 78 #[.pointer (some ⟨w1.heap.size, 0, none⟩), .int .u8 (s.kind : Int)] (wr.alloc ob) fun e w' =>
          e = .returned (.bool true) ∧ w'.heap[w1.heap.size]? = some (.cells #[.int .i64 ((f - kf s.kind : Nat) : Int), .int .i64 ((tt - kt s.kind : Nat) : Int), .bool (b || decide (s.kind ≠ 32))] 86 (0, 0)) ∧ (wr.alloc ob).grownBy w' (some w1.heap.size)) :=
        fun ob => resttake_yes (wr.alloc ob) ((Below.heap_alloc wr ob w1.heap.size hRw).trans hR) m1 m2 m3 hf1 ht1
      have hA : Hid (f - kf s.kind ≤ 1000000 ∧ tt - kt s.kind ≤ 1000000 ∧ gk = h.lines.length - k) := ⟨by omega, by omega, hgk⟩
      have htk2 := htk.out (.cells #[.int .u8 (s.kind : Int), .string s.text] 93)
      have hB1 := heap_alloc_new wr (.cells #[.int .u8 (s.kind : Int), .string s.text] 93)
      have hbx : Hid (∀ w', (wr.alloc (.cells #[.int .u8 (s.kind : Int), .string s.text] 93)).grownBy w' (some w1.heap.size) → w'.cell? ⟨wr.heap.size, 1, none⟩ = some (.string s.text) ∧ Below w.heap.size w w') := by
        intro w' hg
        refine ⟨cell_of ((hg.block wr.heap.size (by simp) (fun e => by have : wr.heap.size = w1.heap.size := Option.some.inj e; omega)).trans hB1) rfl, ?_⟩
        exact (hbel.alloc hsz _).grown hg (by simp; omega) (fun k e => by cases e; omega)
      clear m1 m2 m3 m4 hgk htk hB1 hR
      go_wp2_with (first | (go_at_call 78; refine htk2.mono ?_; rintro e w' ⟨rfl, hR', hg'⟩; obtain ⟨x1, hbel'⟩ := hbx.out w' hg') | (go_at_call 107; refine (hcon _).mono ?_; rintro e w'' ⟨rfl, rfl⟩))
      go_roundg (h.lines.length - (k + 1))
      case measure => have := hA.out.2.2; omega
      case rel => exact ⟨k + 1, _, _, _, rfl, by omega, by go_num, hR', hm5.out, hA.out.1, hA.out.2.1, hbel'⟩
    · have hkI : ¬ ((k : Int) < h.lines.length) := by omega
      rw [List.drop_eq_nil_of_le (by omega)] at hm
      simp only [matchM, Bool.and_eq_true, decide_eq_true_eq] at hm
      obtain ⟨⟨rfl, rfl⟩, rfl⟩ := hm
      have hd := done_yes wr
      have q0 : wr.cell? ⟨w1.heap.size, 0, none⟩ = some (.int .i64 0) := cell_of hR rfl
      have q1 : wr.cell? ⟨w1.heap.size, 1, none⟩ = some (.int .i64 0) := cell_of hR rfl
      have q2 : wr.cell? ⟨w1.heap.size, 2, none⟩ = some (.bool true) := cell_of hR rfl
      clear hR
      go_wp2_with (go_at_call 80; refine hd.mono ?_; rintro e w' ⟨rfl, hb'⟩)
      go_ret
      exact ⟨rfl, hbel.trans (hb'.mono hsz)⟩
end Go.Proofs.YtcclgodahlinbaaGreatDoor
