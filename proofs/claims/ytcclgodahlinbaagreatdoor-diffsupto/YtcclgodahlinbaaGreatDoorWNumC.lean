import Derived.Test.YtcclgodahlinbaaGreatDoorWNumM
import Derived.Test.YtcclgodahlinbaaGreatDoorShelf2
namespace Go.Proofs.YtcclgodahlinbaaGreatDoor
open Go.RowKit Go
set_option maxRecDepth 100000

theorem below_drewN (w : World) (n : Nat) : Below w.heap.size w (w.drewN n) := ⟨rfl, rfl, rfl, Nat.le_refl _, fun _ _ => rfl⟩
theorem itoa_num {i : Nat} (hi : i < 100) (w : World) : Calls Tryz.prog 133 #[.int .i64 (i : Int)] w fun e w' => e = .returned (.string ⟨(num2 i).toArray⟩) ∧ w' = w := by
  have := Tryz.strconv_Itoa_small i hi w
  rwa [dec_num2 i hi] at this
theorem size_mk (l : List UInt8) : (⟨l.toArray⟩ : ByteArray).size = l.length := by show l.toArray.size = _; simp
theorem span_any {f c : Nat} (h1 : f < 100) (h2 : c < 100) (w : World) : Calls Tryz.prog 109 #[.int .i64 (f : Int), .int .i64 (c : Int)] w fun e w' => e = .returned (.string ⟨(spanM f c).toArray⟩) ∧ w' = w := by
  have m1 := fun w => itoa_num h1 w
  have m2 := fun w => itoa_num h2 w
  have hT : Hid ((⟨(spanM f c).toArray⟩ : ByteArray) = ⟨(num2 f).toArray⟩ ++ ⟨#[44]⟩ ++ ⟨(num2 c).toArray⟩) := by
    unfold Hid
    apply ByteArray.ext
    simp [ByteArray.data_append, spanM]
  have z1 : (⟨(num2 f).toArray⟩ : ByteArray).size ≤ 2 := by rw [size_mk]; exact num2_len h1
  have z2 : (⟨(num2 c).toArray⟩ : ByteArray).size ≤ 2 := by rw [size_mk]; exact num2_len h2
  generalize (⟨(num2 f).toArray⟩ : ByteArray) = s1 at *
  generalize (⟨(num2 c).toArray⟩ : ByteArray) = s2 at *
  generalize (⟨(spanM f c).toArray⟩ : ByteArray) = s3 at *
  go_enter Tryz.func109, Tryz.ntmps109
  go_wp2_with (first | (go_at_call 133; refine (m1 _).mono ?_; clear m1; rintro e w' ⟨rfl, rfl⟩) | (go_at_call 133; refine (m2 _).mono ?_; rintro e w' ⟨rfl, rfl⟩))
  go_ret
  exact ⟨by rw [hT.out]; rfl, rfl⟩
/-- what the calls need of the package variables -/
structure Glob (w : World) : Prop where
  ml : ∃ m, w.cell? ⟨0, 0, none⟩ = some (.int .i64 m)
  es : ∃ ev, w.cell? ⟨4, 0, none⟩ = some ev ∧ (ev = .nilIface ∨ ∃ te pe, ev = .iface te pe)
  sz : 5 ≤ w.heap.size
theorem Glob.below {w w' : World} {N : Nat} (h : Glob w) (hb : Below N w w') (hN : 5 ≤ N) (hs : w.heap.size ≤ w'.heap.size) : Glob w' := by
  obtain ⟨m, hm⟩ := h.ml
  obtain ⟨ev, he, hc⟩ := h.es
  have := h.sz
  exact ⟨⟨m, (hb.cell (p := ⟨0, 0, none⟩) (by show 0 < N; omega)).trans hm⟩, ⟨ev, (hb.cell (p := ⟨4, 0, none⟩) (by show 4 < N; omega)).trans he, hc⟩, by omega⟩
theorem Glob.next {w w' : World} (h : Glob w) (hb : Below w.heap.size w w') : Glob w' := h.below hb h.sz hb.size

theorem atoi_num {i : Nat} (hi : i < 100) (w : World) : Calls Tryz.prog 154 #[.string ⟨(num2 i).toArray⟩] w fun e w' => e = .returned (.tuple #[.int .i64 (i : Int), .nilIface]) ∧ Below w.heap.size w w' := by
  have hl : (⟨(num2 i).toArray⟩ : ByteArray).size ≤ 9223372036854775806 := by
    have := num2_len hi
    show (num2 i).toArray.size ≤ _
    simp
    omega
  refine (Tryz.strconv_Atoi_ok ⟨(num2 i).toArray⟩ hl i (by simpa using atoi_num2 i hi) w).mono ?_
  rintro e w' ⟨rfl, h⟩
  refine ⟨rfl, ?_⟩
  rcases h with rfl | ⟨t, rfl⟩
  · exact Below.refl _ _
  · exact Lib.bytesWorld_below _ _ _
theorem atoi_bad {d : List UInt8} (h : Lib.atoiAll d = Lib.atoiAll []) (hl : d.length ≤ 1000) {w : World} (hg : Glob w) : Calls Tryz.prog 154 #[.string ⟨d.toArray⟩] w fun e w' => (∃ t p, e = .returned (.tuple #[.int .i64 0, .iface t p])) ∧ Below w.heap.size w w' := by
  obtain ⟨ev, he, hc⟩ := hg.es
  refine (Tryz.strconv_Atoi_syntax ⟨d.toArray⟩ (by show d.toArray.size ≤ _; simp; omega) (by simpa using h) ev w he hc).mono ?_
  rintro e w' ⟨N, rfl, _, _, hb⟩
  exact ⟨⟨_, _, rfl⟩, hb⟩
set_option maxHeartbeats 1000000 in
theorem readNumber_ok {i : Nat} (hi : i < 100) (w : World) : Calls Tryz.prog 150 #[.string ⟨(num2 i).toArray⟩] w fun e w' => e = .returned (.tuple #[.int .i64 (i : Int), .bool true]) ∧ Below w.heap.size w w' := by
  have m1 := atoi_num hi w
  have m2 := fun w => itoa_num hi w
  have hi0 : (0 : Int) ≤ i := by omega
  generalize (⟨(num2 i).toArray⟩ : ByteArray) = s at *
  go_enter Tryz.func150, Tryz.ntmps150
  go_wp2_with (first | (go_at_call 154; refine m1.mono ?_; rintro e w' ⟨rfl, hb⟩) | (go_at_call 133; refine (m2 _).mono ?_; rintro e w' ⟨rfl, rfl⟩))
  go_ret2
  exact ⟨by simp, hb⟩
set_option maxHeartbeats 1000000 in
theorem readNumber_bad {d : List UInt8} (h : Lib.atoiAll d = Lib.atoiAll []) (hl : d.length ≤ 1000) {w : World} (hg : Glob w) : Calls Tryz.prog 150 #[.string ⟨d.toArray⟩] w fun e w' => e = .returned (.tuple #[.int .i64 0, .bool false]) ∧ Below w.heap.size w w' := by
  have m1 := atoi_bad h hl hg
  generalize (⟨d.toArray⟩ : ByteArray) = s at *
  go_enter Tryz.func150, Tryz.ntmps150
  go_wp2_with (go_at_call 154; refine m1.mono ?_; rintro e w' ⟨⟨t, p, rfl⟩, hb⟩)
  go_ret2
  exact ⟨rfl, hb⟩

/-! ### cut -/
theorem cut_yes {a b sep : List UInt8} {c : UInt8} {t : List UInt8} (hs : sep = c :: t) (ha : c ∉ a) (hl : (a ++ sep ++ b).length ≤ 100000) {w : World} (hg : Glob w) :
    Calls Tryz.prog 34 #[.string ⟨(a ++ sep ++ b).toArray⟩, .string ⟨sep.toArray⟩] w fun e w' => e = .returned (.tuple #[.string ⟨a.toArray⟩, .string ⟨b.toArray⟩, .bool true]) ∧ Below w.heap.size w w' := by
  obtain ⟨m, hm⟩ := hg.ml
  have hz : (⟨(a ++ sep ++ b).toArray⟩ : ByteArray).size = (a ++ sep ++ b).length := by show (a ++ sep ++ b).toArray.size = _; simp
  refine (Tryz.strings_Cut ⟨(a ++ sep ++ b).toArray⟩ ⟨sep.toArray⟩ m w (by omega) hm).mono ?_
  rintro e w' ⟨rfl, n, rfl⟩
  refine ⟨?_, below_drewN _ n⟩
  have := cut_first (b := b) hs ha
  show Ending.returned (.tuple #[.string ⟨(Lib.cut (a ++ sep ++ b) sep).1.toArray⟩, .string ⟨(Lib.cut (a ++ sep ++ b) sep).2.1.toArray⟩, .bool (Lib.cut (a ++ sep ++ b) sep).2.2]) = _
  rw [this]
theorem cut_no {a sep : List UInt8} {c : UInt8} {t : List UInt8} (hs : sep = c :: t) (ha : c ∉ a) (hl : a.length ≤ 100000) {w : World} (hg : Glob w) :
    Calls Tryz.prog 34 #[.string ⟨a.toArray⟩, .string ⟨sep.toArray⟩] w fun e w' => e = .returned (.tuple #[.string ⟨a.toArray⟩, .string ⟨#[]⟩, .bool false]) ∧ Below w.heap.size w w' := by
  obtain ⟨m, hm⟩ := hg.ml
  have hz : (⟨a.toArray⟩ : ByteArray).size = a.length := by show a.toArray.size = _; simp
  refine (Tryz.strings_Cut ⟨a.toArray⟩ ⟨sep.toArray⟩ m w (by omega) hm).mono ?_
  rintro e w' ⟨rfl, n, rfl⟩
  refine ⟨?_, below_drewN _ n⟩
  have := cut_none hs ha
  show Ending.returned (.tuple #[.string ⟨(Lib.cut a sep).1.toArray⟩, .string ⟨(Lib.cut a sep).2.1.toArray⟩, .bool (Lib.cut a sep).2.2]) = _
  rw [this]
set_option maxHeartbeats 1000000 in
theorem readSpan_ok {f c : Nat} (h1 : f < 100) (h2 : c < 100) {w : World} (hg : Glob w) : Calls Tryz.prog 140 #[.string ⟨(spanM f c).toArray⟩] w fun e w' => e = .returned (.tuple #[.int .i64 (f : Int), .int .i64 (c : Int), .bool true]) ∧ Below w.heap.size w w' := by
  have hlen := span_len h1 h2
  have m0 := cut_yes (a := num2 f) (b := num2 c) (sep := [44]) rfl (num2_not h1 (by decide)) (by have : (num2 f ++ [44] ++ num2 c).length = (spanM f c).length := rfl; omega) hg
  have m1 := fun w => readNumber_ok h1 w
  have m2 := fun w => readNumber_ok h2 w
  have hsp : spanM f c = num2 f ++ [44] ++ num2 c := rfl
  rw [hsp]
  clear hsp
  generalize (⟨(num2 f ++ [44] ++ num2 c).toArray⟩ : ByteArray) = s at *
  generalize (⟨(num2 f).toArray⟩ : ByteArray) = s1 at *
  generalize (⟨(num2 c).toArray⟩ : ByteArray) = s2 at *
  go_enter Tryz.func140, Tryz.ntmps140
  go_wp2_with (first | (go_at_call 34; refine m0.mono ?_; rintro e w1 ⟨rfl, hb1⟩) | (go_at_call 150; refine (m1 _).mono ?_; clear m1; rintro e w2 ⟨rfl, hb2⟩) | (go_at_call 150; refine (m2 _).mono ?_; rintro e w3 ⟨rfl, hb3⟩))
  go_ret3
  exact ⟨rfl, (hb1.trans (hb2.mono hb1.size)).trans (hb3.mono (by have := hb1.size; have := hb2.size; omega))⟩
set_option maxHeartbeats 1000000 in
theorem readSpan_bad {d : List UInt8} (h : Lib.atoiAll d = Lib.atoiAll []) (hn : (44 : UInt8) ∉ d) (hl : d.length ≤ 1000) {w : World} (hg : Glob w) : Calls Tryz.prog 140 #[.string ⟨d.toArray⟩] w fun e w' => e = .returned (.tuple #[.int .i64 0, .int .i64 0, .bool false]) ∧ Below w.heap.size w w' := by
  have m0 := cut_no (a := d) (sep := [44]) rfl hn (by omega) hg
  have m1 := fun (w : World) (hg : Glob w) => readNumber_bad h hl hg
  have m2 := fun (w : World) (hg : Glob w) => readNumber_bad (d := []) rfl (by simp) hg
  generalize (⟨d.toArray⟩ : ByteArray) = s at *
  go_enter Tryz.func140, Tryz.ntmps140
  go_wp2_with (first | (go_at_call 34; refine m0.mono ?_; rintro e w1 ⟨rfl, hb1⟩; have g1 := hg.next hb1) | (go_at_call 150; refine (m1 _ g1).mono ?_; clear m1; rintro e w2 ⟨rfl, hb2⟩; have g2 := g1.next hb2) | (go_at_call 150; refine (m2 _ g2).mono ?_; rintro e w3 ⟨rfl, hb3⟩))
  go_ret3
  exact ⟨rfl, (hb1.trans (hb2.mono hb1.size)).trans (hb3.mono (by have := hb1.size; have := hb2.size; omega))⟩
end Go.Proofs.YtcclgodahlinbaaGreatDoor
