import Derived.Test.YtcclgodahlinbaaGreatDoorWBuilder
namespace Go.Proofs.YtcclgodahlinbaaGreatDoor
open Go.RowKit Go
set_option maxRecDepth 100000

/-- a row of strings in a block of strings -/
def RowS (w : World) (v : Value) (L : List ByteArray) : Prop :=
  (L = [] ∧ ∃ a c, v = .slice a 0 c) ∨ ∃ b off cap cur fr, v = .slice (some ⟨b, off, none⟩) L.length cap ∧ L.length ≤ cap ∧ w.heap[b]? = some (.cells cur 9 fr) ∧ ∀ i, i < L.length → cur[off + i]? = some (.string (L.getD i ByteArray.empty))

theorem RowS.slice {w : World} {v : Value} {L : List ByteArray} (h : RowS w v L) : ∃ a c, v = .slice a L.length c ∧ L.length ≤ c := by
  rcases h with ⟨rfl, a, c, rfl⟩ | ⟨b, off, cap, cur, fr, rfl, hc, _⟩
  · exact ⟨a, c, rfl, Nat.zero_le _⟩
  · exact ⟨_, _, rfl, hc⟩
theorem RowS.at {w : World} {a : Option Addr} {n c : Nat} {L : List ByteArray} (h : RowS w (.slice a n c) L) {i : Nat} (hi : i < L.length) : ∃ b off, a = some ⟨b, off, none⟩ ∧ w.cell? ⟨b, off + i, none⟩ = some (.string (L.getD i ByteArray.empty)) := by
  rcases h with ⟨rfl, _⟩ | ⟨b, off, cap, cur, fr, e, hc, hb, hx⟩
  · simp at hi
  · cases e
    exact ⟨b, off, rfl, cell_of hb (hx i hi)⟩
theorem RowS.of_heap {w w' : World} {v : Value} {L : List ByteArray} (h : RowS w v L) (hk : ∀ (b : Nat) cur fr, w.heap[b]? = some (Obj.cells cur 9 fr) → w'.heap[b]? = some (Obj.cells cur 9 fr)) : RowS w' v L := by
  rcases h with h | ⟨b, off, cap, cur, fr, e, hc, hb, hx⟩
  · exact .inl h
  · exact .inr ⟨b, off, cap, cur, fr, e, hc, hk _ _ _ hb, hx⟩
theorem RowS.alloc {w : World} {v : Value} {L : List ByteArray} (h : RowS w v L) (o : Obj) : RowS (w.alloc o) v L :=
  h.of_heap fun b _ _ hb => (Below.heap_alloc w o b (Array.getElem?_eq_some_iff.1 hb).1).trans hb
theorem RowS.kept {S : Nat} {w w' : World} {v : Value} {L : List ByteArray} {cs : Array Value} {fr : Nat × Nat} (h : RowS w v L) (hS : w.heap[S]? = some (.cells cs 76 fr)) (hk : Lib.OthersKept 5 (some S) w w') : RowS w' v L :=
  h.of_heap fun b cur f hb => hk b _ hb (by rintro ⟨⟩; rw [hS] at hb; injection hb with hb; injection hb with _ e; exact absurd e (by decide)) (by intro c z e; injection e with _ e; exact absurd e (by decide))
theorem RowS.of_owns {base : Nat} {w : World} {v : Value} {l : List ByteArray} (h : w.ownsRow base 9 1 v l.length (strCells l)) : RowS w v l := by
  rcases h.2 with ⟨e, h0⟩ | ⟨g, cap, cur, e, _, hg, h1, h2, h3, h4⟩
  · exact .inl ⟨List.eq_nil_of_length_eq_zero h0, _, _, e⟩
  · refine .inr ⟨g, 0, cap, cur, _, e, h1, hg, fun i hi => ?_⟩
    have a : (strCells l)[i]? = some (.string (l.getD i ByteArray.empty)) := by simp [strCells, List.getD, hi]
    rw [← h4, List.getElem?_take] at a
    rw [Nat.zero_add]
    split at a
    · simpa using a
    · cases a

theorem sub_getD (L : List ByteArray) (lo n i : Nat) (hi : i < n) : ((L.drop lo).take n).getD i ByteArray.empty = L.getD (lo + i) ByteArray.empty := by
  simp [List.getD, hi]
theorem sub_length (L : List ByteArray) (lo n : Nat) (h : lo + n ≤ L.length) : ((L.drop lo).take n).length = n := by
  rw [List.length_take, List.length_drop]; omega

theorem RowS.sub {w : World} {a : Option Addr} {n c : Nat} {L : List ByteArray} (h : RowS w (.slice a n c) L) {lo hi : Nat} (h1 : lo ≤ hi) (h2 : hi ≤ L.length) : RowS w (sliced a lo hi c 1) ((L.drop lo).take (hi - lo)) := by
  by_cases h0 : hi - lo = 0
  · left
    rw [h0]
    exact ⟨List.take_zero, _, _, by unfold sliced; rw [h0]⟩
  · rcases h with ⟨rfl, _⟩ | ⟨b, off, cap, cur, fr, e, hc, hb, hx⟩
    · simp at h2; omega
    · cases e
      right
      have hcl : ¬ c = lo := by omega
      refine ⟨b, off + lo, c - lo, cur, fr, ?_, ?_, hb, fun i hi' => ?_⟩
      · unfold sliced
        rw [if_neg hcl, sub_length L lo _ (by omega)]
        simp [Addr.add]
      · rw [sub_length L lo _ (by omega)]; omega
      · rw [sub_length L lo _ (by omega)] at hi'
        rw [sub_getD L lo _ i hi', Nat.add_assoc]
        exact hx _ (by omega)

theorem run_sub {a : Option Addr} {n c : Nat} {lo hi : Nat} (h1 : lo ≤ hi) (h2 : hi ≤ c) (w : World) :
    (Instr.slice 27 (.slice a n c) (some (.int .i64 (lo : Int))) (some (.int .i64 (hi : Int))) none).run Tryz.prog w = .ok (sliced a lo hi c 1) w := by
  rw [run_slice_lh (P := Tryz.prog) (w := w) 27 a n c Tryz.underlying27 .i64 .i64 lo hi (by omega) (by omega) (by omega)]
  simp [go_sem]
theorem run_sub_l {a : Option Addr} {n c : Nat} {lo : Nat} (h1 : lo ≤ n) (w : World) :
    (Instr.slice 27 (.slice a n c) (some (.int .i64 (lo : Int))) none none).run Tryz.prog w = .ok (sliced a lo n c 1) w := by
  rw [run_slice_l (P := Tryz.prog) (w := w) 27 a n c Tryz.underlying27 .i64 lo (by omega) (by omega)]
  simp [go_sem]

/-- lines as they are written -/
def textL (l : List ByteArray) : List UInt8 := l.flatMap fun s => s.data.toList ++ [10]
theorem textL_take (l : List ByteArray) (k : Nat) (h : k < l.length) : textL (l.take (k + 1)) = textL (l.take k) ++ ((l.getD k ByteArray.empty).data.toList ++ [10]) := by
  unfold textL
  rw [List.take_succ_eq_append_getElem h, List.flatMap_append]
  simp [List.getD, h]
theorem textL_append (a b : List ByteArray) : textL (a ++ b) = textL a ++ textL b := by unfold textL; rw [List.flatMap_append]
theorem textL_take_le (l : List ByteArray) (k : Nat) : (textL (l.take k)).length ≤ (textL l).length := by
  conv => rhs; rw [← List.take_append_drop k l, textL_append, List.length_append]
  omega

theorem textL_len (l : List ByteArray) : l.length ≤ (textL l).length := by
  induction l with
  | nil => simp
  | cons x l ih => have e : textL (x :: l) = (x.data.toList ++ [10]) ++ textL l := rfl
                   rw [e]; simp only [List.length_append, List.length_cons, List.length_nil]; omega

/-- a sewing whose builder holds these bytes -/
def SewA (S : Nat) (vl : Value) (t : List UInt8) (en mv : Int) (w : World) : Prop := ∃ ad vb, SewM S vl ad vb (Lib.byteCells t) en mv w

set_option maxHeartbeats 1000000 in
theorem write_sew {S : Nat} {vl : Value} {t : List UInt8} {en mv : Int} {w : World} {a : Option Addr} {c : Nat} {L : List ByteArray} (h : SewA S vl t en mv w) (hR : RowS w (.slice a L.length c) L)
    (hlen : t.length + (textL L).length ≤ 100000000) :
    Calls Tryz.prog 66 #[.pointer (some ⟨S, 0, none⟩), .slice a L.length c] w fun e w' => e = .returned (.tuple #[]) ∧ SewA S vl (t ++ textL L) en mv w' ∧ Below S w w' ∧ Lib.OthersKept 5 (some S) w w' := by
  obtain ⟨cs0, hS0⟩ : ∃ cs, w.heap[S]? = some (.cells cs 76 (0, 0)) := let ⟨_, _, h⟩ := h; ⟨_, h.blk⟩
  have hLl := textL_len L
  go_enter Tryz.func66, Tryz.ntmps66
  go_wp2
  go_loopg [8] L.length (fun g x wr => ∃ k : Nat, g = L.length - k ∧ k ≤ L.length ∧ x = .int .i64 k ∧ SewA S vl (t ++ textL (L.take k)) en mv wr ∧ Below S w wr ∧ Lib.OthersKept 5 (some S) w wr)
  case atStart => exact ⟨0, by omega, by omega, rfl, by simpa [textL] using h, Below.refl _ _, Lib.OthersKept.refl _ _ _⟩
  case round =>
    obtain ⟨k, hgk, hkl, rfl, ⟨ad, vb, hsm⟩, hbel, hoth⟩ := hrel
    by_cases hkk : k < L.length
    · have hkI : (k : Int) < L.length := by omega
      have hk2 : IntKind.i64.wrap ((k : Int) + 1) = (k : Int) + 1 := by rw [IntKind.wrap_i64]; omega
      have hk3 : L.length ≤ 100000000 := by omega
      obtain ⟨b, off, rfl, hc⟩ := (hR.kept hS0 hoth).at hkk
      have htk := textL_take L k hkk
      have hle := textL_take_le L (k + 1)
      generalize L.getD k ByteArray.empty = s at hc htk
      rw [htk] at hle
      have hsz : s.data.toList.length = s.size := rfl
      simp only [List.length_append, List.length_cons, List.length_nil] at hle
      have hl1 : (Lib.byteCells (t ++ textL (L.take k))).length + s.size ≤ 140737488355328 := by rw [Lib.byteCells_length, List.length_append]; omega
      have hl2 : (Lib.byteCells (t ++ textL (L.take k)) ++ Lib.strCells s).length + 1 ≤ 140737488355328 := by rw [List.length_append, Lib.byteCells_length, List.length_append, Lib.strCells_length]; omega
      have hA : Hid (gk = L.length - k) := hgk
      clear hgk
      go_wp2_with (first | (go_at_call 71; refine (writeString_sew s hsm hl1).mono ?_; rintro e w1 ⟨rfl, vb1, hs1, hb1, hk1⟩) | (go_at_call 74; refine (writeByte_sew 10 hs1 hl2).mono ?_; rintro e w2 ⟨rfl, vb2, hs2, hb2, hk2⟩))
      go_roundg (L.length - (k + 1))
      · have e : Lib.byteCells (t ++ (textL (L.take k) ++ (s.data.toList ++ [10]))) = Lib.byteCells (t ++ textL (L.take k)) ++ Lib.strCells s ++ [.int .u8 10] := by
          rw [Lib.strCells_eq]; simp [Lib.byteCells_append]; rfl
        exact ⟨k + 1, rfl, by omega, by push_cast; rfl, ⟨_, vb2, by rw [htk, e]; exact hs2⟩, (hbel.trans hb1).trans hb2, (hoth.trans hk1).trans hk2⟩
      · have := hA.out; omega
    · obtain rfl : k = L.length := by omega
      rw [List.take_length] at hsm
      go_wp2
      go_end0
      exact ⟨rfl, ⟨_, _, hsm⟩, hbel, hoth⟩
end Go.Proofs.YtcclgodahlinbaaGreatDoor
