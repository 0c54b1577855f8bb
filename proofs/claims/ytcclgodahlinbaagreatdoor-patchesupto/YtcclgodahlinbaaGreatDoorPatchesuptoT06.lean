import Derived.Test.YtcclgodahlinbaaGreatDoorPatchesuptoT05
import Derived.Test.YtcclgodahlinbaaGreatDoorPatchesuptoT04
import Derived.Test.YtcclgodahlinbaaGreatDoorPatchesuptoT03
import Derived.Laws.IdiomStrings
namespace Go.Proofs.YtcclgodahlinbaaGreatDoor
open Go.RowKit Go
set_option maxRecDepth 100000
def wordB (i : Nat) : ByteArray := ⟨(wordL i).toArray⟩
theorem wordB_list (i : Nat) : (wordB i).data.toList = wordL i := by simp [wordB]
theorem wordB_len (i : Nat) : (wordB i).size = (wordL i).length := by show (wordL i).toArray.size = _; simp
abbrev wordsO : Obj := .cells #[.string ⟨#[64, 64, 32, 45]⟩, .string ⟨#[44]⟩, .string ⟨#[32, 43]⟩, .string ⟨#[44]⟩] 9 (0, 0)
def numC (xs : List Nat) (j : Nat) : Value := .int .i64 (xs.getD j 0 : Nat)
abbrev numsO (xs : List Nat) : Obj := .cells #[numC xs 0, numC xs 1, numC xs 2, numC xs 3] 198 (0, 0)
theorem nums_set {xs : List Nat} {n : Nat} (h : xs.length < 4) : (#[numC xs 0, numC xs 1, numC xs 2, numC xs 3] : Array Value).setIfInBounds xs.length (.int .i64 (n : Int)) = #[numC (xs ++ [n]) 0, numC (xs ++ [n]) 1, numC (xs ++ [n]) 2, numC (xs ++ [n]) 3] := by
  match xs, h with
  | [], _ => rfl
  | [_], _ => rfl
  | [_, _], _ => rfl
  | [_, _, _], _ => rfl
def HeadEnd (L : List UInt8) (e : Ending) : Prop :=
  (∃ a b c d : Nat, a ≤ 100000 ∧ b ≤ 100000 ∧ c ≤ 100000 ∧ d ≤ 100000 ∧ L = headL a b c d ∧ e = .returned (.tuple #[hiVal ⟨a, b, c, d, []⟩ (.slice none 0 0), .bool true])) ∨
  ((∀ a b c d : Nat, a ≤ 100000 → b ≤ 100000 → c ≤ 100000 → d ≤ 100000 → L ≠ headL a b c d) ∧ ∃ h : HI, h.lines = [] ∧ e = .returned (.tuple #[hiVal h (.slice none 0 0), .bool false]))
theorem wordL_pos (i : Nat) : 1 ≤ (wordL i).length ∧ (wordL i).length ≤ 4 := by unfold wordL; split <;> simp
theorem drop_headR {i : Nat} {ys : List Nat} (h : i < ys.length) : headR i (ys.drop i) = wordL i ++ (Lib.decDigits ys[i] ++ headR (i + 1) (ys.drop (i + 1))) := by
  unfold headR
  rw [List.drop_eq_getElem_cons h]
  simp [partL]
structure HdAt (s : ByteArray) (xs : List Nat) (p : Nat) : Prop where
  pre : s.data.toList.take p = partL 0 xs
  le : p ≤ s.size
  lim : ∀ x ∈ xs, x ≤ 100000
  agr : Agrees s.data.toList xs
theorem HdAt.start (s : ByteArray) : HdAt s [] 0 := ⟨by simp [partL], by omega, by simp, fun a b c d _ _ _ _ _ => by simp⟩
theorem HdAt.rest {s : ByteArray} {xs : List Nat} {p : Nat} (h : HdAt s xs p) (h4 : xs.length < 4) {a b c d : Nat} (ha : a ≤ 100000) (hb : b ≤ 100000) (hc : c ≤ 100000) (hd : d ≤ 100000) (hL : s.data.toList = headL a b c d) :
    ∃ y, y ≤ 100000 ∧ [a, b, c, d][xs.length]? = some y ∧ xs = [a, b, c, d].take xs.length ∧ s.data.toList.drop p = wordL xs.length ++ (Lib.decDigits y ++ headR (xs.length + 1) ([a, b, c, d].drop (xs.length + 1))) := by
  have hx := h.agr a b c d ha hb hc hd hL
  have hr := agrees_rest h.pre hx (by rw [hL, headL_part])
  have hl : xs.length < [a, b, c, d].length := by simpa using h4
  refine ⟨[a, b, c, d][xs.length], ?_, List.getElem?_eq_getElem hl, hx, by rw [hr, drop_headR hl]⟩
  have key : ∀ y ∈ [a, b, c, d], y ≤ 100000 := by simp; omega
  exact key _ (List.getElem_mem hl)
theorem toList_size (s : ByteArray) : s.data.toList.length = s.size := rfl
theorem HdAt.noword {s : ByteArray} {xs : List Nat} {p : Nat} (h : HdAt s xs p) (h4 : xs.length < 4) (hno : s.size < p + (wordB xs.length).size ∨ s.extract p (p + (wordB xs.length).size) ≠ wordB xs.length) : ∀ a b c d : Nat, a ≤ 100000 → b ≤ 100000 → c ≤ 100000 → d ≤ 100000 → s.data.toList ≠ headL a b c d := by
  intro a b c d ha hb hc hd hL
  obtain ⟨y, _, _, _, hr⟩ := h.rest h4 ha hb hc hd hL
  have hlen := congrArg List.length hr
  simp only [List.length_drop, List.length_append, toList_size] at hlen
  rw [wordB_len] at hno
  rcases hno with h1 | h1
  · have := wordL_pos xs.length; omega
  · apply h1
    apply ByteArray.ext
    apply Array.toList_inj.1
    rw [wordB_list, ByteArray.data_extract, Array.toList_extract]
    simp only [List.extract_eq_take_drop]
    rw [hr, show p + (wordL xs.length).length - p = (wordL xs.length).length by omega, List.take_left' rfl]
theorem drop_word {s : ByteArray} {p i : Nat} (hw : s.extract p (p + (wordB i).size) = wordB i) : s.data.toList.take (p + (wordB i).size) = s.data.toList.take p ++ wordL i := by
  have e := congrArg (fun b : ByteArray => b.data.toList) hw
  simp only [ByteArray.data_extract, Array.toList_extract, List.extract_eq_take_drop] at e
  rw [wordB_list, show p + (wordB i).size - p = (wordB i).size by omega] at e
  rw [List.take_add, e]
theorem HdAt.nofig {s : ByteArray} {xs : List Nat} {p : Nat} (h : HdAt s xs p) (h4 : xs.length < 4) (hno : ∀ m E, ¬ Fig (s.data.toList.drop (p + (wordB xs.length).size)) m E) : ∀ a b c d : Nat, a ≤ 100000 → b ≤ 100000 → c ≤ 100000 → d ≤ 100000 → s.data.toList ≠ headL a b c d := by
  intro a b c d ha hb hc hd hL
  obtain ⟨y, hy, _, _, hr⟩ := h.rest h4 ha hb hc hd hL
  refine hno y (headR (xs.length + 1) ([a, b, c, d].drop (xs.length + 1))) ⟨hy, ?_, ?_⟩
  · rw [← List.drop_drop, hr, wordB_len, List.drop_left' rfl]
  · exact headR_head (xs.length + 1) (by omega) _ (fun _ _ => trivial) (by omega)
theorem HdAt.next {s : ByteArray} {xs : List Nat} {p n : Nat} (h : HdAt s xs p) (h4 : xs.length < 4) (hl : p + (wordB xs.length).size ≤ s.size) (hw : s.extract p (p + (wordB xs.length).size) = wordB xs.length)
    (hf : Fig (s.data.toList.drop (p + (wordB xs.length).size)) n (s.data.toList.drop (p + (wordB xs.length).size + (Lib.decDigits n).length))) : HdAt s (xs ++ [n]) (p + (wordB xs.length).size + (Lib.decDigits n).length) := by
  obtain ⟨f1, f2, f3⟩ := hf
  have hlen := congrArg List.length f2
  simp only [List.length_drop, List.length_append, toList_size] at hlen
  have hle : p + (wordB xs.length).size + (Lib.decDigits n).length ≤ s.size := by
    have hp := dec_pos n
    omega
  refine ⟨?_, hle, ?_, ?_⟩
  · rw [List.take_add, drop_word hw, h.pre, partL_snoc, f2, List.take_left' rfl]
    simp
  · intro x hx
    rcases List.mem_append.1 hx with hx | hx
    · exact h.lim x hx
    · rw [List.mem_singleton] at hx; omega
  · intro a b c d ha hb hc hd hL
    obtain ⟨y, hy, hget, hx, hr⟩ := h.rest h4 ha hb hc hd hL
    have hdr : s.data.toList.drop (p + (wordB xs.length).size) = Lib.decDigits y ++ headR (xs.length + 1) ([a, b, c, d].drop (xs.length + 1)) := by rw [← List.drop_drop, hr, wordB_len, List.drop_left' rfl]
    have hd1 : digs (s.data.toList.drop (p + (wordB xs.length).size)) = Lib.decDigits y := by rw [hdr]; exact digs_dec (headR_head (xs.length + 1) (by omega) _ (fun _ _ => trivial) (by omega))
    have hd2 : digs (s.data.toList.drop (p + (wordB xs.length).size)) = Lib.decDigits n := by rw [f2]; exact digs_dec f3
    have hny : n = y := dec_inj (hd2.symm.trans hd1)
    subst hny
    rw [List.length_append, List.length_singleton, List.take_add_one, ← hx, hget]
    rfl
theorem HdAt.done {s : ByteArray} {xs : List Nat} {p : Nat} (h : HdAt s xs p) (h4 : xs.length = 4) : ∃ a b c d, xs = [a, b, c, d] ∧ a ≤ 100000 ∧ b ≤ 100000 ∧ c ≤ 100000 ∧ d ≤ 100000 ∧
    (s.extract p s.size = ⟨#[32, 64, 64]⟩ → s.data.toList = headL a b c d) ∧ (s.extract p s.size ≠ ⟨#[32, 64, 64]⟩ → ∀ a b c d : Nat, a ≤ 100000 → b ≤ 100000 → c ≤ 100000 → d ≤ 100000 → s.data.toList ≠ headL a b c d) := by
  match xs, h4, h with
  | [a, b, c, d], _, h =>
    have hext : (s.extract p s.size).data.toList = s.data.toList.drop p := by
      rw [ByteArray.data_extract, Array.toList_extract, List.extract_eq_take_drop]
      rw [List.take_of_length_le (by rw [List.length_drop, toList_size]; omega)]
    refine ⟨a, b, c, d, rfl, h.lim a (by simp), h.lim b (by simp), h.lim c (by simp), h.lim d (by simp), fun e => ?_, fun hne a' b' c' d' ha hb hc hd hL => ?_⟩
    · rw [e] at hext
      rw [headL_part, ← h.pre]
      have : s.data.toList = s.data.toList.take p ++ s.data.toList.drop p := (List.take_append_drop _ _).symm
      rw [← hext] at this
      exact this
    · have hx := h.agr a' b' c' d' ha hb hc hd hL
      have hr := agrees_rest h.pre hx (by rw [hL, headL_part])
      apply hne
      apply ByteArray.ext
      apply Array.toList_inj.1
      rw [hext, hr]
      rfl
set_option maxHeartbeats 8000000 in
theorem headed_any (s : ByteArray) (w : World) (hs : s.size ≤ 4000000000) :
    Calls Tryz.prog 123 #[.string s] w fun e w' => HeadEnd s.data.toList e ∧ Below w.heap.size w w' := by
  obtain ⟨W0, hW0⟩ : ∃ W0, ((w.alloc (.cells #[.int .i64 0, .int .i64 0, .int .i64 0, .int .i64 0, .slice none 0 0] 61)).alloc (.cells #[.int .i64 0, .int .i64 0, .int .i64 0, .int .i64 0] 198)).alloc (.cells #[.string ⟨#[64, 64, 32, 45]⟩, .string ⟨#[44]⟩, .string ⟨#[32, 43]⟩, .string ⟨#[44]⟩] 9) = W0 := ⟨_, rfl⟩
  have hb0 : Below w.heap.size w W0 := by rw [← hW0]; exact (((Below.refl _ _).alloc (Nat.le_refl _) _).alloc (by simp) _).alloc (by simp; omega) _
  have hH0 : W0.heap[w.heap.size]? = some (.cells #[.int .i64 0, .int .i64 0, .int .i64 0, .int .i64 0, .slice none 0 0] 61 (0, 0)) := by
    rw [← hW0, Below.heap_alloc _ _ _ (by simp; omega), Below.heap_alloc _ _ _ (by simp)]; exact heap_alloc_new w _
  have hN0 : W0.heap[w.heap.size + 1]? = some (numsO []) := by
    rw [← hW0, Below.heap_alloc _ _ _ (by simp)]
    have := heap_alloc_new (w.alloc (.cells #[.int .i64 0, .int .i64 0, .int .i64 0, .int .i64 0, .slice none 0 0] 61)) (.cells #[.int .i64 0, .int .i64 0, .int .i64 0, .int .i64 0] 198)
    rw [World.size_alloc] at this
    exact this
  have hQ0 : W0.heap[w.heap.size + 2]? = some wordsO := by
    rw [← hW0]
    have := heap_alloc_new ((w.alloc (.cells #[.int .i64 0, .int .i64 0, .int .i64 0, .int .i64 0, .slice none 0 0] 61)).alloc (.cells #[.int .i64 0, .int .i64 0, .int .i64 0, .int .i64 0] 198)) (.cells #[.string ⟨#[64, 64, 32, 45]⟩, .string ⟨#[44]⟩, .string ⟨#[32, 43]⟩, .string ⟨#[44]⟩] 9)
    rw [World.size_alloc, World.size_alloc] at this
    exact this
  go_enter Tryz.func123, Tryz.ntmps123
  go_wp2_with fail
  clear hW0
  go_loopg [5, 7] 4 (fun g t5 t7 wr => ∃ (xs : List Nat) (p i : Nat), g = 4 - i ∧ i ≤ 4 ∧ Hid (xs.length = i) ∧ t5 = .int .i64 p ∧ t7 = .int .i64 i ∧ p ≤ s.size ∧ Hid (HdAt s xs p) ∧ wr.heap[w.heap.size + 1]? = some (numsO xs) ∧ wr.heap[w.heap.size]? = some (.cells #[.int .i64 0, .int .i64 0, .int .i64 0, .int .i64 0, .slice none 0 0] 61 (0, 0)) ∧ wr.heap[w.heap.size + 2]? = some wordsO ∧ Below w.heap.size w wr)
  case atStart => exact ⟨[], 0, 0, rfl, by omega, rfl, rfl, rfl, by omega, HdAt.start s, hN0, hH0, hQ0, hb0⟩
  case round =>
    obtain ⟨xs, p, i, hgk, hi4, hxl, rfl, rfl, hps, hd, hN, hH, hQ, hbel⟩ := hrel
    have hG : Hid (_ = 4 - i) := hgk
    clear hgk hN0 hH0 hQ0 hb0
    have hlt1 : w.heap.size + 2 < wr.heap.size := (Array.getElem?_eq_some_iff.1 hQ).1
    have k0 : wr.cell? ⟨w.heap.size, 0, none⟩ = some (.int .i64 0) := cell_of hH rfl
    have k1 : wr.cell? ⟨w.heap.size, 1, none⟩ = some (.int .i64 0) := cell_of hH rfl
    have k2 : wr.cell? ⟨w.heap.size, 2, none⟩ = some (.int .i64 0) := cell_of hH rfl
    have k3 : wr.cell? ⟨w.heap.size, 3, none⟩ = some (.int .i64 0) := cell_of hH rfl
    have k4 : wr.cell? ⟨w.heap.size, 4, none⟩ = some (.slice none 0 0) := cell_of hH rfl
    have kf : ∀ k, wr.frozen? ⟨w.heap.size, k, none⟩ = false := fun k => frozen_of hH
    have hfail : Hid ((∀ a b c d : Nat, a ≤ 100000 → b ≤ 100000 → c ≤ 100000 → d ≤ 100000 → s.data.toList ≠ headL a b c d) → HeadEnd s.data.toList (.returned (.tuple #[.agg #[.int .i64 0, .int .i64 0, .int .i64 0, .int .i64 0, .slice none 0 0], .bool false])) ) := fun h => .inr ⟨h, ⟨0, 0, 0, 0, []⟩, rfl, rfl⟩
    by_cases hi : i < 4
    · have hiI : (i : Int) < 4 := by omega
      have hwd : wr.cell? ⟨w.heap.size + 2, i, none⟩ = some (.string (wordB i)) := by
        rcases (by omega : i = 0 ∨ i = 1 ∨ i = 2 ∨ i = 3) with rfl | rfl | rfl | rfl <;> exact cell_of hQ rfl
      have hnc : ∃ v, wr.cell? ⟨w.heap.size + 1, i, none⟩ = some (.int .i64 v) := by
        rcases (by omega : i = 0 ∨ i = 1 ∨ i = 2 ∨ i = 3) with rfl | rfl | rfl | rfl <;> exact ⟨_, cell_of hN rfl⟩
      obtain ⟨nv, hnc⟩ := hnc
      have hnf : ∀ k, wr.frozen? ⟨w.heap.size + 1, k, none⟩ = false := fun k => frozen_of hN
      have hwz : 1 ≤ (wordB i).size ∧ (wordB i).size ≤ 4 := by rw [wordB_len]; exact wordL_pos i
      have h4 : Hid (xs.length < 4) := by show _ < _; rw [hxl.out]; exact hi
      by_cases hlong : (s.size : Int) < p + (wordB i).size
      · have hno := hd.out.noword h4.out (.inl (by rw [hxl.out]; omega))
        have hE : Hid _ := hfail.out hno
        clear hno hfail hd hQ hN hnc hnf
        generalize wordB i = wd at *
        go_wp2_with fail
        refine bodyPost_ret (v := .tuple #[.agg #[.int .i64 0, .int .i64 0, .int .i64 0, .int .i64 0, .slice none 0 0], .bool false]) ?_ rfl ⟨hE.out, ?_⟩
        · simp [results, Tryz.results123, go_sem, k0, k1, k2, k3, k4]
        · exact ((((hbel.setCell (p := ⟨w.heap.size, 0, none⟩) (Nat.le_refl _) _).setCell (p := ⟨w.heap.size, 1, none⟩) (Nat.le_refl _) _).setCell (p := ⟨w.heap.size, 2, none⟩) (Nat.le_refl _) _).setCell (p := ⟨w.heap.size, 3, none⟩) (Nat.le_refl _) _).setCell (p := ⟨w.heap.size, 4, none⟩) (Nat.le_refl _) _
      · have hl1 : (p : Int) + (wordB i).size ≤ s.size := by omega
        by_cases hwe : s.extract p (p + (wordB i).size) = wordB i
        · have hq1 : ((s.extract p (p + (wordB i).size)).toList == (wordB i).toList) = true := by rw [hwe]; simp
          have hq2 : ((s.extract p (p + (wordB i).size)).toList != (wordB i).toList) = false := by rw [hwe]; simp
          have hfg := figure_any s (p + (wordB i).size) wr (by omega) hs
          have hnx : Hid (∀ n, Fig (s.data.toList.drop (p + (wordB i).size)) n (s.data.toList.drop (p + (wordB i).size + (Lib.decDigits n).length)) → HdAt s (xs ++ [n]) (p + (wordB i).size + (Lib.decDigits n).length)) := by
            intro n hf
            have h := hd.out.next (n := n) h4.out (by rw [hxl.out]; omega) (by rw [hxl.out]; exact hwe) (by rw [hxl.out]; exact hf)
            rw [hxl.out] at h
            exact h
          have hnn : Hid ((∀ m E, ¬ Fig (s.data.toList.drop (p + (wordB i).size)) m E) → ∀ a b c d : Nat, a ≤ 100000 → b ≤ 100000 → c ≤ 100000 → d ≤ 100000 → s.data.toList ≠ headL a b c d) := by
            intro hno
            exact hd.out.nofig h4.out (by rw [hxl.out]; exact hno)
          clear hwe hd
          push_cast at hfg
          generalize wordB i = wd at *
          go_wp2_with fail
          refine hfg.mono ?_
          rintro e w2 ⟨hfe, rfl⟩
          rcases hfe with ⟨n, hf, rfl⟩ | ⟨hno, rfl⟩
          · have hnx2 : Hid _ := hnx.out n hf
            have hn5 : n ≤ 100000 := hf.1
            clear hf hnx hnn hfail
            have hn0 : ¬ (n : Int) < 0 := by omega
            have hset := heap_setCell_same wr (w.heap.size + 1) i (.int .i64 (n : Int)) _ _ _ hN
            have hso : ∀ g, g ≠ w.heap.size + 1 → (wr.setCell ⟨w.heap.size + 1, i, none⟩ (.int .i64 (n : Int))).heap[g]? = wr.heap[g]? := fun g hg => heap_setCell_other _ _ _ _ _ hg
            generalize Lib.decDigits n = dn at *
            go_wp2_with fail
            go_roundg (4 - (i + 1))
            · refine ⟨xs ++ [n], p + wd.size + dn.length, i + 1, rfl, by omega, by show _ = _; rw [List.length_append, hxl.out]; rfl, by push_cast; rfl, by push_cast; rfl, hnx2.out.le, hnx2.out, ?_, (hso _ (by omega)).trans hH, (hso _ (by omega)).trans hQ, hbel.setCell (p := ⟨w.heap.size + 1, i, none⟩) (by show w.heap.size ≤ w.heap.size + 1; omega) _⟩
              rw [hset]
              have := nums_set (n := n) h4.out
              rw [hxl.out] at this
              rw [this]
            · have := hG.out; omega
          · have hE : Hid _ := hfail.out (hnn.out hno)
            clear hno hnx hnn hfail
            go_wp2_with fail
            refine bodyPost_ret (v := .tuple #[.agg #[.int .i64 0, .int .i64 0, .int .i64 0, .int .i64 0, .slice none 0 0], .bool false]) ?_ rfl ⟨hE.out, ?_⟩
            · simp [results, Tryz.results123, go_sem, k0, k1, k2, k3, k4]
            · exact ((((hbel.setCell (p := ⟨w.heap.size, 0, none⟩) (Nat.le_refl _) _).setCell (p := ⟨w.heap.size, 1, none⟩) (Nat.le_refl _) _).setCell (p := ⟨w.heap.size, 2, none⟩) (Nat.le_refl _) _).setCell (p := ⟨w.heap.size, 3, none⟩) (Nat.le_refl _) _).setCell (p := ⟨w.heap.size, 4, none⟩) (Nat.le_refl _) _
        · have hq1 : ((s.extract p (p + (wordB i).size)).toList == (wordB i).toList) = false := str_ne hwe
          have hq2 : ((s.extract p (p + (wordB i).size)).toList != (wordB i).toList) = true := by simp [bne, hq1]
          have hno := hd.out.noword h4.out (.inr (by rw [hxl.out]; exact hwe))
          have hE : Hid _ := hfail.out hno
          clear hno hfail hwe hd
          generalize wordB i = wd at *
          go_wp2_with fail
          refine bodyPost_ret (v := .tuple #[.agg #[.int .i64 0, .int .i64 0, .int .i64 0, .int .i64 0, .slice none 0 0], .bool false]) ?_ rfl ⟨hE.out, ?_⟩
          · simp [results, Tryz.results123, go_sem, k0, k1, k2, k3, k4]
          · exact ((((hbel.setCell (p := ⟨w.heap.size, 0, none⟩) (Nat.le_refl _) _).setCell (p := ⟨w.heap.size, 1, none⟩) (Nat.le_refl _) _).setCell (p := ⟨w.heap.size, 2, none⟩) (Nat.le_refl _) _).setCell (p := ⟨w.heap.size, 3, none⟩) (Nat.le_refl _) _).setCell (p := ⟨w.heap.size, 4, none⟩) (Nat.le_refl _) _
    · obtain rfl : i = 4 := by omega
      obtain ⟨a, b, c, d, rfl, ha, hb, hc, hdd, hy, hn⟩ := hd.out.done hxl.out
      have hpI : (p : Int) ≤ s.size := by omega
      have hE : Hid (HeadEnd s.data.toList (.returned (.tuple #[.agg #[.int .i64 (a : Int), .int .i64 (b : Int), .int .i64 (c : Int), .int .i64 (d : Int), .slice none 0 0], .bool ((s.extract p s.size).toList == (⟨#[32, 64, 64]⟩ : ByteArray).toList)]))) := by
        show HeadEnd _ _
        by_cases he : s.extract p s.size = ⟨#[32, 64, 64]⟩
        · rw [he]
          exact .inl ⟨a, b, c, d, ha, hb, hc, hdd, hy he, by simp⟩
        · rw [str_ne he]
          exact .inr ⟨hn he, ⟨a, b, c, d, []⟩, rfl, rfl⟩
      clear hy hn hfail hd
      have hNN : wr.drew.heap[w.heap.size + 1]? = some (.cells #[.int .i64 (a : Int), .int .i64 (b : Int), .int .i64 (c : Int), .int .i64 (d : Int)] 198 (0, 0)) := hN
      generalize hEQ : ((s.extract p s.size).toList == (⟨#[32, 64, 64]⟩ : ByteArray).toList) = eq at *
      have hEQ3 : ((s.extract p s.size).toList == [32, 64, 64]) = eq := by rw [← hEQ, show (⟨#[32, 64, 64]⟩ : ByteArray).toList = [32, 64, 64] by rw [Lib.toList_data]]
      go_wp2_with fail
      refine wp_region_any mixed (wpKind.any (I := fun w' => w'.heap[w.heap.size + 1]? = some (.cells #[.int .i64 (a : Int), .int .i64 (b : Int), .int .i64 (c : Int), .int .i64 (d : Int)] 198 (0, 0))) ?_)
      refine wpKind_take (i := 0) (n := 14) (v := .pointer (some ⟨w.heap.size + 1, 0, none⟩)) rfl (by kernel_rfl) (by kernel_rfl) (by kernel_rfl) (fun c a w h => h) ⟨by simp [Region.wanted], fun w' hw => ?_⟩ ?_
      · simp [execOp, go_sem, Act.eval]
      refine wpKind_take (i := 1) (n := 13) (v := .int .i64 (a : Int)) rfl (by kernel_rfl) (by kernel_rfl) (by kernel_rfl) (fun c a w h => h) ⟨by simp [Region.wanted], fun w' hw => ?_⟩ ?_
      · have hc : w'.cell? ⟨w.heap.size + 1, 0, none⟩ = some (.int .i64 (a : Int)) := cell_of (k := 0) hw rfl; simp [execOp, go_sem, Act.eval, Act.put, hc]
      refine wpKind_take (i := 2) (n := 12) (v := .pointer (some ⟨w.heap.size + 1, 1, none⟩)) rfl (by kernel_rfl) (by kernel_rfl) (by kernel_rfl) (fun c a w h => h) ⟨by simp [Region.wanted], fun w' hw => ?_⟩ ?_
      · simp [execOp, go_sem, Act.eval, Act.put]
      refine wpKind_take (i := 3) (n := 11) (v := .int .i64 (b : Int)) rfl (by kernel_rfl) (by kernel_rfl) (by kernel_rfl) (fun c a w h => h) ⟨by simp [Region.wanted], fun w' hw => ?_⟩ ?_
      · have hc : w'.cell? ⟨w.heap.size + 1, 1, none⟩ = some (.int .i64 (b : Int)) := cell_of (k := 1) hw rfl; simp [execOp, go_sem, Act.eval, Act.put, hc]
      refine wpKind_take (i := 4) (n := 10) (v := .pointer (some ⟨w.heap.size + 1, 2, none⟩)) rfl (by kernel_rfl) (by kernel_rfl) (by kernel_rfl) (fun c a w h => h) ⟨by simp [Region.wanted], fun w' hw => ?_⟩ ?_
      · simp [execOp, go_sem, Act.eval, Act.put]
      refine wpKind_take (i := 5) (n := 9) (v := .int .i64 (c : Int)) rfl (by kernel_rfl) (by kernel_rfl) (by kernel_rfl) (fun c a w h => h) ⟨by simp [Region.wanted], fun w' hw => ?_⟩ ?_
      · have hc : w'.cell? ⟨w.heap.size + 1, 2, none⟩ = some (.int .i64 (c : Int)) := cell_of (k := 2) hw rfl; simp [execOp, go_sem, Act.eval, Act.put, hc]
      refine wpKind_take (i := 6) (n := 8) (v := .pointer (some ⟨w.heap.size + 1, 3, none⟩)) rfl (by kernel_rfl) (by kernel_rfl) (by kernel_rfl) (fun c a w h => h) ⟨by simp [Region.wanted], fun w' hw => ?_⟩ ?_
      · simp [execOp, go_sem, Act.eval, Act.put]
      refine wpKind_take (i := 7) (n := 7) (v := .int .i64 (d : Int)) rfl (by kernel_rfl) (by kernel_rfl) (by kernel_rfl) (fun c a w h => h) ⟨by simp [Region.wanted], fun w' hw => ?_⟩ ?_
      · have hc : w'.cell? ⟨w.heap.size + 1, 3, none⟩ = some (.int .i64 (d : Int)) := cell_of (k := 3) hw rfl; simp [execOp, go_sem, Act.eval, Act.put, hc]
      refine wpKind_take (i := 8) (n := 6) (v := .agg #[.int .i64 (a : Int), .int .i64 (b : Int), .int .i64 (c : Int), .int .i64 (d : Int), .slice none 0 0]) rfl (by kernel_rfl) (by kernel_rfl) (by kernel_rfl) (fun c a w h => h) ⟨by simp [Region.wanted], fun w' hw => ?_⟩ ?_
      · simp [execOp, go_sem, Act.eval, Act.put]
      refine wpKind_take (i := 9) (n := 5) (v := .string s) rfl (by kernel_rfl) (by kernel_rfl) (by kernel_rfl) (fun c a w h => h) ⟨by simp [Region.wanted], fun w' hw => ?_⟩ ?_
      · simp [execOp, go_sem, Act.eval, Act.put]
      refine wpKind_take (i := 10) (n := 4) (v := .int .i64 (p : Int)) rfl (by kernel_rfl) (by kernel_rfl) (by kernel_rfl) (fun c a w h => h) ⟨by simp [Region.wanted], fun w' hw => ?_⟩ ?_
      · simp [execOp, go_sem, Act.eval, Act.put]
      refine wpKind_take (i := 11) (n := 3) (v := .string (s.extract p s.size)) rfl (by kernel_rfl) (by kernel_rfl) (by kernel_rfl) (fun c a w h => h) ⟨by simp [Region.wanted], fun w' hw => ?_⟩ ?_
      · have hnl : ¬ s.size < p := Nat.not_lt.2 hps; simp [execOp, go_sem, Act.eval, Act.put, hnl]
      refine wpKind_take (i := 12) (n := 2) (v := .bool eq) rfl (by kernel_rfl) (by kernel_rfl) (by kernel_rfl) (fun c a w h => h) ⟨by simp [Region.wanted], fun w' hw => ?_⟩ ?_
      · have hq2 : ((s.extract p s.size).toList == [32, 64, 64]) = eq := hEQ3; simp [execOp, go_sem, Act.eval, Act.put, hq2]
      refine wpKind_one (i := 13) (n := 1) hNN (by kernel_rfl) ?_
      refine wpOp_skip (w' := ((((wr.drew.setCell ⟨w.heap.size, 0, none⟩ (.int .i64 (a : Int))).setCell ⟨w.heap.size, 1, none⟩ (.int .i64 (b : Int))).setCell ⟨w.heap.size, 2, none⟩ (.int .i64 (c : Int))).setCell ⟨w.heap.size, 3, none⟩ (.int .i64 (d : Int))).setCell ⟨w.heap.size, 4, none⟩ (.slice none 0 0)) rfl rfl ?_ ?_
      · simp [execOp, go_sem, Act.eval, Act.put, k0, k1, k2, k3, k4, kf]
      have hHd : wr.drew.heap[w.heap.size]? = some (.cells #[.int .i64 0, .int .i64 0, .int .i64 0, .int .i64 0, .slice none 0 0] 61 (0, 0)) := hH
      have hF := heap_setCell_same _ _ 4 (.slice none 0 0) _ _ _ (heap_setCell_same _ _ 3 (.int .i64 (d : Int)) _ _ _ (heap_setCell_same _ _ 2 (.int .i64 (c : Int)) _ _ _ (heap_setCell_same _ _ 1 (.int .i64 (b : Int)) _ _ _ (heap_setCell_same _ _ 0 (.int .i64 (a : Int)) _ _ _ hHd))))
      have hbF := ((((hbel.drew.setCell (p := ⟨w.heap.size, 0, none⟩) (Nat.le_refl _) (.int .i64 (a : Int))).setCell (p := ⟨w.heap.size, 1, none⟩) (Nat.le_refl _) (.int .i64 (b : Int))).setCell (p := ⟨w.heap.size, 2, none⟩) (Nat.le_refl _) (.int .i64 (c : Int))).setCell (p := ⟨w.heap.size, 3, none⟩) (Nat.le_refl _) (.int .i64 (d : Int))).setCell (p := ⟨w.heap.size, 4, none⟩) (Nat.le_refl _) (.slice none 0 0)
      refine wpKind_take (i := 14) (n := 0) (v := .bool eq) rfl (by kernel_rfl) (by kernel_rfl) (by kernel_rfl) (fun c a w h => h) ⟨by simp [Region.wanted], fun w' hw => ?_⟩ ?_
      · simp [execOp, go_sem, Act.eval, Act.put]
      refine wpKind_done ?_ (by kernel_rfl) ?_
      · show _ = _
        rw [heap_setCell_other _ _ _ _ _ (by omega), heap_setCell_other _ _ _ _ _ (by omega), heap_setCell_other _ _ _ _ _ (by omega), heap_setCell_other _ _ _ _ _ (by omega), heap_setCell_other _ _ _ _ _ (by omega)]
        exact hNN
      generalize ((((wr.drew.setCell ⟨w.heap.size, 0, none⟩ (.int .i64 (a : Int))).setCell ⟨w.heap.size, 1, none⟩ (.int .i64 (b : Int))).setCell ⟨w.heap.size, 2, none⟩ (.int .i64 (c : Int))).setCell ⟨w.heap.size, 3, none⟩ (.int .i64 (d : Int))).setCell ⟨w.heap.size, 4, none⟩ (.slice none 0 0) = WF at *
      have s0 : WF.cell? ⟨w.heap.size, 0, none⟩ = some (.int .i64 (a : Int)) := cell_of (k := 0) hF rfl
      have s1 : WF.cell? ⟨w.heap.size, 1, none⟩ = some (.int .i64 (b : Int)) := cell_of (k := 1) hF rfl
      have s2 : WF.cell? ⟨w.heap.size, 2, none⟩ = some (.int .i64 (c : Int)) := cell_of (k := 2) hF rfl
      have s3 : WF.cell? ⟨w.heap.size, 3, none⟩ = some (.int .i64 (d : Int)) := cell_of (k := 3) hF rfl
      have s4 : WF.cell? ⟨w.heap.size, 4, none⟩ = some (.slice none 0 0) := cell_of (k := 4) hF rfl
      go_wp2_with fail
      refine bodyPost_ret (v := .tuple #[.agg #[.int .i64 (a : Int), .int .i64 (b : Int), .int .i64 (c : Int), .int .i64 (d : Int), .slice none 0 0], .bool eq]) ?_ rfl ⟨hE.out, hbF⟩
      simp [results, Tryz.results123, go_sem, s0, s1, s2, s3, s4]
end Go.Proofs.YtcclgodahlinbaaGreatDoor
namespace Go.Proofs.YtcclgodahlinbaaGreatDoor
open Go.RowKit Go
set_option maxRecDepth 100000
theorem run_append_own3 {P : Program} (w : World) (base : Nat) (t ty e : TypeId) (i : TypeInfo) (z : Value) (size bytes : Nat) (h1 : P.underlying t = some (.slice e)) (h2 : P.info? e = some i) (h3 : i.zero = some z) (h4 : i.size = size) (h5 : i.bytes = bytes) (h6 : z.cells.size = size) (h7 : 0 < size)
    (v : Value) (n : Nat) (xs : List Value) (hown : w.ownsRow base e size v n xs)
    (ad : Addr) (m c : Nat) (news : List Value) (hn : news.length = m * size) (hc : ∀ j u, news[j]? = some u → w.cell? (ad.add j) = some u) (h1c : ∀ u ∈ news, u.oneCell' = true)
    (b1 : n + m ≤ maxLen) (b2 : (n + m) * bytes ≤ 140737488355328) (hbase : base ≤ w.heap.size) :
    ∃ v' w', (Builtin.append_ #[t, t] ty #[v, .slice (some ad) m c]).run P w = .ok v' w' ∧ w'.ownsRow base e size v' (n + m) (xs ++ news) ∧
      ((v'.ownBlock = v.ownBlock ∧ w.grownBy w' v.ownBlock) ∨ ((∀ g, v'.ownBlock = some g → w.heap.size ≤ g) ∧ w.grownBy w' none)) := by
  obtain ⟨v', w', hr, r2, r3, _⟩ := run_append_own (P := P) w base t ty e i z size bytes h1 h2 h3 h4 h5 h6 h7 v n xs hown ad m c news hn hc h1c b1 b2 hbase
  refine ⟨v', w', hr, r2, ?_⟩
  rcases hown.2 with ⟨rfl, rfl⟩ | ⟨g, cap, cur, rfl, hbg, hg, hnc, hcm, hcs, htake⟩
  · have hx : xs = [] := List.eq_nil_of_length_eq_zero (by simpa using hown.1)
    subst hx
    obtain ⟨v2, w2, hr2, s2, _, _⟩ := run_append_own (P := P) w w.heap.size t ty e i z size bytes h1 h2 h3 h4 h5 h6 h7 (.slice none 0 0) 0 [] (World.ownsRow_nil w _ e size) ad m c news hn hc h1c b1 b2 (Nat.le_refl _)
    rw [hr] at hr2
    cases hr2
    exact .inr ⟨fun g hg => (s2.lt g hg).1, r3⟩
  · by_cases hroom : n + m ≤ cap
    · subst h4
      have hfit : n * i.size + news.length ≤ cur.size := by rw [hn, hcs, ← Nat.add_mul]; exact Nat.mul_le_mul_right _ hroom
      have hr2 := run_append_room (P := P) w t ty e i h1 h2 g n cap cur hg ad m c news hn hc h1c hroom hfit
      rw [hr] at hr2
      cases hr2
      exact .inl ⟨rfl, r3⟩
    · have holds : ∀ j u, xs[j]? = some u → w.cell? ((⟨g, 0, none⟩ : Addr).add j) = some u := hown.cells (g := g) rfl
      obtain ⟨v2, w2, hr2, s2, s3⟩ := run_append_arg_grows (P := P) w t ty e i z size bytes h1 h2 h3 h4 h5 h6 h7 ⟨g, 0, none⟩ n cap xs hown.1 holds ad m c news hn hc (by omega) b1 b2
      rw [hr] at hr2
      cases hr2
      exact .inr ⟨fun k hk => (s2.lt k hk).1, s3⟩
theorem wpList_append_own3 {P : Program} {ops : Array Oper} {rest : List Oper} {o : Oper} {a : Act} {w : World} {Q : Exit → Act → World → Prop} (hgd : o.guard = none) (s x : Operand) (t : TypeId)
    (ho : o.op = .call { callee := .builtin .append, args := #[s, x], argTypes := #[t, t] })
    (base : Nat) (e : TypeId) (i : TypeInfo) (z : Value) (size bytes : Nat) (ht : P.underlying t = some (.slice e)) (hi : P.info? e = some i) (hz : i.zero = some z)
    (hsize : i.size = size) (hby : i.bytes = bytes) (hzs : z.cells.size = size) (hsz : 0 < size)
    (v : Value) (n : Nat) (xs : List Value) (hs : a.eval s = v) (hown : w.ownsRow base e size v n xs)
    (ad : Addr) (m c : Nat) (news : List Value) (hx : a.eval x = .slice (some ad) m c) (hl : news.length = m * size) (hnews : ∀ j u, news[j]? = some u → w.cell? (ad.add j) = some u) (h1 : ∀ u ∈ news, u.oneCell' = true)
    (h63 : n + m ≤ maxLen) (hbytes : (n + m) * bytes ≤ 140737488355328) (hbase : base ≤ w.heap.size)
    (h : ∀ v' w', w'.ownsRow base e size v' (n + m) (xs ++ news) → ((v'.ownBlock = v.ownBlock ∧ w.grownBy w' v.ownBlock) ∨ ((∀ g, v'.ownBlock = some g → w.heap.size ≤ g) ∧ w.grownBy w' none)) → wpList P ops Q rest (a.put o.dst v') w') : wpList P ops Q (o :: rest) a w := by
  refine wpList_plain hgd fun K hK => ?_
  obtain ⟨v', w', hr, r1, r2⟩ := run_append_own3 (P := P) w base t o.type e i z size bytes ht hi hz hsize hby hzs hsz v n xs hown ad m c news hl hnews h1 h63 hbytes hbase
  unfold Oper.wp execOp
  simp only [ho, resolve, invoke, builtin, Sem.run_bind, Sem.run_pure, Result.andThen_ok, List.map_toArray, List.map_cons, List.map_nil, hs, hx, hr]
  exact hK _ _ (h v' w' r1 r2)
theorem owns_same {w w' : World} {base e size n : Nat} {v : Value} {xs : List Value} (h : w.ownsRow base e size v n xs) (hs : ∀ g, v.ownBlock = some g → w'.heap[g]? = w.heap[g]?) : w'.ownsRow base e size v n xs := by
  refine ⟨h.1, ?_⟩
  rcases h.2 with h | ⟨g, cap, cur, rfl, hb, hg, r⟩
  · exact .inl h
  · exact .inr ⟨g, cap, cur, rfl, hb, (hs g rfl).trans hg, r⟩
def Mark (T k : Nat) (pat : List Value) (W : World) (v : Value) : Prop :=
  ∃ al n cl, v = .slice al n cl ∧ n ≤ 2000000 ∧ ((n = 0 ∧ al = none) ∨ ∃ g cur fr, al = some ⟨g, 0, none⟩ ∧ W.heap[g]? = some (.cells cur T fr) ∧ ∀ i, i < n → ∀ j, j < k → cur[i * k + j]? = pat[j]?)
theorem Mark.lt {T k : Nat} {pat : List Value} {W : World} {v : Value} (h : Mark T k pat W v) : ∀ g, v.ownBlock = some g → g < W.heap.size ∧ ∃ cur fr, W.heap[g]? = some (.cells cur T fr) := by
  intro g hg
  obtain ⟨al, n, cl, rfl, hn, h⟩ := h
  rcases h with ⟨_, rfl⟩ | ⟨g2, cur, fr, rfl, hg2, hc⟩
  · cases hg
  · cases hg
    exact ⟨(Array.getElem?_eq_some_iff.1 hg2).1, cur, fr, hg2⟩
theorem Mark.same {T k : Nat} {pat : List Value} {W W' : World} {v : Value} (h : Mark T k pat W v) (hs : ∀ g, v.ownBlock = some g → (∃ cur fr, W.heap[g]? = some (.cells cur T fr)) → W'.heap[g]? = W.heap[g]?) : Mark T k pat W' v := by
  obtain ⟨al, n, cl, rfl, hn, h⟩ := h
  refine ⟨al, n, cl, rfl, hn, ?_⟩
  rcases h with h | ⟨g, cur, fr, rfl, hg, hc⟩
  · exact .inl h
  · exact .inr ⟨g, cur, fr, rfl, (hs g rfl ⟨cur, fr, hg⟩).trans hg, hc⟩
def pats (pat : List Value) : Nat → List Value
  | 0 => []
  | n + 1 => pats pat n ++ pat
theorem pats_length (pat : List Value) : ∀ n, (pats pat n).length = n * pat.length
  | 0 => by simp [pats]
  | n + 1 => by rw [pats, List.length_append, pats_length pat n, Nat.succ_mul]
theorem pats_get (pat : List Value) : ∀ (n i j : Nat), i < n → j < pat.length → (pats pat n)[i * pat.length + j]? = pat[j]?
  | 0, i, j, h, _ => by omega
  | n + 1, i, j, h, hj => by
    rw [pats]
    by_cases hi : i < n
    · have h1 : i * pat.length + j < n * pat.length := by
        have : (i + 1) * pat.length ≤ n * pat.length := Nat.mul_le_mul_right _ hi
        rw [Nat.succ_mul] at this
        omega
      rw [List.getElem?_append_left (by rw [pats_length]; exact h1), pats_get pat n i j hi hj]
    · obtain rfl : i = n := by omega
      rw [List.getElem?_append_right (by rw [pats_length]; omega), pats_length]
      congr 1
      omega
theorem Mark.of_owns {base T n m : Nat} {pat : List Value} {W : World} {v : Value} {al : Option Addr} {cl : Nat} (h : W.ownsRow base T pat.length v n (pats pat n)) (hm : m ≤ n) (hn : n ≤ 2000000) (hv : v.ownBlock = (Value.slice al m cl).ownBlock) (hal : ∀ a, al = some a → a = ⟨a.block, 0, none⟩) : Mark T pat.length pat W (.slice al m cl) := by
  refine ⟨al, m, cl, rfl, by omega, ?_⟩
  rcases h.2 with ⟨rfl, h0⟩ | ⟨g, cap, cur, rfl, hb, hg, h1, h2, h3, h4⟩
  · left
    refine ⟨by omega, ?_⟩
    cases al with
    | none => rfl
    | some a => simp [Value.ownBlock] at hv
  · right
    cases al with
    | none => simp [Value.ownBlock] at hv
    | some a =>
      simp [Value.ownBlock] at hv
      refine ⟨g, cur, _, ?_, hg, fun i hi j hj => ?_⟩
      · rw [hal a rfl, ← hv]
      · rw [← pats_get pat n i j (by omega) hj, ← h4, List.getElem?_take]
        have hlt : i * pat.length + j < n * pat.length := by
          have : (i + 1) * pat.length ≤ n * pat.length := Nat.mul_le_mul_right _ (by omega)
          rw [Nat.succ_mul] at this
          omega
        rw [if_pos hlt]
        simp
end Go.Proofs.YtcclgodahlinbaaGreatDoor
namespace Go.Proofs.YtcclgodahlinbaaGreatDoor
open Go.RowKit Go
set_option maxRecDepth 100000
def intOf : Value → Int
  | .int _ c => c
  | _ => 0
def patT (m : Value) : List Value := [.int .u8 63, m]
def patH (m : Value) : List Value := [.int .i64 (-(intOf m)), .int .i64 0, .int .i64 (intOf m), .int .i64 0, .slice none 0 0]
def patS (m : Value) : List Value := [.bool false, .int .i64 (intOf m), .int .i64 (-(intOf m))]
def MarkV (mT : Nat) (v : Value) : Prop := (mT = 3 → ∃ c : Nat, c ≤ 9000000000000 ∧ v = .int .i64 (c : Int)) ∧ (mT = 9 → ∃ t : ByteArray, v = .string t)
structure KeptK (base rowT markT T k : Nat) (pat : Value → List Value) (v vm : Value) (E : List (Value × Value)) (W : World) : Prop where
  row : W.ownsRow base rowT 1 v E.length (E.map (·.1))
  marks : W.ownsRow base markT 1 vm E.length (E.map (·.2))
  ok : ∀ p ∈ E, Mark T k (pat p.2) W p.1
  mv : ∀ p ∈ E, MarkV markT p.2
structure WV where
  h : Value
  hm : Value
  l : Value
  lm : Value
  s : Value
  sm : Value
  r : Value
  rm : Value
  c : Nat
def WV.obj (x : WV) : Obj := .cells #[x.h, x.hm, x.l, x.lm, x.s, x.sm, x.r, x.rm, .int .i64 x.c] 55 (0, 0)
structure Bk where
  h : List (Value × Value)
  l : List (Value × Value)
  s : List (Value × Value)
  r : List (Value × Value)
structure Kept (base wb : Nat) (x : WV) (B : Bk) (W : World) : Prop where
  blk : W.heap[wb]? = some x.obj
  h : KeptK base 30 3 61 5 patH x.h x.hm B.h W
  l : KeptK base 59 9 93 2 patT x.l x.lm B.l W
  s : KeptK base 37 3 63 3 patS x.s x.sm B.s W
  r : KeptK base 100 9 101 2 patT x.r x.rm B.r W
  ap1 : x.hm.ownBlock = none ∨ x.hm.ownBlock ≠ x.sm.ownBlock
  ap2 : x.lm.ownBlock = none ∨ x.lm.ownBlock ≠ x.rm.ownBlock
  wlo : base ≤ wb
theorem KeptK.same {base rowT markT T k : Nat} {pat : Value → List Value} {v vm : Value} {E : List (Value × Value)} {W W' : World} (h : KeptK base rowT markT T k pat v vm E W)
    (hs : ∀ g cur t fr, W.heap[g]? = some (.cells cur t fr) → (t = rowT ∨ (t = markT ∧ vm.ownBlock = some g) ∨ t = T) → W'.heap[g]? = W.heap[g]?) : KeptK base rowT markT T k pat v vm E W' := by
  refine ⟨owns_same h.row fun g hg => ?_, owns_same h.marks fun g hg => ?_, fun p hp => (h.ok p hp).same fun g _ ⟨cur, fr, hg⟩ => hs g cur T fr hg (.inr (.inr rfl)), h.mv⟩
  · obtain ⟨cur, hc⟩ := owns_block h.row hg
    exact hs g cur _ _ hc (.inl rfl)
  · obtain ⟨cur, hc⟩ := owns_block h.marks hg
    exact hs g cur _ _ hc (.inr (.inl ⟨rfl, hg⟩))
theorem Kept.old {base wb : Nat} {x : WV} {B : Bk} {W W' : World} (h : Kept base wb x B W) (hs : ∀ g, g < W.heap.size → W'.heap[g]? = W.heap[g]?) : Kept base wb x B W' := by
  have key : ∀ g cur t fr, W.heap[g]? = some (Obj.cells cur t fr) → W'.heap[g]? = W.heap[g]? := fun g cur t fr hg => hs g (Array.getElem?_eq_some_iff.1 hg).1
  exact ⟨(hs wb (Array.getElem?_eq_some_iff.1 h.blk).1).trans h.blk, h.h.same fun g c t f hg _ => key g c t f hg, h.l.same fun g c t f hg _ => key g c t f hg, h.s.same fun g c t f hg _ => key g c t f hg, h.r.same fun g c t f hg _ => key g c t f hg, h.ap1, h.ap2, h.wlo⟩
def Outs (w w' : World) : Prop := w'.os = w.os ∧ w'.tape = w.tape ∧ w'.output = w.output
theorem Outs.refl (w : World) : Outs w w := ⟨rfl, rfl, rfl⟩
theorem Outs.trans {a b c : World} (h : Outs a b) (k : Outs b c) : Outs a c := ⟨k.1.trans h.1, k.2.1.trans h.2.1, k.2.2.trans h.2.2⟩
theorem Outs.of_below {B : Nat} {w w' : World} (h : Below B w w') : Outs w w' := ⟨h.os, h.tape, h.output⟩
theorem Outs.of_grown {w w' : World} {row : Option Nat} (h : w.grownBy w' row) : Outs w w' := ⟨h.os, h.tape, h.output⟩
theorem Outs.setCell (w : World) (p : Addr) (v : Value) : Outs w (w.setCell p v) := Outs.of_below ((Below.refl 0 w).setCell (Nat.zero_le _) v)
theorem Outs.alloc (w : World) (o : Obj) : Outs w (w.alloc o) := ⟨rfl, rfl, rfl⟩
theorem Outs.drew (w : World) : Outs w w.drew := ⟨rfl, rfl, rfl⟩
def Tys : List Nat := [55, 30, 59, 37, 100, 9, 3]
def Frame (base : Nat) (w w' : World) (skip : Nat → Prop) : Prop :=
  w.heap.size ≤ w'.heap.size ∧ (∀ g, g < w.heap.size → w'.heap[g]? = w.heap[g]? ∨ skip g ∨ ∃ cur t fr, w.heap[g]? = some (.cells cur t fr) ∧ t ∈ Tys ∧ base ≤ g) ∧ Outs w w'
theorem Frame.trans {base : Nat} {w w1 w2 : World} {s1 s2 : Nat → Prop} (h1 : Frame base w w1 s1) (h2 : Frame base w1 w2 s2) : Frame base w w2 (fun g => s1 g ∨ s2 g) := by
  refine ⟨Nat.le_trans h1.1 h2.1, fun g hg => ?_, h1.2.2.trans h2.2.2⟩
  rcases h1.2.1 g hg with e | e | e
  · rcases h2.2.1 g (by have := h1.1; omega) with f | f | f
    · exact .inl (f.trans e)
    · exact .inr (.inl (.inr f))
    · rw [e] at f; exact .inr (.inr f)
  · exact .inr (.inl (.inl e))
  · exact .inr (.inr e)
theorem Frame.mono {base : Nat} {w w' : World} {s s' : Nat → Prop} (h : Frame base w w' s) (hs : ∀ g, g < w.heap.size → s g → s' g) : Frame base w w' s' := by
  refine ⟨h.1, fun g hg => ?_, h.2.2⟩
  rcases h.2.1 g hg with e | e | e
  · exact .inl e
  · exact .inr (.inl (hs g hg e))
  · exact .inr (.inr e)
theorem Frame.of_below {base : Nat} {w w' : World} (h : Below w.heap.size w w') : Frame base w w' (fun _ => False) := ⟨h.size, fun g hg => .inl (h.block g hg), Outs.of_below h⟩
theorem Frame.refl (base : Nat) (w : World) : Frame base w w (fun _ => False) := ⟨Nat.le_refl _, fun _ _ => .inl rfl, Outs.refl w⟩
theorem Frame.at {base : Nat} {w w' : World} {s : Nat → Prop} (h : Frame base w w' s) {g t : Nat} {cur : Array Value} {fr : Nat × Nat} (hg : w.heap[g]? = some (.cells cur t fr)) (ht : t ∉ Tys) (hs : ¬ s g) : w'.heap[g]? = w.heap[g]? := by
  rcases h.2.1 g (Array.getElem?_eq_some_iff.1 hg).1 with e | e | ⟨c, t', f, e, ht', _⟩
  · exact e
  · exact absurd e hs
  · rw [hg] at e; cases e; exact absurd ht' ht
theorem block_ne {W : World} {a b t t' : Nat} {c c' : Array Value} {f f' : Nat × Nat} (h1 : W.heap[a]? = some (.cells c t f)) (h2 : W.heap[b]? = some (.cells c' t' f')) (ht : t ≠ t') : a ≠ b := by
  rintro rfl
  rw [h1] at h2
  cases h2
  exact ht rfl
theorem Kept.push_h {base wb : Nat} {x : WV} {B : Bk} {w w1 w3 : World} {v v1 v2 m : Value} {ob1 ob2 : Obj} (K : Kept base wb x B w)
    (g1 : (w.alloc ob1).grownBy w1 x.h.ownBlock) (o1 : w1.ownsRow base 30 1 v1 (B.h.length + 1) (B.h.map (·.1) ++ [v]))
    (g2 : ((w1.setCell ⟨wb, 0, none⟩ v1).drew.alloc ob2).grownBy w3 x.hm.ownBlock) (o2 : w3.ownsRow base 3 1 v2 (B.h.length + 1) (B.h.map (·.2) ++ [m])) (n2 : v2.ownBlock = x.hm.ownBlock ∨ ∀ g, v2.ownBlock = some g → w.heap.size ≤ g)
    (hM : Mark 61 5 (patH m) w v) (hmv : MarkV 3 m) :
    Kept base wb { x with h := v1, hm := v2 } { B with h := B.h ++ [(v, m)] } (w3.setCell ⟨wb, 1, none⟩ v2) ∧ Frame base w (w3.setCell ⟨wb, 1, none⟩ v2) (fun _ => False) := by
  have hwb : wb < w.heap.size := (Array.getElem?_eq_some_iff.1 K.blk).1
  have z1 := g1.size
  have z2 := g2.size
  simp at z1 z2
  have nrow : x.h.ownBlock ≠ some wb := fun e => by
    obtain ⟨c, hc⟩ := owns_block K.h.row e
    exact block_ne hc K.blk (by decide) rfl
  have nmk : x.hm.ownBlock ≠ some wb := fun e => by
    obtain ⟨c, hc⟩ := owns_block K.h.marks e
    exact block_ne hc K.blk (by decide) rfl
  have k1 : ∀ g, g < w.heap.size → some g ≠ x.h.ownBlock → w1.heap[g]? = w.heap[g]? := fun g hg hne => by
    rw [g1.block g (by simp; omega) hne]; exact Below.heap_alloc w ob1 g hg
  have k2 : ∀ g, g < w1.heap.size → g ≠ wb → some g ≠ x.hm.ownBlock → w3.heap[g]? = w1.heap[g]? := fun g hg hn hne => by
    rw [g2.block g (by simp; omega) hne, Below.heap_alloc (w1.setCell ⟨wb, 0, none⟩ v1).drew ob2 g (by simp; omega)]
    exact heap_setCell_other _ _ _ _ _ hn
  have b1 : w1.heap[wb]? = some x.obj := (k1 wb hwb (fun e => nrow e.symm)).trans K.blk
  have b2 : (w1.setCell ⟨wb, 0, none⟩ v1).heap[wb]? = some ({ x with h := v1 } : WV).obj := by
    rw [heap_setCell_same _ _ _ _ _ _ _ b1]; rfl
  have b3 : w3.heap[wb]? = some ({ x with h := v1 } : WV).obj := by
    rw [g2.block wb (by simp; omega) (fun e => nmk e.symm), Below.heap_alloc (w1.setCell ⟨wb, 0, none⟩ v1).drew ob2 wb (by simp; omega)]
    exact b2
  have b4 : (w3.setCell ⟨wb, 1, none⟩ v2).heap[wb]? = some ({ x with h := v1, hm := v2 } : WV).obj := by
    rw [heap_setCell_same _ _ _ _ _ _ _ b3]; rfl
  have key : ∀ g, g < w.heap.size → g ≠ wb → some g ≠ x.h.ownBlock → some g ≠ x.hm.ownBlock → (w3.setCell ⟨wb, 1, none⟩ v2).heap[g]? = w.heap[g]? := fun g hg h1 h2 h3 => by
    rw [heap_setCell_other _ _ _ _ _ h1, k2 g (by omega) h1 h3, k1 g hg h2]
  have keyT : ∀ g cur t fr, w.heap[g]? = some (Obj.cells cur t fr) → t ≠ 55 → t ≠ 30 → (t ≠ 3 ∨ some g ≠ x.hm.ownBlock) → (w3.setCell ⟨wb, 1, none⟩ v2).heap[g]? = w.heap[g]? := by
    intro g cur t fr hg h1 h2 h3
    refine key g (Array.getElem?_eq_some_iff.1 hg).1 (block_ne hg K.blk h1) (fun e => ?_) (fun e => ?_)
    · obtain ⟨c, hc⟩ := owns_block K.h.row e.symm
      exact block_ne hg hc h2 rfl
    · rcases h3 with h3 | h3
      · obtain ⟨c, hc⟩ := owns_block K.h.marks e.symm
        exact block_ne hg hc h3 rfl
      · exact h3 e
  have htw : ∀ g, x.sm.ownBlock = some g → some g ≠ x.hm.ownBlock := by
    intro g hg e
    rcases K.ap1 with h | h
    · rw [h] at e; cases e
    · exact h (e.symm.trans hg.symm)
  have hrow : (w3.setCell ⟨wb, 1, none⟩ v2).ownsRow base 30 1 v1 (B.h.length + 1) (B.h.map (·.1) ++ [v]) := by
    refine owns_same o1 fun g hg => ?_
    obtain ⟨c, hc⟩ := owns_block o1 hg
    have hgw : g ≠ wb := block_ne hc b1 (by decide)
    rw [heap_setCell_other _ _ _ _ _ hgw, k2 g (Array.getElem?_eq_some_iff.1 hc).1 hgw (fun e => ?_)]
    obtain ⟨c2, hc2⟩ := owns_block K.h.marks e.symm
    have : w1.heap[g]? = w.heap[g]? := k1 g (Array.getElem?_eq_some_iff.1 hc2).1 (fun e2 => by
      obtain ⟨c3, hc3⟩ := owns_block K.h.row e2.symm
      exact block_ne hc2 hc3 (by decide) rfl)
    rw [this] at hc
    exact block_ne hc hc2 (by decide) rfl
  have hmk : (w3.setCell ⟨wb, 1, none⟩ v2).ownsRow base 3 1 v2 (B.h.length + 1) (B.h.map (·.2) ++ [m]) := by
    refine owns_same o2 fun g hg => ?_
    obtain ⟨c, hc⟩ := owns_block o2 hg
    exact heap_setCell_other _ _ _ _ _ (block_ne hc b3 (by decide))
  refine ⟨?_, ⟨by simp; omega, fun g hg => ?_, ((Outs.alloc w ob1).trans (Outs.of_grown g1)).trans ((Outs.setCell w1 _ _).trans (((Outs.drew _).trans (Outs.alloc _ ob2)).trans ((Outs.of_grown g2).trans (Outs.setCell w3 _ _))))⟩⟩
  · refine ⟨b4, ?_, K.l.same fun g c t f hg ht => keyT g c t f hg (by rcases ht with rfl | ⟨rfl, _⟩ | rfl <;> decide) (by rcases ht with rfl | ⟨rfl, _⟩ | rfl <;> decide) (.inl (by rcases ht with rfl | ⟨rfl, _⟩ | rfl <;> decide)), K.s.same fun g c t f hg ht => keyT g c t f hg (by rcases ht with rfl | ⟨rfl, _⟩ | rfl <;> decide) (by rcases ht with rfl | ⟨rfl, _⟩ | rfl <;> decide) (by rcases ht with rfl | ⟨rfl, e⟩ | rfl; (exact .inl (by decide)); (exact .inr (htw g e)); (exact .inl (by decide))), K.r.same fun g c t f hg ht => keyT g c t f hg (by rcases ht with rfl | ⟨rfl, _⟩ | rfl <;> decide) (by rcases ht with rfl | ⟨rfl, _⟩ | rfl <;> decide) (.inl (by rcases ht with rfl | ⟨rfl, _⟩ | rfl <;> decide)), ?_, K.ap2, K.wlo⟩
    · refine ⟨by simpa using hrow, by simpa using hmk, fun p hp => ?_, fun p hp => (List.mem_append.1 hp).elim (K.h.mv p) (fun h => by rw [List.mem_singleton] at h; subst h; exact hmv)⟩
      rcases List.mem_append.1 hp with hp | hp
      · exact (K.h.ok p hp).same fun g _ ⟨c, f, hg⟩ => keyT g c _ f hg (by decide) (by decide) (.inl (by decide))
      · rw [List.mem_singleton] at hp
        subst hp
        exact hM.same fun g _ ⟨c, f, hg⟩ => keyT g c _ f hg (by decide) (by decide) (.inl (by decide))
    · show v2.ownBlock = none ∨ v2.ownBlock ≠ x.sm.ownBlock
      rcases n2 with e | e
      · rw [e]; exact K.ap1
      · cases hv : v2.ownBlock with
        | none => exact .inl rfl
        | some g =>
          right
          intro e2
          have h1 := e g hv
          have h2 := (K.s.marks.lt g e2.symm).2
          omega
  · by_cases h1 : g = wb
    · subst h1
      exact .inr (.inr ⟨_, _, _, K.blk, by decide, K.wlo⟩)
    by_cases h2 : some g = x.h.ownBlock
    · obtain ⟨c, hc⟩ := owns_block K.h.row h2.symm
      exact .inr (.inr ⟨_, _, _, hc, by decide, (K.h.row.lt g h2.symm).1⟩)
    by_cases h3 : some g = x.hm.ownBlock
    · obtain ⟨c, hc⟩ := owns_block K.h.marks h3.symm
      exact .inr (.inr ⟨_, _, _, hc, by decide, (K.h.marks.lt g h3.symm).1⟩)
    exact .inl (key g hg h1 h2 h3)
theorem Kept.push_l {base wb : Nat} {x : WV} {B : Bk} {w w1 w3 : World} {v v1 v2 m : Value} {ob1 ob2 : Obj} (K : Kept base wb x B w)
    (g1 : (w.alloc ob1).grownBy w1 x.l.ownBlock) (o1 : w1.ownsRow base 59 1 v1 (B.l.length + 1) (B.l.map (·.1) ++ [v]))
    (g2 : ((w1.setCell ⟨wb, 2, none⟩ v1).drew.alloc ob2).grownBy w3 x.lm.ownBlock) (o2 : w3.ownsRow base 9 1 v2 (B.l.length + 1) (B.l.map (·.2) ++ [m])) (n2 : v2.ownBlock = x.lm.ownBlock ∨ ∀ g, v2.ownBlock = some g → w.heap.size ≤ g)
    (hM : Mark 93 2 (patT m) w v) (hmv : MarkV 9 m) :
    Kept base wb { x with l := v1, lm := v2 } { B with l := B.l ++ [(v, m)] } (w3.setCell ⟨wb, 3, none⟩ v2) ∧ Frame base w (w3.setCell ⟨wb, 3, none⟩ v2) (fun _ => False) ∧ (∀ g, g < w.heap.size → g ≠ wb → some g ≠ x.l.ownBlock → some g ≠ x.lm.ownBlock → (w3.setCell ⟨wb, 3, none⟩ v2).heap[g]? = w.heap[g]?) := by
  have hwb : wb < w.heap.size := (Array.getElem?_eq_some_iff.1 K.blk).1
  have z1 := g1.size
  have z2 := g2.size
  simp at z1 z2
  have nrow : x.l.ownBlock ≠ some wb := fun e => by
    obtain ⟨c, hc⟩ := owns_block K.l.row e
    exact block_ne hc K.blk (by decide) rfl
  have nmk : x.lm.ownBlock ≠ some wb := fun e => by
    obtain ⟨c, hc⟩ := owns_block K.l.marks e
    exact block_ne hc K.blk (by decide) rfl
  have k1 : ∀ g, g < w.heap.size → some g ≠ x.l.ownBlock → w1.heap[g]? = w.heap[g]? := fun g hg hne => by
    rw [g1.block g (by simp; omega) hne]; exact Below.heap_alloc w ob1 g hg
  have k2 : ∀ g, g < w1.heap.size → g ≠ wb → some g ≠ x.lm.ownBlock → w3.heap[g]? = w1.heap[g]? := fun g hg hn hne => by
    rw [g2.block g (by simp; omega) hne, Below.heap_alloc (w1.setCell ⟨wb, 2, none⟩ v1).drew ob2 g (by simp; omega)]
    exact heap_setCell_other _ _ _ _ _ hn
  have b1 : w1.heap[wb]? = some x.obj := (k1 wb hwb (fun e => nrow e.symm)).trans K.blk
  have b2 : (w1.setCell ⟨wb, 2, none⟩ v1).heap[wb]? = some ({ x with l := v1 } : WV).obj := by
    rw [heap_setCell_same _ _ _ _ _ _ _ b1]; rfl
  have b3 : w3.heap[wb]? = some ({ x with l := v1 } : WV).obj := by
    rw [g2.block wb (by simp; omega) (fun e => nmk e.symm), Below.heap_alloc (w1.setCell ⟨wb, 2, none⟩ v1).drew ob2 wb (by simp; omega)]
    exact b2
  have b4 : (w3.setCell ⟨wb, 3, none⟩ v2).heap[wb]? = some ({ x with l := v1, lm := v2 } : WV).obj := by
    rw [heap_setCell_same _ _ _ _ _ _ _ b3]; rfl
  have key : ∀ g, g < w.heap.size → g ≠ wb → some g ≠ x.l.ownBlock → some g ≠ x.lm.ownBlock → (w3.setCell ⟨wb, 3, none⟩ v2).heap[g]? = w.heap[g]? := fun g hg h1 h2 h3 => by
    rw [heap_setCell_other _ _ _ _ _ h1, k2 g (by omega) h1 h3, k1 g hg h2]
  have keyT : ∀ g cur t fr, w.heap[g]? = some (Obj.cells cur t fr) → t ≠ 55 → t ≠ 59 → (t ≠ 9 ∨ some g ≠ x.lm.ownBlock) → (w3.setCell ⟨wb, 3, none⟩ v2).heap[g]? = w.heap[g]? := by
    intro g cur t fr hg h1 h2 h3
    refine key g (Array.getElem?_eq_some_iff.1 hg).1 (block_ne hg K.blk h1) (fun e => ?_) (fun e => ?_)
    · obtain ⟨c, hc⟩ := owns_block K.l.row e.symm
      exact block_ne hg hc h2 rfl
    · rcases h3 with h3 | h3
      · obtain ⟨c, hc⟩ := owns_block K.l.marks e.symm
        exact block_ne hg hc h3 rfl
      · exact h3 e
  have htw : ∀ g, x.rm.ownBlock = some g → some g ≠ x.lm.ownBlock := by
    intro g hg e
    rcases K.ap2 with h | h
    · rw [h] at e; cases e
    · exact h (e.symm.trans hg.symm)
  have hrow : (w3.setCell ⟨wb, 3, none⟩ v2).ownsRow base 59 1 v1 (B.l.length + 1) (B.l.map (·.1) ++ [v]) := by
    refine owns_same o1 fun g hg => ?_
    obtain ⟨c, hc⟩ := owns_block o1 hg
    have hgw : g ≠ wb := block_ne hc b1 (by decide)
    rw [heap_setCell_other _ _ _ _ _ hgw, k2 g (Array.getElem?_eq_some_iff.1 hc).1 hgw (fun e => ?_)]
    obtain ⟨c2, hc2⟩ := owns_block K.l.marks e.symm
    have : w1.heap[g]? = w.heap[g]? := k1 g (Array.getElem?_eq_some_iff.1 hc2).1 (fun e2 => by
      obtain ⟨c3, hc3⟩ := owns_block K.l.row e2.symm
      exact block_ne hc2 hc3 (by decide) rfl)
    rw [this] at hc
    exact block_ne hc hc2 (by decide) rfl
  have hmk : (w3.setCell ⟨wb, 3, none⟩ v2).ownsRow base 9 1 v2 (B.l.length + 1) (B.l.map (·.2) ++ [m]) := by
    refine owns_same o2 fun g hg => ?_
    obtain ⟨c, hc⟩ := owns_block o2 hg
    exact heap_setCell_other _ _ _ _ _ (block_ne hc b3 (by decide))
  refine ⟨?_, ⟨by simp; omega, fun g hg => ?_, ((Outs.alloc w ob1).trans (Outs.of_grown g1)).trans ((Outs.setCell w1 _ _).trans (((Outs.drew _).trans (Outs.alloc _ ob2)).trans ((Outs.of_grown g2).trans (Outs.setCell w3 _ _))))⟩, key⟩
  · refine ⟨b4, K.h.same fun g c t f hg ht => keyT g c t f hg (by rcases ht with rfl | ⟨rfl, _⟩ | rfl <;> decide) (by rcases ht with rfl | ⟨rfl, _⟩ | rfl <;> decide) (.inl (by rcases ht with rfl | ⟨rfl, _⟩ | rfl <;> decide)), ?_, K.s.same fun g c t f hg ht => keyT g c t f hg (by rcases ht with rfl | ⟨rfl, _⟩ | rfl <;> decide) (by rcases ht with rfl | ⟨rfl, _⟩ | rfl <;> decide) (.inl (by rcases ht with rfl | ⟨rfl, _⟩ | rfl <;> decide)), K.r.same fun g c t f hg ht => keyT g c t f hg (by rcases ht with rfl | ⟨rfl, _⟩ | rfl <;> decide) (by rcases ht with rfl | ⟨rfl, _⟩ | rfl <;> decide) (by rcases ht with rfl | ⟨rfl, e⟩ | rfl; (exact .inl (by decide)); (exact .inr (htw g e)); (exact .inl (by decide))), K.ap1, ?_, K.wlo⟩
    · refine ⟨by simpa using hrow, by simpa using hmk, fun p hp => ?_, fun p hp => (List.mem_append.1 hp).elim (K.l.mv p) (fun h => by rw [List.mem_singleton] at h; subst h; exact hmv)⟩
      rcases List.mem_append.1 hp with hp | hp
      · exact (K.l.ok p hp).same fun g _ ⟨c, f, hg⟩ => keyT g c _ f hg (by decide) (by decide) (.inl (by decide))
      · rw [List.mem_singleton] at hp
        subst hp
        exact hM.same fun g _ ⟨c, f, hg⟩ => keyT g c _ f hg (by decide) (by decide) (.inl (by decide))
    · show v2.ownBlock = none ∨ v2.ownBlock ≠ x.rm.ownBlock
      rcases n2 with e | e
      · rw [e]; exact K.ap2
      · cases hv : v2.ownBlock with
        | none => exact .inl rfl
        | some g =>
          right
          intro e2
          have h1 := e g hv
          have h2 := (K.r.marks.lt g e2.symm).2
          omega
  · by_cases h1 : g = wb
    · subst h1
      exact .inr (.inr ⟨_, _, _, K.blk, by decide, K.wlo⟩)
    by_cases h2 : some g = x.l.ownBlock
    · obtain ⟨c, hc⟩ := owns_block K.l.row h2.symm
      exact .inr (.inr ⟨_, _, _, hc, by decide, (K.l.row.lt g h2.symm).1⟩)
    by_cases h3 : some g = x.lm.ownBlock
    · obtain ⟨c, hc⟩ := owns_block K.l.marks h3.symm
      exact .inr (.inr ⟨_, _, _, hc, by decide, (K.l.marks.lt g h3.symm).1⟩)
    exact .inl (key g hg h1 h2 h3)
theorem Kept.push_r {base wb : Nat} {x : WV} {B : Bk} {w w1 w3 : World} {v v1 v2 m : Value} {ob1 ob2 : Obj} (K : Kept base wb x B w)
    (g1 : (w.alloc ob1).grownBy w1 x.r.ownBlock) (o1 : w1.ownsRow base 100 1 v1 (B.r.length + 1) (B.r.map (·.1) ++ [v]))
    (g2 : ((w1.setCell ⟨wb, 6, none⟩ v1).drew.alloc ob2).grownBy w3 x.rm.ownBlock) (o2 : w3.ownsRow base 9 1 v2 (B.r.length + 1) (B.r.map (·.2) ++ [m])) (n2 : v2.ownBlock = x.rm.ownBlock ∨ ∀ g, v2.ownBlock = some g → w.heap.size ≤ g)
    (hM : Mark 101 2 (patT m) w v) (hmv : MarkV 9 m) :
    Kept base wb { x with r := v1, rm := v2 } { B with r := B.r ++ [(v, m)] } (w3.setCell ⟨wb, 7, none⟩ v2) ∧ Frame base w (w3.setCell ⟨wb, 7, none⟩ v2) (fun _ => False) := by
  have hwb : wb < w.heap.size := (Array.getElem?_eq_some_iff.1 K.blk).1
  have z1 := g1.size
  have z2 := g2.size
  simp at z1 z2
  have nrow : x.r.ownBlock ≠ some wb := fun e => by
    obtain ⟨c, hc⟩ := owns_block K.r.row e
    exact block_ne hc K.blk (by decide) rfl
  have nmk : x.rm.ownBlock ≠ some wb := fun e => by
    obtain ⟨c, hc⟩ := owns_block K.r.marks e
    exact block_ne hc K.blk (by decide) rfl
  have k1 : ∀ g, g < w.heap.size → some g ≠ x.r.ownBlock → w1.heap[g]? = w.heap[g]? := fun g hg hne => by
    rw [g1.block g (by simp; omega) hne]; exact Below.heap_alloc w ob1 g hg
  have k2 : ∀ g, g < w1.heap.size → g ≠ wb → some g ≠ x.rm.ownBlock → w3.heap[g]? = w1.heap[g]? := fun g hg hn hne => by
    rw [g2.block g (by simp; omega) hne, Below.heap_alloc (w1.setCell ⟨wb, 6, none⟩ v1).drew ob2 g (by simp; omega)]
    exact heap_setCell_other _ _ _ _ _ hn
  have b1 : w1.heap[wb]? = some x.obj := (k1 wb hwb (fun e => nrow e.symm)).trans K.blk
  have b2 : (w1.setCell ⟨wb, 6, none⟩ v1).heap[wb]? = some ({ x with r := v1 } : WV).obj := by
    rw [heap_setCell_same _ _ _ _ _ _ _ b1]; rfl
  have b3 : w3.heap[wb]? = some ({ x with r := v1 } : WV).obj := by
    rw [g2.block wb (by simp; omega) (fun e => nmk e.symm), Below.heap_alloc (w1.setCell ⟨wb, 6, none⟩ v1).drew ob2 wb (by simp; omega)]
    exact b2
  have b4 : (w3.setCell ⟨wb, 7, none⟩ v2).heap[wb]? = some ({ x with r := v1, rm := v2 } : WV).obj := by
    rw [heap_setCell_same _ _ _ _ _ _ _ b3]; rfl
  have key : ∀ g, g < w.heap.size → g ≠ wb → some g ≠ x.r.ownBlock → some g ≠ x.rm.ownBlock → (w3.setCell ⟨wb, 7, none⟩ v2).heap[g]? = w.heap[g]? := fun g hg h1 h2 h3 => by
    rw [heap_setCell_other _ _ _ _ _ h1, k2 g (by omega) h1 h3, k1 g hg h2]
  have keyT : ∀ g cur t fr, w.heap[g]? = some (Obj.cells cur t fr) → t ≠ 55 → t ≠ 100 → (t ≠ 9 ∨ some g ≠ x.rm.ownBlock) → (w3.setCell ⟨wb, 7, none⟩ v2).heap[g]? = w.heap[g]? := by
    intro g cur t fr hg h1 h2 h3
    refine key g (Array.getElem?_eq_some_iff.1 hg).1 (block_ne hg K.blk h1) (fun e => ?_) (fun e => ?_)
    · obtain ⟨c, hc⟩ := owns_block K.r.row e.symm
      exact block_ne hg hc h2 rfl
    · rcases h3 with h3 | h3
      · obtain ⟨c, hc⟩ := owns_block K.r.marks e.symm
        exact block_ne hg hc h3 rfl
      · exact h3 e
  have htw : ∀ g, x.lm.ownBlock = some g → some g ≠ x.rm.ownBlock := by
    intro g hg e
    rcases K.ap2 with h | h
    · rw [h] at hg; cases hg
    · exact h (hg.trans e)
  have hrow : (w3.setCell ⟨wb, 7, none⟩ v2).ownsRow base 100 1 v1 (B.r.length + 1) (B.r.map (·.1) ++ [v]) := by
    refine owns_same o1 fun g hg => ?_
    obtain ⟨c, hc⟩ := owns_block o1 hg
    have hgw : g ≠ wb := block_ne hc b1 (by decide)
    rw [heap_setCell_other _ _ _ _ _ hgw, k2 g (Array.getElem?_eq_some_iff.1 hc).1 hgw (fun e => ?_)]
    obtain ⟨c2, hc2⟩ := owns_block K.r.marks e.symm
    have : w1.heap[g]? = w.heap[g]? := k1 g (Array.getElem?_eq_some_iff.1 hc2).1 (fun e2 => by
      obtain ⟨c3, hc3⟩ := owns_block K.r.row e2.symm
      exact block_ne hc2 hc3 (by decide) rfl)
    rw [this] at hc
    exact block_ne hc hc2 (by decide) rfl
  have hmk : (w3.setCell ⟨wb, 7, none⟩ v2).ownsRow base 9 1 v2 (B.r.length + 1) (B.r.map (·.2) ++ [m]) := by
    refine owns_same o2 fun g hg => ?_
    obtain ⟨c, hc⟩ := owns_block o2 hg
    exact heap_setCell_other _ _ _ _ _ (block_ne hc b3 (by decide))
  refine ⟨?_, ⟨by simp; omega, fun g hg => ?_, ((Outs.alloc w ob1).trans (Outs.of_grown g1)).trans ((Outs.setCell w1 _ _).trans (((Outs.drew _).trans (Outs.alloc _ ob2)).trans ((Outs.of_grown g2).trans (Outs.setCell w3 _ _))))⟩⟩
  · refine ⟨b4, K.h.same fun g c t f hg ht => keyT g c t f hg (by rcases ht with rfl | ⟨rfl, _⟩ | rfl <;> decide) (by rcases ht with rfl | ⟨rfl, _⟩ | rfl <;> decide) (.inl (by rcases ht with rfl | ⟨rfl, _⟩ | rfl <;> decide)), K.l.same fun g c t f hg ht => keyT g c t f hg (by rcases ht with rfl | ⟨rfl, _⟩ | rfl <;> decide) (by rcases ht with rfl | ⟨rfl, _⟩ | rfl <;> decide) (by rcases ht with rfl | ⟨rfl, e⟩ | rfl; (exact .inl (by decide)); (exact .inr (htw g e)); (exact .inl (by decide))), K.s.same fun g c t f hg ht => keyT g c t f hg (by rcases ht with rfl | ⟨rfl, _⟩ | rfl <;> decide) (by rcases ht with rfl | ⟨rfl, _⟩ | rfl <;> decide) (.inl (by rcases ht with rfl | ⟨rfl, _⟩ | rfl <;> decide)), ?_, K.ap1, ?_, K.wlo⟩
    · refine ⟨by simpa using hrow, by simpa using hmk, fun p hp => ?_, fun p hp => (List.mem_append.1 hp).elim (K.r.mv p) (fun h => by rw [List.mem_singleton] at h; subst h; exact hmv)⟩
      rcases List.mem_append.1 hp with hp | hp
      · exact (K.r.ok p hp).same fun g _ ⟨c, f, hg⟩ => keyT g c _ f hg (by decide) (by decide) (.inl (by decide))
      · rw [List.mem_singleton] at hp
        subst hp
        exact hM.same fun g _ ⟨c, f, hg⟩ => keyT g c _ f hg (by decide) (by decide) (.inl (by decide))
    · show x.lm.ownBlock = none ∨ x.lm.ownBlock ≠ v2.ownBlock
      rcases n2 with e | e
      · rw [e]; exact K.ap2
      · cases hv : x.lm.ownBlock with
        | none => exact .inl rfl
        | some g =>
          right
          intro e2
          have h1 := e g e2.symm
          have h2 := (K.l.marks.lt g hv).2
          omega
  · by_cases h1 : g = wb
    · subst h1
      exact .inr (.inr ⟨_, _, _, K.blk, by decide, K.wlo⟩)
    by_cases h2 : some g = x.r.ownBlock
    · obtain ⟨c, hc⟩ := owns_block K.r.row h2.symm
      exact .inr (.inr ⟨_, _, _, hc, by decide, (K.r.row.lt g h2.symm).1⟩)
    by_cases h3 : some g = x.rm.ownBlock
    · obtain ⟨c, hc⟩ := owns_block K.r.marks h3.symm
      exact .inr (.inr ⟨_, _, _, hc, by decide, (K.r.marks.lt g h3.symm).1⟩)
    exact .inl (key g hg h1 h2 h3)
theorem Kept.skip_h {base wb : Nat} {x : WV} {B : Bk} {W W' : World} {vb : Option Nat} (K : Kept base wb x B W) (hv : ∀ g, vb = some g → g < W.heap.size → ∃ cur fr, W.heap[g]? = some (.cells cur 61 fr)) (hs : ∀ g, g < W.heap.size → some g ≠ vb → W'.heap[g]? = W.heap[g]?)
    (hf : ∀ p ∈ B.h, (p.1.ownBlock = none ∨ p.1.ownBlock ≠ vb) ∨ Mark 61 5 (patH p.2) W' p.1) : Kept base wb x B W' := by
  have key : ∀ g cur t fr, W.heap[g]? = some (Obj.cells cur t fr) → t ≠ 61 → W'.heap[g]? = W.heap[g]? := fun g cur t fr hg ht => by
    have hlt := (Array.getElem?_eq_some_iff.1 hg).1
    refine hs g hlt (fun e => ?_)
    obtain ⟨c, f, h⟩ := hv g e.symm hlt
    exact block_ne hg h ht rfl
  refine ⟨(key wb _ _ _ K.blk (by decide)).trans K.blk, ?_, K.l.same fun g c t f hg ht => key g c t f hg (by rcases ht with rfl | ⟨rfl, _⟩ | rfl <;> decide), K.s.same fun g c t f hg ht => key g c t f hg (by rcases ht with rfl | ⟨rfl, _⟩ | rfl <;> decide), K.r.same fun g c t f hg ht => key g c t f hg (by rcases ht with rfl | ⟨rfl, _⟩ | rfl <;> decide), K.ap1, K.ap2, K.wlo⟩
  refine ⟨owns_same K.h.row fun g hg => ?_, owns_same K.h.marks fun g hg => ?_, fun p hp => ?_, K.h.mv⟩
  · obtain ⟨c, hc⟩ := owns_block K.h.row hg
    exact key g c _ _ hc (by decide)
  · obtain ⟨c, hc⟩ := owns_block K.h.marks hg
    exact key g c _ _ hc (by decide)
  · rcases hf p hp with (h | h) | h
    · exact (K.h.ok p hp).same fun g e _ => by rw [h] at e; cases e
    · exact (K.h.ok p hp).same fun g e ⟨c, f, hg⟩ => hs g (Array.getElem?_eq_some_iff.1 hg).1 (fun e2 => h (e.trans e2))
    · exact h
theorem Kept.skip_l {base wb : Nat} {x : WV} {B : Bk} {W W' : World} {vb : Option Nat} (K : Kept base wb x B W) (hv : ∀ g, vb = some g → g < W.heap.size → ∃ cur fr, W.heap[g]? = some (.cells cur 93 fr)) (hs : ∀ g, g < W.heap.size → some g ≠ vb → W'.heap[g]? = W.heap[g]?)
    (hf : ∀ p ∈ B.l, (p.1.ownBlock = none ∨ p.1.ownBlock ≠ vb) ∨ Mark 93 2 (patT p.2) W' p.1) : Kept base wb x B W' := by
  have key : ∀ g cur t fr, W.heap[g]? = some (Obj.cells cur t fr) → t ≠ 93 → W'.heap[g]? = W.heap[g]? := fun g cur t fr hg ht => by
    have hlt := (Array.getElem?_eq_some_iff.1 hg).1
    refine hs g hlt (fun e => ?_)
    obtain ⟨c, f, h⟩ := hv g e.symm hlt
    exact block_ne hg h ht rfl
  refine ⟨(key wb _ _ _ K.blk (by decide)).trans K.blk, K.h.same fun g c t f hg ht => key g c t f hg (by rcases ht with rfl | ⟨rfl, _⟩ | rfl <;> decide), ?_, K.s.same fun g c t f hg ht => key g c t f hg (by rcases ht with rfl | ⟨rfl, _⟩ | rfl <;> decide), K.r.same fun g c t f hg ht => key g c t f hg (by rcases ht with rfl | ⟨rfl, _⟩ | rfl <;> decide), K.ap1, K.ap2, K.wlo⟩
  refine ⟨owns_same K.l.row fun g hg => ?_, owns_same K.l.marks fun g hg => ?_, fun p hp => ?_, K.l.mv⟩
  · obtain ⟨c, hc⟩ := owns_block K.l.row hg
    exact key g c _ _ hc (by decide)
  · obtain ⟨c, hc⟩ := owns_block K.l.marks hg
    exact key g c _ _ hc (by decide)
  · rcases hf p hp with (h | h) | h
    · exact (K.l.ok p hp).same fun g e _ => by rw [h] at e; cases e
    · exact (K.l.ok p hp).same fun g e ⟨c, f, hg⟩ => hs g (Array.getElem?_eq_some_iff.1 hg).1 (fun e2 => h (e.trans e2))
    · exact h
theorem Kept.skip_r {base wb : Nat} {x : WV} {B : Bk} {W W' : World} {vb : Option Nat} (K : Kept base wb x B W) (hv : ∀ g, vb = some g → g < W.heap.size → ∃ cur fr, W.heap[g]? = some (.cells cur 101 fr)) (hs : ∀ g, g < W.heap.size → some g ≠ vb → W'.heap[g]? = W.heap[g]?)
    (hf : ∀ p ∈ B.r, (p.1.ownBlock = none ∨ p.1.ownBlock ≠ vb) ∨ Mark 101 2 (patT p.2) W' p.1) : Kept base wb x B W' := by
  have key : ∀ g cur t fr, W.heap[g]? = some (Obj.cells cur t fr) → t ≠ 101 → W'.heap[g]? = W.heap[g]? := fun g cur t fr hg ht => by
    have hlt := (Array.getElem?_eq_some_iff.1 hg).1
    refine hs g hlt (fun e => ?_)
    obtain ⟨c, f, h⟩ := hv g e.symm hlt
    exact block_ne hg h ht rfl
  refine ⟨(key wb _ _ _ K.blk (by decide)).trans K.blk, K.h.same fun g c t f hg ht => key g c t f hg (by rcases ht with rfl | ⟨rfl, _⟩ | rfl <;> decide), K.l.same fun g c t f hg ht => key g c t f hg (by rcases ht with rfl | ⟨rfl, _⟩ | rfl <;> decide), K.s.same fun g c t f hg ht => key g c t f hg (by rcases ht with rfl | ⟨rfl, _⟩ | rfl <;> decide), ?_, K.ap1, K.ap2, K.wlo⟩
  refine ⟨owns_same K.r.row fun g hg => ?_, owns_same K.r.marks fun g hg => ?_, fun p hp => ?_, K.r.mv⟩
  · obtain ⟨c, hc⟩ := owns_block K.r.row hg
    exact key g c _ _ hc (by decide)
  · obtain ⟨c, hc⟩ := owns_block K.r.marks hg
    exact key g c _ _ hc (by decide)
  · rcases hf p hp with (h | h) | h
    · exact (K.r.ok p hp).same fun g e _ => by rw [h] at e; cases e
    · exact (K.r.ok p hp).same fun g e ⟨c, f, hg⟩ => hs g (Array.getElem?_eq_some_iff.1 hg).1 (fun e2 => h (e.trans e2))
    · exact h
theorem Frame.low {base : Nat} {w w' : World} {s : Nat → Prop} (h : Frame base w w' s) (hs : ∀ g, s g → base ≤ g) {g : Nat} (hg : g < base) (hw : g < w.heap.size) : w'.heap[g]? = w.heap[g]? := by
  rcases h.2.1 g hw with e | e | ⟨c, t', f, e, _, hb⟩
  · exact e
  · have := hs g e; omega
  · omega
theorem Kept.count {base wb : Nat} {x : WV} {B : Bk} {w w' : World} {c : Nat} (K : Kept base wb x B w) (hb : w'.heap[wb]? = some ({ x with c := c } : WV).obj) (hs : ∀ g, g < w.heap.size → g ≠ wb → w'.heap[g]? = w.heap[g]?) : Kept base wb { x with c := c } B w' := by
  have key : ∀ g cur t fr, w.heap[g]? = some (Obj.cells cur t fr) → t ≠ 55 → w'.heap[g]? = w.heap[g]? := fun g cur t fr hg ht => hs g (Array.getElem?_eq_some_iff.1 hg).1 (block_ne hg K.blk ht)
  exact ⟨hb, K.h.same fun g c t f hg ht => key g c t f hg (by rcases ht with rfl | ⟨rfl, _⟩ | rfl <;> decide), K.l.same fun g c t f hg ht => key g c t f hg (by rcases ht with rfl | ⟨rfl, _⟩ | rfl <;> decide), K.s.same fun g c t f hg ht => key g c t f hg (by rcases ht with rfl | ⟨rfl, _⟩ | rfl <;> decide), K.r.same fun g c t f hg ht => key g c t f hg (by rcases ht with rfl | ⟨rfl, _⟩ | rfl <;> decide), K.ap1, K.ap2, K.wlo⟩
end Go.Proofs.YtcclgodahlinbaaGreatDoor
namespace Go.Proofs.YtcclgodahlinbaaGreatDoor
open Go.RowKit Go
set_option maxRecDepth 100000
theorem conv_one (b : Nat) (hb : b < 256) (wr : World) : (convert 72 9 (.slice (some ⟨wr.heap.size, 0, none⟩) 1 1)).run Tryz.prog (wr.alloc (.cells #[.int .u8 (b : Int)] 5)) = .ok (.string ⟨#[UInt8.ofNat b]⟩) (wr.alloc (.cells #[.int .u8 (b : Int)] 5)) := by
  have h := run_convert_bytes_back (P := Tryz.prog) (wr.alloc (.cells #[.int .u8 (b : Int)] 5)) 72 9 5 ⟨wr.heap.size, 0, none⟩ 1 [UInt8.ofNat b] Tryz.underlying72 Tryz.underlying5 Tryz.underlying9 (by
    intro j hj
    obtain rfl : j = 0 := by simpa using hj
    refine cell_of (heap_alloc_new wr _) ?_
    simp
    have : b % 256 = b := by omega
    omega)
  exact h
set_option maxHeartbeats 2000000 in
theorem word_ok {wb : Nat} {x : WV} {w : World} (hk : w.heap[wb]? = some x.obj) (hc : x.c ≤ 8000000000000) :
    Calls Tryz.prog 119 #[.pointer (some ⟨wb, 0, none⟩)] w fun e w' => ∃ t : ByteArray, e = .returned (.string t) ∧ t.size ≤ 8 ∧ w'.heap[wb]? = some ({ x with c := x.c + 1 } : WV).obj ∧ (∀ g, g < w.heap.size → g ≠ wb → w'.heap[g]? = w.heap[g]?) ∧ w.heap.size ≤ w'.heap.size ∧ Outs w w' := by
  have hwb : wb < w.heap.size := (Array.getElem?_eq_some_iff.1 hk).1
  have c8 : w.cell? ⟨wb, 8, none⟩ = some (.int .i64 (x.c : Int)) := cell_of hk rfl
  have fz : ∀ k, w.frozen? ⟨wb, k, none⟩ = false := fun k => frozen_of hk
  have hk2 : (w.setCell ⟨wb, 8, none⟩ (.int .i64 ((x.c : Int) + 1))).heap[wb]? = some ({ x with c := x.c + 1 } : WV).obj := by
    rw [heap_setCell_same _ _ _ _ _ _ _ hk]; simp [WV.obj]
  have c8' : (w.setCell ⟨wb, 8, none⟩ (.int .i64 ((x.c : Int) + 1))).cell? ⟨wb, 8, none⟩ = some (.int .i64 ((x.c : Int) + 1)) := cell_of (heap_setCell_same _ _ _ _ _ _ _ hk) rfl
  have hb2 : Hid (∀ W : World, Below (w.setCell ⟨wb, 8, none⟩ (.int .i64 ((x.c : Int) + 1))).heap.size (w.setCell ⟨wb, 8, none⟩ (.int .i64 ((x.c : Int) + 1))) W → W.heap[wb]? = some ({ x with c := x.c + 1 } : WV).obj ∧ (∀ g, g < w.heap.size → g ≠ wb → W.heap[g]? = w.heap[g]?) ∧ w.heap.size ≤ W.heap.size ∧ Outs w W) := by
    intro W hb
    have hz := hb.size
    simp at hz
    refine ⟨(hb.block wb (by simpa using hwb)).trans hk2, fun g hg hne => (hb.block g (by simpa using hg)).trans (heap_setCell_other _ _ _ _ _ hne), hz, (Outs.setCell w _ _).trans (Outs.of_below hb)⟩
  go_enter Tryz.func119, Tryz.ntmps119
  go_wp2_with fail
  clear c8 fz hk2 c8'
  generalize w.setCell ⟨wb, 8, none⟩ (.int .i64 ((x.c : Int) + 1)) = w1 at *
  go_loopg [3, 4, 5] 7 (fun g t3 t4 t5 wr => ∃ (k n : Nat) (t : ByteArray), g = 7 - k ∧ k ≤ 7 ∧ t.size ≤ k + 1 ∧ t3 = .string t ∧ t4 = .int .i64 n ∧ n ≤ 8000000000001 ∧ t5 = .int .i64 k ∧ Below w1.heap.size w1 wr)
  case atStart => exact ⟨0, x.c + 1, ⟨#[35]⟩, rfl, by omega, by decide, rfl, by push_cast; rfl, by omega, rfl, Below.refl _ _⟩
  case round =>
    obtain ⟨k, n, t, hgk, hk7, ht, rfl, rfl, hn, rfl, hb⟩ := hrel
    have hG : Hid (_ = 7 - k) := hgk
    clear hgk
    have hz := hb.size
    by_cases hk : k < 7
    · have hkI : (k : Int) < 7 := by omega
      have hcv := conv_one (97 + n % 16) (by omega) wr
      push_cast at hcv
      have x1 : IntKind.i64.wrap (97 + (n : Int) % 16) = 97 + (n : Int) % 16 := by rw [IntKind.wrap_i64]; omega
      have x2 : IntKind.u8.wrap (97 + (n : Int) % 16) = 97 + (n : Int) % 16 := by rw [IntKind.wrap_u8]; omega
      have hba := hb.alloc hz (.cells #[.int .u8 (97 + (n : Int) % 16)] 5)
      go_wp2_with fail
      go_roundg (7 - (k + 1))
      · exact ⟨k + 1, n / 16, t ++ ⟨#[97 + UInt8.ofNat (n % 16)]⟩, rfl, by omega, by rw [ByteArray.size_append]; show t.size + 1 ≤ _; omega, rfl, by push_cast; rfl, by omega, by push_cast; rfl, hba⟩
      · have := hG.out; omega
    · have hkI : ¬ (k : Int) < 7 := by omega
      go_wp2_with fail
      go_ret
      exact ⟨t, rfl, by omega, hb2.out wr hb⟩
end Go.Proofs.YtcclgodahlinbaaGreatDoor
namespace Go.Proofs.YtcclgodahlinbaaGreatDoor
open Go.RowKit Go
set_option maxRecDepth 100000
def spB (f c : Nat) : ByteArray := ⟨(spanL f c).toArray⟩
def dcB (n : Nat) : ByteArray := ⟨(Lib.decDigits n).toArray⟩
theorem dcB_size {n : Nat} (h : n ≤ 100000) : (dcB n).size ≤ 6 := by unfold dcB; rw [size_mk]; exact dec_len h
theorem spB_size {f c : Nat} (h1 : f ≤ 100000) (h2 : c ≤ 100000) : (spB f c).size ≤ 13 := by unfold spB; rw [size_mk]; exact spanL_len h1 h2
theorem spB_eq (f c : Nat) : spB f c = dcB f ++ ⟨#[44]⟩ ++ dcB c := by
  unfold spB dcB spanL
  apply ByteArray.ext
  simp [ByteArray.data_append]
set_option maxHeartbeats 1000000 in
theorem span_nat {f c : Nat} (h1 : f ≤ 100000) (h2 : c ≤ 100000) {w : World} (hg : GlobP w) : Calls Tryz.prog 109 #[.int .i64 (f : Int), .int .i64 (c : Int)] w fun e w' => e = .returned (.string (spB f c)) ∧ Below w.heap.size w w' := by
  have m1 := itoa_nat h1 hg
  have m2 : Hid (∀ w1, Below w.heap.size w w1 → Calls Tryz.prog 133 #[.int .i64 (c : Int)] w1 fun e w' => e = .returned (.string (dcB c)) ∧ Below w1.heap.size w1 w') := fun w1 hb => itoa_nat h2 (hg.next hb)
  have m1' : Calls Tryz.prog 133 #[.int .i64 (f : Int)] w fun e w' => e = .returned (.string (dcB f)) ∧ Below w.heap.size w w' := m1
  have z1 := dcB_size h1
  have z2 := dcB_size h2
  rw [spB_eq]
  generalize dcB f = s1 at *
  generalize dcB c = s2 at *
  clear m1
  go_enter Tryz.func109, Tryz.ntmps109
  go_wp2_with fail
  refine m1'.mono ?_
  rintro e w1 ⟨rfl, hb1⟩
  have m3 := m2.out w1 hb1
  go_wp2_with (go_at_call 133; refine m3.mono ?_; rintro e w2 ⟨rfl, hb2⟩)
  go_ret
  exact ⟨rfl, hb1.trans (hb2.mono hb1.size)⟩
theorem run_span (args : Array Value) (w : World) : (callFunc 109 args).run Tryz.prog w = .ok (.enter 109 args) w := enters_of Tryz.func109 (by kernel_rfl) rfl args w
theorem run_digits (args : Array Value) (w : World) : (callFunc 122 args).run Tryz.prog w = .ok (.enter 122 args) w := enters_of Tryz.func122 (by kernel_rfl) rfl args w
structure NumsN (h : HI) (a b c d : Nat) : Prop where
  e1 : h.fr = a
  e2 : h.fc = b
  e3 : h.tr = c
  e4 : h.tc = d
  l1 : a ≤ 100000
  l2 : b ≤ 100000
  l3 : c ≤ 100000
  l4 : d ≤ 100000
theorem nums_of {h : HI} (h1 : numOk h.fr h.fc = true) (h2 : numOk h.tr h.tc = true) : ∃ a b c d, NumsN h a b c d := by
  rw [numOk_iff] at h1 h2
  exact ⟨h.fr.toNat, h.fc.toNat, h.tr.toNat, h.tc.toNat, by omega, by omega, by omega, by omega, by omega, by omega, by omega, by omega⟩
def headB (a b c d : Nat) : ByteArray := ⟨(headL a b c d).toArray⟩
theorem headB_size {a b c d : Nat} (h1 : a ≤ 100000) (h2 : b ≤ 100000) (h3 : c ≤ 100000) (h4 : d ≤ 100000) : (headB a b c d).size ≤ 35 := by unfold headB; rw [size_mk]; exact headL_len h1 h2 h3 h4
theorem headB_sp (a b c d : Nat) : headB a b c d = ⟨#[64, 64, 32, 45]⟩ ++ spB a b ++ ⟨#[32, 43]⟩ ++ spB c d ++ ⟨#[32, 64, 64]⟩ := by
  unfold headB spB headL
  apply ByteArray.ext
  simp [ByteArray.data_append]
theorem headB_dc (a b c d : Nat) : headB a b c d = ⟨#[64, 64, 32, 45]⟩ ++ dcB a ++ ⟨#[44]⟩ ++ dcB b ++ ⟨#[32, 43]⟩ ++ dcB c ++ ⟨#[44]⟩ ++ dcB d ++ ⟨#[32, 64, 64]⟩ := by
  rw [headB_sp, spB_eq, spB_eq]
  simp [ByteArray.append_assoc]
set_option maxHeartbeats 4000000 in
theorem header_nat {a b c d : Nat} (l1 : a ≤ 100000) (l2 : b ≤ 100000) (l3 : c ≤ 100000) (l4 : d ≤ 100000) (v : Value) {w : World} (hg : GlobP w) :
    Calls Tryz.prog 72 #[.agg #[.int .i64 (a : Int), .int .i64 (b : Int), .int .i64 (c : Int), .int .i64 (d : Int), v]] w fun e w' => e = .returned (.string (headB a b c d ++ ⟨#[10]⟩)) ∧ Below w.heap.size w w' := by
  have hB := heap_alloc_new w (.cells #[.int .i64 (a : Int), .int .i64 (b : Int), .int .i64 (c : Int), .int .i64 (d : Int), v] 61)
  have b0 := (Below.refl w.heap.size w).alloc (Nat.le_refl _) (.cells #[.int .i64 (a : Int), .int .i64 (b : Int), .int .i64 (c : Int), .int .i64 (d : Int), v] 61)
  have hz : (w.alloc (.cells #[.int .i64 (a : Int), .int .i64 (b : Int), .int .i64 (c : Int), .int .i64 (d : Int), v] 61)).heap.size = w.heap.size + 1 := by simp
  have z1 := spB_size l1 l2
  have z2 := spB_size l3 l4
  rw [headB_sp]
  have s1 : Hid (∀ w1, Below w.heap.size w w1 → Calls Tryz.prog 109 #[.int .i64 (a : Int), .int .i64 (b : Int)] w1 fun e w' => ∃ v, e = .returned v ∧ (v = .string (spB a b) ∧ Below w1.heap.size w1 w')) := fun w1 hb => (span_nat l1 l2 (hg.next hb)).mono fun e w' h => ⟨_, h.1, rfl, h.2⟩
  have s2 : Hid (∀ w1, Below w.heap.size w w1 → Calls Tryz.prog 109 #[.int .i64 (c : Int), .int .i64 (d : Int)] w1 fun e w' => ∃ v, e = .returned v ∧ (v = .string (spB c d) ∧ Below w1.heap.size w1 w')) := fun w1 hb => (span_nat l3 l4 (hg.next hb)).mono fun e w' h => ⟨_, h.1, rfl, h.2⟩
  generalize spB a b = p1 at *
  generalize spB c d = p2 at *
  obtain ⟨S, hS⟩ : ∃ S : ByteArray, ⟨#[64, 64, 32, 45]⟩ ++ p1 ++ ⟨#[32, 43]⟩ ++ p2 ++ ⟨#[32, 64, 64]⟩ ++ ⟨#[10]⟩ = S := ⟨_, rfl⟩
  rw [hS]
  have hSH : Hid (⟨#[64, 64, 32, 45]⟩ ++ p1 ++ ⟨#[32, 43]⟩ ++ p2 ++ ⟨#[32, 64, 64]⟩ ++ ⟨#[10]⟩ = S) := hS
  clear hS
  have q1 : ¬ 9223372036854775807 < 4 + p1.size := by omega
  have q2 : ¬ 9223372036854775807 < 4 + p1.size + 2 := by omega
  have q3 : ¬ 9223372036854775807 < 4 + p1.size + 2 + p2.size := by omega
  have q4 : ¬ 9223372036854775807 < 4 + p1.size + 2 + p2.size + 3 := by omega
  have q5 : ¬ 9223372036854775807 < 4 + p1.size + 2 + p2.size + 3 + 1 := by omega
  go_enter Tryz.func72, Tryz.ntmps72
  go_wp2_with fail
  generalize w.alloc (.cells #[.int .i64 (a : Int), .int .i64 (b : Int), .int .i64 (c : Int), .int .i64 (d : Int), v] 61) = W at *
  have hW : Below w.heap.size w W.drew := b0.drew
  have hI0 : W.drew.heap[w.heap.size]? = some (.cells #[.int .i64 (a : Int), .int .i64 (b : Int), .int .i64 (c : Int), .int .i64 (d : Int), v] 61 (0, 0)) := hB
  refine wp_region_any mixed (wpKind.any (I := fun w' => w'.heap[w.heap.size]? = some (.cells #[.int .i64 (a : Int), .int .i64 (b : Int), .int .i64 (c : Int), .int .i64 (d : Int), v] 61 (0, 0))) ?_)
  refine wpKind_take (i := 0) (n := 15) (v := .pointer (some ⟨w.heap.size, 0, none⟩)) rfl (by kernel_rfl) (by kernel_rfl) (by kernel_rfl) (fun c a w h => h) ⟨by simp [Region.wanted], fun w' hw => ?_⟩ ?_
  · simp [execOp, go_sem, Act.eval]
  refine wpKind_take (i := 1) (n := 14) (v := .int .i64 (a : Int)) rfl (by kernel_rfl) (by kernel_rfl) (by kernel_rfl) (fun c a w h => h) ⟨by simp [Region.wanted], fun w' hw => ?_⟩ ?_
  · have hc : w'.cell? ⟨w.heap.size, 0, none⟩ = some (.int .i64 (a : Int)) := cell_of (k := 0) hw rfl; simp [execOp, go_sem, Act.eval, Act.put, hc]
  refine wpKind_take (i := 2) (n := 13) (v := .pointer (some ⟨w.heap.size, 1, none⟩)) rfl (by kernel_rfl) (by kernel_rfl) (by kernel_rfl) (fun c a w h => h) ⟨by simp [Region.wanted], fun w' hw => ?_⟩ ?_
  · simp [execOp, go_sem, Act.eval, Act.put]
  refine wpKind_take (i := 3) (n := 12) (v := .int .i64 (b : Int)) rfl (by kernel_rfl) (by kernel_rfl) (by kernel_rfl) (fun c a w h => h) ⟨by simp [Region.wanted], fun w' hw => ?_⟩ ?_
  · have hc : w'.cell? ⟨w.heap.size, 1, none⟩ = some (.int .i64 (b : Int)) := cell_of (k := 1) hw rfl; simp [execOp, go_sem, Act.eval, Act.put, hc]
  refine wpKind_take (i := 7) (n := 11) (v := .pointer (some ⟨w.heap.size, 2, none⟩)) rfl (by kernel_rfl) (by kernel_rfl) (by kernel_rfl) (fun c a w h => h) ⟨by simp [Region.wanted], fun w' hw => ?_⟩ ?_
  · simp [execOp, go_sem, Act.eval, Act.put]
  refine wpKind_take (i := 8) (n := 10) (v := .int .i64 (c : Int)) rfl (by kernel_rfl) (by kernel_rfl) (by kernel_rfl) (fun c a w h => h) ⟨by simp [Region.wanted], fun w' hw => ?_⟩ ?_
  · have hc : w'.cell? ⟨w.heap.size, 2, none⟩ = some (.int .i64 (c : Int)) := cell_of (k := 2) hw rfl; simp [execOp, go_sem, Act.eval, Act.put, hc]
  refine wpKind_take (i := 9) (n := 9) (v := .pointer (some ⟨w.heap.size, 3, none⟩)) rfl (by kernel_rfl) (by kernel_rfl) (by kernel_rfl) (fun c a w h => h) ⟨by simp [Region.wanted], fun w' hw => ?_⟩ ?_
  · simp [execOp, go_sem, Act.eval, Act.put]
  refine wpKind_take (i := 10) (n := 8) (v := .int .i64 (d : Int)) rfl (by kernel_rfl) (by kernel_rfl) (by kernel_rfl) (fun c a w h => h) ⟨by simp [Region.wanted], fun w' hw => ?_⟩ ?_
  · have hc : w'.cell? ⟨w.heap.size, 3, none⟩ = some (.int .i64 (d : Int)) := cell_of (k := 3) hw rfl; simp [execOp, go_sem, Act.eval, Act.put, hc]
  refine wpKind_one (i := 4) (n := 7) hI0 (by kernel_rfl) ?_
  refine wpOp_call rfl rfl 109 _ _ rfl #[.int .i64 (a : Int), .int .i64 (b : Int)] (by simp [Act.eval, Act.put]) (run_span _ _) (fun v w' => v = .string p1 ∧ Below W.drew.heap.size W.drew w') (s1.out _ hW) ?_
  rintro v1 w1 ⟨rfl, hb1⟩
  have hz1 := hb1.size
  have hI1 := (hb1.block w.heap.size (by show w.heap.size < W.heap.size; omega)).trans hI0
  have hW1 := hW.trans (hb1.mono hW.size)
  refine wpKind_take (i := 5) (n := 6) (v := .string (⟨#[64, 64, 32, 45]⟩ ++ p1)) rfl (by kernel_rfl) (by kernel_rfl) (by kernel_rfl) (fun c a w h => h) ⟨by simp [Region.wanted], fun w' hw => ?_⟩ ?_
  · have k1 : ¬ 9223372036854775807 < 4 + p1.size := q1; simp [execOp, go_sem, Act.eval, Act.put, k1]
  refine wpKind_take (i := 6) (n := 5) (v := .string (⟨#[64, 64, 32, 45]⟩ ++ p1 ++ ⟨#[32, 43]⟩)) rfl (by kernel_rfl) (by kernel_rfl) (by kernel_rfl) (fun c a w h => h) ⟨by simp [Region.wanted], fun w' hw => ?_⟩ ?_
  · have k1 : ¬ 9223372036854775807 < 4 + p1.size + 2 := q2; simp [execOp, go_sem, Act.eval, Act.put, k1]
  refine wpKind_one (i := 11) (n := 4) hI1 (by kernel_rfl) ?_
  refine wpOp_call rfl rfl 109 _ _ rfl #[.int .i64 (c : Int), .int .i64 (d : Int)] (by simp [Act.eval, Act.put]) (run_span _ _) (fun v w' => v = .string p2 ∧ Below w1.heap.size w1 w') (s2.out _ hW1) ?_
  rintro v2 w2 ⟨rfl, hb2⟩
  have hI2 := (hb2.block w.heap.size (by have : W.drew.heap.size = W.heap.size := rfl; omega)).trans hI1
  have hW2 := hW1.trans (hb2.mono hW1.size)
  refine wpKind_take (i := 12) (n := 3) (v := .string (⟨#[64, 64, 32, 45]⟩ ++ p1 ++ ⟨#[32, 43]⟩ ++ p2)) rfl (by kernel_rfl) (by kernel_rfl) (by kernel_rfl) (fun c a w h => h) ⟨by simp [Region.wanted], fun w' hw => ?_⟩ ?_
  · have k1 : ¬ 9223372036854775807 < 4 + p1.size + 2 + p2.size := q3; simp [execOp, go_sem, Act.eval, Act.put, k1]
  refine wpKind_take (i := 13) (n := 2) (v := .string (⟨#[64, 64, 32, 45]⟩ ++ p1 ++ ⟨#[32, 43]⟩ ++ p2 ++ ⟨#[32, 64, 64]⟩)) rfl (by kernel_rfl) (by kernel_rfl) (by kernel_rfl) (fun c a w h => h) ⟨by simp [Region.wanted], fun w' hw => ?_⟩ ?_
  · have k1 : ¬ 9223372036854775807 < 4 + p1.size + 2 + p2.size + 3 := q4; simp [execOp, go_sem, Act.eval, Act.put, k1]
  refine wpKind_take (i := 14) (n := 1) (v := .string S) rfl (by kernel_rfl) (by kernel_rfl) (by kernel_rfl) (fun c a w h => h) ⟨by simp [Region.wanted], fun w' hw => ?_⟩ ?_
  · have k1 : ¬ 9223372036854775807 < 4 + p1.size + 2 + p2.size + 3 + 1 := q5; have k2 : ⟨#[64, 64, 32, 45]⟩ ++ p1 ++ ⟨#[32, 43]⟩ ++ p2 ++ ⟨#[32, 64, 64]⟩ ++ ⟨#[10]⟩ = S := hSH.out; simp [execOp, go_sem, Act.eval, Act.put, k1, k2]
  refine wpKind_take (i := 15) (n := 0) (v := .string S) rfl (by kernel_rfl) (by kernel_rfl) (by kernel_rfl) (fun c a w h => h) ⟨by simp [Region.wanted], fun w' hw => ?_⟩ ?_
  · simp [execOp, go_sem, Act.eval, Act.put]
  refine wpKind_done hI2 (by kernel_rfl) ?_
  go_wp2_with fail
  refine bodyPost_ret (v := .string S) ?_ rfl ⟨rfl, hW2⟩
  simp [results, Tryz.results72, go_sem, Act.put]
end Go.Proofs.YtcclgodahlinbaaGreatDoor
namespace Go.Proofs.YtcclgodahlinbaaGreatDoor
open Go.RowKit Go
set_option maxRecDepth 100000
def lineL (s : StepB) : List UInt8 := UInt8.ofNat s.kind :: (s.text.data.toList ++ [10])
def linesL (L : List StepB) : List UInt8 := L.flatMap lineL
def headI (h : HI) : List UInt8 := headL h.fr.toNat h.fc.toNat h.tr.toNat h.tc.toNat
def hunkL (h : HI) : List UInt8 := headI h ++ [10] ++ linesL h.lines
def writeI (hs : List HI) : List UInt8 := hs.flatMap hunkL
theorem linesL_take {L : List StepB} {k : Nat} (h : k < L.length) : linesL (L.take (k + 1)) = linesL (L.take k) ++ lineL L[k] := by
  unfold linesL
  rw [List.take_succ_eq_append_getElem h, List.flatMap_append]
  simp
theorem writeI_take {hs : List HI} {k : Nat} (h : k < hs.length) : writeI (hs.take (k + 1)) = writeI (hs.take k) ++ hunkL hs[k] := by
  unfold writeI
  rw [List.take_succ_eq_append_getElem h, List.flatMap_append]
  simp
theorem linesL_le (L : List StepB) (k : Nat) : (linesL (L.take k)).length ≤ (linesL L).length := by
  conv => rhs; rw [← List.take_append_drop k L]
  unfold linesL
  rw [List.flatMap_append, List.length_append]
  omega
theorem writeI_le (hs : List HI) (k : Nat) : (writeI (hs.take k)).length ≤ (writeI hs).length := by
  conv => rhs; rw [← List.take_append_drop k hs]
  unfold writeI
  rw [List.flatMap_append, List.length_append]
  omega
theorem lineL_len (s : StepB) : (lineL s).length = s.text.size + 2 := by
  unfold lineL
  rw [List.length_cons, List.length_append]
  show s.text.size + 1 + 1 = _
  omega
theorem right_all : ∀ {hs : List HI} {en gr : Int}, rightI en gr hs = true → ∀ h ∈ hs, numOk h.fr h.fc = true ∧ numOk h.tr h.tc = true ∧ bodyOk h = true
  | [], _, _, _, h, hh => by simp at hh
  | x :: l, en, gr, hr, h, hh => by
    rw [rightI] at hr
    simp only [Bool.and_eq_true] at hr
    obtain ⟨⟨h1, h2⟩, h3⟩ := hr
    rcases List.mem_cons.1 hh with e | e
    · subst e
      obtain ⟨n1, n2, _⟩ := fitsI_iff.1 h1
      exact ⟨n1, n2, h2⟩
    · exact right_all h3 h e
def NumsOk (hs : List HI) : Prop := ∀ h ∈ hs, numOk h.fr h.fc = true ∧ numOk h.tr h.tc = true
theorem headI_nat {h : HI} {a b c d : Nat} (n : NumsN h a b c d) : headI h = headL a b c d := by
  unfold headI
  rw [n.e1, n.e2, n.e3, n.e4]
  rfl
set_option maxHeartbeats 8000000 in
theorem written_any {hs : List HI} {a : Option Addr} {cap : Nat} {w : World} (hH : HIAt w.heap.size w (.slice a hs.length cap) hs) (hL : Lim hs) (hN : NumsOk hs) (hg : GlobP w) :
    Calls Tryz.prog 33 #[.agg #[.slice a hs.length cap]] w fun e w' => (∃ t : ByteArray, e = .returned (.tuple #[.string t, .bool (decide ((writeI hs).length ≤ 20000))]) ∧ ((writeI hs).length ≤ 20000 → t = ⟨(writeI hs).toArray⟩)) ∧ Below w.heap.size w w' := by
  obtain ⟨hL1, hL2⟩ := hL
  have hb := ((Below.refl w.heap.size w).alloc (Nat.le_refl _) (.cells #[.slice a hs.length cap] 32)).alloc (by simp) (.cells #[.pointer none, .slice none 0 0] 74)
  have hU := heap_alloc_new (w.alloc (.cells #[.slice a hs.length cap] 32)) (.cells #[.pointer none, .slice none 0 0] 74)
  rw [World.size_alloc] at hU
  have hB0 : ∃ ad vb, BldM (w.heap.size + 1) ad vb (Lib.byteCells (writeI (hs.take 0))) ((w.alloc (.cells #[.slice a hs.length cap] 32)).alloc (.cells #[.pointer none, .slice none 0 0] 74)) := ⟨_, _, ⟨hU, .inl rfl, World.ownsRow_nil _ _ _ _⟩⟩
  go_enter Tryz.func33, Tryz.ntmps33
  go_wp2_with fail
  generalize (w.alloc (.cells #[.slice a hs.length cap] 32)).alloc (.cells #[.pointer none, .slice none 0 0] 74) = W at *
  go_loopg [12] hs.length (fun g t wr => ∃ k : Nat, g = hs.length - k ∧ k ≤ hs.length ∧ t = .int .i64 k ∧ (∃ ad vb, BldM (w.heap.size + 1) ad vb (Lib.byteCells (writeI (hs.take k))) wr) ∧ (writeI (hs.take k)).length ≤ 20002 + 40 * k ∧ Below w.heap.size w wr)
  case atStart => exact ⟨0, by omega, by omega, rfl, hB0, by simp [writeI], hb⟩
  case round =>
    obtain ⟨k, hgk, hkl, rfl, ⟨ad, vb, hbm⟩, hT0, hbel⟩ := hrel
    have hG : Hid (gk = hs.length - k) := hgk
    clear hgk hB0 hU hb
    have hlt := hbm.lt
    have hgr := hg.below hbel hg.sz hbel.size
    by_cases hk : k < hs.length
    · have hkI : (k : Int) < hs.length := by omega
      obtain ⟨b, off, a', c', rfl, hbB, r0, r1, r2, r3, r4, hst⟩ := (hH.below hbel).at hk
      obtain ⟨l1, -, -, -, -, l2⟩ := hL2 _ (List.getElem_mem hk)
      obtain ⟨n1, n2⟩ := hN _ (List.getElem_mem hk)
      obtain ⟨A, B, C, D, hnn⟩ := nums_of n1 n2
      have hwt : Hid (writeI (hs.take (k + 1)) = writeI (hs.take k) ++ (headL A B C D ++ [10]) ++ linesL hs[k].lines) := by
        show _ = _
        rw [writeI_take hk]
        unfold hunkL
        rw [headI_nat hnn]
        simp
      have hwl : Hid ((writeI (hs.take (k + 1))).length ≤ (writeI hs).length) := writeI_le hs (k + 1)
      generalize hs[k] = h at *
      rw [hnn.e1] at r0
      rw [hnn.e2] at r1
      rw [hnn.e3] at r2
      rw [hnn.e4] at r3
      have hhl := headL_len hnn.l1 hnn.l2 hnn.l3 hnn.l4
      generalize writeI (hs.take k) = T at *
      have hob : Hid (∀ ob : Obj, Below wr.heap.size wr (wr.alloc ob)) := fun ob => (Below.refl _ _).alloc (Nat.le_refl _) ob
      have hh1 := header_nat hnn.l1 hnn.l2 hnn.l3 hnn.l4 (.slice a' h.lines.length c') (hgr.next (hob.out (.cells #[.int .i64 (A : Int), .int .i64 (B : Int), .int .i64 (C : Int), .int .i64 (D : Int), .slice a' h.lines.length c'] 61)))
      have hB1 := heap_alloc_new wr (.cells #[.int .i64 (A : Int), .int .i64 (B : Int), .int .i64 (C : Int), .int .i64 (D : Int), .slice a' h.lines.length c'] 61)
      have hbm1 := hbm.alloc (.cells #[.int .i64 (A : Int), .int .i64 (B : Int), .int .i64 (C : Int), .int .i64 (D : Int), .slice a' h.lines.length c'] 61)
      have hz1 : (wr.alloc (.cells #[.int .i64 (A : Int), .int .i64 (B : Int), .int .i64 (C : Int), .int .i64 (D : Int), .slice a' h.lines.length c'] 61)).heap.size = wr.heap.size + 1 := by simp
      have hbel1 := hbel.alloc (by have := hbel.size; omega) (.cells #[.int .i64 (A : Int), .int .i64 (B : Int), .int .i64 (C : Int), .int .i64 (D : Int), .slice a' h.lines.length c'] 61)
      have hsz := hbel.size
      have hbr1 := (Below.refl w.heap.size wr).alloc (by omega) (.cells #[.int .i64 (A : Int), .int .i64 (B : Int), .int .i64 (C : Int), .int .i64 (D : Int), .slice a' h.lines.length c'] 61)
      have y0 := cell_of (k := 0) hB1 rfl
      have y1 := cell_of (k := 1) hB1 rfl
      have y2 := cell_of (k := 2) hB1 rfl
      have y3 := cell_of (k := 3) hB1 rfl
      have y4 := cell_of (k := 4) hB1 rfl
      clear hob n1 n2
      go_wp2_with fail
      generalize wr.alloc (.cells #[.int .i64 (A : Int), .int .i64 (B : Int), .int .i64 (C : Int), .int .i64 (D : Int), .slice a' h.lines.length c'] 61) = W1 at *
      refine hh1.mono ?_
      rintro e W2 ⟨rfl, hb2⟩
      have hbm2 := hbm1.below hb2
      have hB2 := (hb2.block wr.heap.size (by omega)).trans hB1
      have hs0l : Hid (headB A B C D ++ ⟨#[10]⟩ = ⟨(headL A B C D ++ [10]).toArray⟩) := by
        show _ = _
        unfold headB
        apply ByteArray.ext
        simp [ByteArray.data_append]
      have hs0z : (headB A B C D ++ ⟨#[10]⟩).size ≤ 36 := by rw [hs0l.out, size_mk]; simp; omega
      have hws := writeString_bld (headB A B C D ++ ⟨#[10]⟩) hbm2 (by rw [Lib.byteCells_length]; omega)
      have hbel2 := hbel1.trans (hb2.mono (by omega))
      have hcat : Hid (Lib.byteCells T ++ Lib.strCells (headB A B C D ++ ⟨#[10]⟩) = Lib.byteCells (T ++ (headL A B C D ++ [10]) ++ linesL (h.lines.take 0))) := by
        unfold Hid
        rw [hs0l.out, Lib.strCells_eq]
        simp [Lib.byteCells_append, linesL]
      generalize headB A B C D ++ ⟨#[10]⟩ = s0 at *
      clear y0 y1 y2 y3 y4 hh1 hbm1 hB1
      go_wp2_with fail
      refine hws.mono ?_
      rintro e W3 ⟨rfl, vb3, hbm3, hb3, hk3⟩
      rw [hcat.out] at hbm3
      have hB3 := hk3 _ _ hB2 (by intro e; have := Option.some.inj e; omega) (by intro c z e; injection e with _ e; exact absurd e (by decide))
      have y4 := cell_of (k := 4) hB3 rfl
      have hbel3 := hbel2.trans (hb3.mono (by omega))
      have hst3 : LinesAt w.heap.size W3 (.slice a' h.lines.length c') h.lines := hst.below ((hbr1.trans (hb2.mono (by omega))).trans (hb3.mono (by omega)))
      have hT2 : (T ++ (headL A B C D ++ [10])).length ≤ 20002 + 40 * (k + 1) := by simp only [List.length_append, List.length_cons, List.length_nil]; omega
      clear hws hcat hbm2 hbm hB2 hB3 hbr1 hst hbel1 hbel2 hk3 hs0l hs0z hhl hnn r0 r1 r2 r3 r4
      generalize T ++ (headL A B C D ++ [10]) = T2 at *
      have hM1 : h.lines.length ≤ 1048576 := l1
      generalize h.lines = M at *
      have hT20 : (T2 ++ linesL (M.take 0)).length ≤ 20002 + 40 * (k + 1) := by simp [linesL]; exact hT2
      go_wp2_with fail
      go_loopg [22] M.length (fun g t wi => ∃ j : Nat, g = M.length - j ∧ j ≤ M.length ∧ t = .int .i64 j ∧ (∃ ad vb, BldM (w.heap.size + 1) ad vb (Lib.byteCells (T2 ++ linesL (M.take j))) wi) ∧ (T2 ++ linesL (M.take j)).length ≤ 20002 + 40 * (k + 1) ∧ Below w.heap.size W3 wi)
      case atStart => exact ⟨0, by omega, by omega, rfl, ⟨_, _, hbm3⟩, hT20, Below.refl _ _⟩
      case round =>
        rename World => wi
        obtain ⟨j, hgj, hjl, rfl, ⟨ad', vb', hbi⟩, hTj, hbe⟩ := hrel
        have hGj : Hid (_ = M.length - j) := hgj
        clear hgj hbm3 hT20
        have hlti := hbi.lt
        have hszi := (hbel3.trans hbe).size
        by_cases hj : j < M.length
        · have hjI : (j : Int) < M.length := by omega
          obtain ⟨b2, off2, rfl, hb2', s0', s1'⟩ := (hst3.below hbe).at hj
          obtain ⟨hkd, htz⟩ := l2 _ (List.getElem_mem hj)
          have hJ : Hid (linesL (M.take (j + 1)) = linesL (M.take j) ++ lineL M[j]) := linesL_take hj
          have hJl : Hid ((linesL (M.take (j + 1))).length ≤ (linesL M).length) := linesL_le M (j + 1)
          have hJs : Hid ((lineL M[j]).length = M[j].text.size + 2) := lineL_len _
          have hJe : Hid (lineL M[j] = UInt8.ofNat M[j].kind :: (M[j].text.data.toList ++ [10])) := rfl
          generalize M[j] = sx at *
          have hbig : Hid (20000 < (T2 ++ linesL (M.take j)).length + sx.text.size → ¬ (writeI hs).length ≤ 20000) := by
            intro hlt2 hle
            have h1 := hwl.out
            rw [hwt.out, List.length_append] at h1
            have h2 := hJl.out
            rw [hJ.out, List.length_append, hJs.out] at h2
            rw [List.length_append] at hlt2
            omega
          have hnew : Hid ((T2 ++ linesL (M.take (j + 1))).length = (T2 ++ linesL (M.take j)).length + sx.text.size + 2) := by
            show _ = _
            rw [hJ.out, ← List.append_assoc, List.length_append, hJs.out]
            omega
          generalize linesL (M.take j) = T3 at *
          have hbl : (Lib.byteCells (T2 ++ T3)).length = (T2 ++ T3).length := Lib.byteCells_length _
          have hbi1 := hbi.alloc (.cells #[.int .u8 (sx.kind : Int), .string sx.text] 93)
          have hBl := heap_alloc_new wi (.cells #[.int .u8 (sx.kind : Int), .string sx.text] 93)
          have hzl : (wi.alloc (.cells #[.int .u8 (sx.kind : Int), .string sx.text] 93)).heap.size = wi.heap.size + 1 := by simp
          have hbe1 := hbe.alloc (by omega) (.cells #[.int .u8 (sx.kind : Int), .string sx.text] 93)
          go_wp2_with fail
          generalize wi.alloc (.cells #[.int .u8 (sx.kind : Int), .string sx.text] 93) = V1 at *
          have hpL : Hid (∀ n, Calls Tryz.prog 73 #[.pointer (some ⟨w.heap.size + 1, 0, none⟩)] (V1.drewN n) fun e w'' => e = .returned (.int .i64 ((T2 ++ T3).length : Int)) ∧ ∃ k, w'' = V1.drewN k) :=
            fun n => (blen_bld (drewN_bld hbi1)).mono fun _ _ ⟨he, hm⟩ => ⟨by rw [he, hbl], n, hm.symm⟩
          have z0 := cell_of (k := 0) hBl rfl
          have z1 := cell_of (k := 1) hBl rfl
          generalize hTT : T2 ++ T3 = T4 at *
          have hwr : IntKind.i64.wrap ((T4.length : Int) + (sx.text.size : Int)) = (T4.length : Int) + (sx.text.size : Int) := by rw [IntKind.wrap_i64]; omega
          by_cases hbg : 20000 < T4.length + sx.text.size
          · have hng2 : decide ((20000 : Int) < (T4.length : Int) + (sx.text.size : Int)) = true := decide_eq_true (by omega)
            have hout : Hid (¬ (writeI hs).length ≤ 20000) := hbig.out hbg
            go_quiet ((go_at_call 73; exact hpL.out _))
            go_wp2_with fail
            go_ret2
            refine ⟨⟨⟨#[]⟩, ?_, fun h => absurd h hout.out⟩, hbel3.trans (Below.drewN' hbe1)⟩
            rw [decide_eq_false hout.out]
            rfl
          · have hng : ¬ (20000 : Int) < (T4.length : Int) + (sx.text.size : Int) := by omega
            have hng2 : decide ((20000 : Int) < (T4.length : Int) + (sx.text.size : Int)) = false := decide_eq_false hng
            go_quiet ((go_at_call 73; exact hpL.out _))
            have hWB1 := writeByte_bld (sx.kind : Int) (drewN_bld (n := nq) hbi1) (by rw [hbl]; omega)
            have hne1 : some wi.heap.size ≠ some (w.heap.size + 1) := by intro e; have := Option.some.inj e; omega
            have hfin : Hid (Lib.byteCells (T2 ++ linesL (M.take (j + 1))) = Lib.byteCells T4 ++ [.int .u8 (sx.kind : Int)] ++ Lib.strCells sx.text ++ [.int .u8 10]) := by
              unfold Hid
              rw [hJ.out, hJe.out, ← hTT, Lib.strCells_eq, ← byteCells_snoc _ _ hkd, ← Lib.byteCells_append]
              have : [Value.int .u8 10] = Lib.byteCells [10] := rfl
              rw [this, ← Lib.byteCells_append]
              congr 1
              simp
            have hbe2 : Below w.heap.size W3 (V1.drewN nq) := Below.drewN' hbe1
            go_wp2_with (first | (go_at_call 74; refine hWB1.mono ?_; clear hWB1; rintro e V2 ⟨rfl, vb2, m2, c2, k2⟩; have hBl2 := k2 _ _ (show (V1.drewN nq).heap[wi.heap.size]? = _ from hBl) hne1 (by intro c z e; injection e with _ e; exact absurd e (by decide)); have z1' := cell_of (k := 1) hBl2 rfl; have hWS := writeString_bld sx.text m2 (by rw [List.length_append, hbl]; simp; omega)) | (go_at_call 71; refine hWS.mono ?_; clear hWS; rintro e V3 ⟨rfl, vb3', m3, c3, k3⟩; have hWB2 := writeByte_bld 10 m3 (by rw [List.length_append, List.length_append, hbl, Lib.strCells_length]; simp; omega)) | (go_at_call 74; refine hWB2.mono ?_; rintro e V4 ⟨rfl, vb4, m4, c4, k4⟩))
            go_roundg (M.length - (j + 1))
            · exact ⟨j + 1, rfl, by omega, by push_cast; rfl, ⟨_, _, by rw [hfin.out]; exact m4⟩, by rw [hnew.out]; omega, ((hbe2.trans (c2.mono (by omega))).trans (c3.mono (by omega))).trans (c4.mono (by omega))⟩
            · have := hGj.out; omega
        · obtain rfl : j = M.length := by omega
          rw [List.take_length] at hbi hTj
          go_wp2_with fail
          go_roundg (hs.length - (k + 1))
          · exact ⟨k + 1, rfl, by omega, by push_cast; rfl, ⟨_, _, by rw [hwt.out]; exact hbi⟩, by rw [hwt.out]; exact hTj, hbel3.trans hbe⟩
          · have := hG.out; omega
    · obtain rfl : k = hs.length := by omega
      rw [List.take_length] at hbm hT0
      have hbl : (Lib.byteCells (writeI hs)).length = (writeI hs).length := Lib.byteCells_length _
      have hstr := bstring_kept ⟨ad, vb, hbm⟩
      generalize hTX : writeI hs = T at *
      have hTH : Hid (writeI hs = T) := hTX
      clear hTX
      have hle2 : decide (((T.length : Nat) : Int) ≤ 20000) = decide (T.length ≤ 20000) := by rw [decide_eq_decide]; omega
      have hleH : Hid _ := hle2
      clear hle2
      have hLn : Hid (∀ w', Below (w.heap.size + 1 + 1) wr w' → Calls Tryz.prog 73 #[.pointer (some ⟨w.heap.size + 1, 0, none⟩)] w' fun e w'' => e = .returned (.int .i64 (T.length : Int)) ∧ w' = w'') := by
        intro w' hb'
        have c2 : w'.cell? ⟨w.heap.size + 1, 1, none⟩ = some vb := (hb'.cell (p := ⟨w.heap.size + 1, 1, none⟩) (by show w.heap.size + 1 < _; omega)).trans (cell_of hbm.blk rfl)
        have hn := hbl
        obtain ⟨ab0, cb0, rfl⟩ := owns_isSlice hbm.own
        rw [hn] at c2
        go_enter Tryz.func73, Tryz.ntmps73
        go_wp2
        go_ret
        exact ⟨rfl, rfl⟩
      go_wp2_with (first | (go_at_call 67; refine hstr.mono ?_; rintro e w' ⟨rfl, hb'⟩; have hLn2 := hLn.out _ hb') | (go_at_call 73; refine hLn2.mono ?_; rintro e w'' ⟨rfl, rfl⟩))
      go_ret2
      refine ⟨⟨⟨T.toArray⟩, ?_, fun _ => by rw [hTH.out]⟩, hbel.trans (hb'.mono (by omega))⟩
      rw [hTH.out, ← hleH.out]
      first | rfl | simp
def writeA (hs : List HI) : ByteArray × Int := if rightI 0 0 hs = true then (if (writeI hs).length ≤ 20000 then (⟨(writeI hs).toArray⟩, 0) else (⟨#[]⟩, 1)) else (⟨#[]⟩, 4)
set_option maxHeartbeats 2000000 in
theorem write_any {hs : List HI} {a : Option Addr} {cap : Nat} {w : World} (hH : HIAt w.heap.size w (.slice a hs.length cap) hs) (hL : Lim hs) (hg : GlobP w) :
    Calls Tryz.prog 16 #[.agg #[.slice a hs.length cap]] w fun e w' => e = .returned (.tuple #[.string (writeA hs).1, .int .i64 (writeA hs).2]) ∧ Below w.heap.size w w' := by
  have hb0 := (Below.refl w.heap.size w).alloc (Nat.le_refl _) (.cells #[.slice a hs.length cap] 32)
  have hB0 := heap_alloc_new w (.cells #[.slice a hs.length cap] 32)
  have hz0 : (w.alloc (.cells #[.slice a hs.length cap] 32)).heap.size = w.heap.size + 1 := by simp
  have y0 := cell_of (k := 0) hB0 rfl
  have hir := isRight_any ((hH.below hb0).mono (by omega : w.heap.size ≤ (w.alloc (.cells #[.slice a hs.length cap] 32)).heap.size)) hL
  cases hr : rightI 0 0 hs with
  | false =>
    have hA : writeA hs = (⟨#[]⟩, 4) := by unfold writeA; rw [hr]; rfl
    rw [hA]
    rw [hr] at hir
    clear hA hr
    go_enter Tryz.func16, Tryz.ntmps16
    go_wp2_with fail
    generalize w.alloc (.cells #[.slice a hs.length cap] 32) = W0 at *
    refine hir.mono ?_
    rintro e w1 ⟨rfl, hb1⟩
    go_wp2_with fail
    go_ret2
    exact ⟨rfl, hb0.trans (hb1.mono (by omega))⟩
  | true =>
    have hN : NumsOk hs := fun h hh => ⟨(right_all hr h hh).1, (right_all hr h hh).2.1⟩
    have hA : writeA hs = (if (writeI hs).length ≤ 20000 then (⟨(writeI hs).toArray⟩, 0) else (⟨#[]⟩, 1)) := by unfold writeA; rw [hr]; rfl
    rw [hA]
    rw [hr] at hir
    have hwr : Hid (∀ w1, Below (w.alloc (.cells #[.slice a hs.length cap] 32)).heap.size (w.alloc (.cells #[.slice a hs.length cap] 32)) w1 → w1.cell? ⟨w.heap.size, 0, none⟩ = some (.slice a hs.length cap) ∧ Calls Tryz.prog 33 #[.agg #[.slice a hs.length cap]] w1 fun e w' => (∃ t : ByteArray, e = .returned (.tuple #[.string t, .bool (decide ((writeI hs).length ≤ 20000))]) ∧ ((writeI hs).length ≤ 20000 → t = ⟨(writeI hs).toArray⟩)) ∧ Below w1.heap.size w1 w') := by
      intro w1 hb1
      have hb01 := hb0.trans (hb1.mono (by omega))
      exact ⟨(hb1.cell (p := ⟨w.heap.size, 0, none⟩) (by show w.heap.size < _; omega)).trans y0, written_any ((hH.below hb01).mono hb01.size) hL hN (hg.next hb01)⟩
    clear hA hr
    by_cases hl : (writeI hs).length ≤ 20000
    · rw [if_pos hl]
      rw [decide_eq_true hl] at hwr
      have hlH : Hid ((writeI hs).length ≤ 20000) := hl
      clear hl
      go_enter Tryz.func16, Tryz.ntmps16
      go_wp2_with fail
      generalize w.alloc (.cells #[.slice a hs.length cap] 32) = W0 at *
      refine hir.mono ?_
      rintro e w1 ⟨rfl, hb1⟩
      obtain ⟨y1, hw1⟩ := hwr.out w1 hb1
      go_wp2_with fail
      refine hw1.mono ?_
      rintro e w2 ⟨⟨t, rfl, ht⟩, hb2⟩
      have htH : Hid (t = ⟨(writeI hs).toArray⟩) := ht hlH.out
      clear ht
      go_wp2_with fail
      go_ret2
      exact ⟨by rw [← htH.out] <;> rfl, (hb0.trans (hb1.mono (by omega))).trans (hb2.mono (by have := hb1.size; omega))⟩
    · rw [if_neg hl]
      rw [decide_eq_false hl] at hwr
      clear hl
      go_enter Tryz.func16, Tryz.ntmps16
      go_wp2_with fail
      generalize w.alloc (.cells #[.slice a hs.length cap] 32) = W0 at *
      refine hir.mono ?_
      rintro e w1 ⟨rfl, hb1⟩
      obtain ⟨y1, hw1⟩ := hwr.out w1 hb1
      go_wp2_with fail
      refine hw1.mono ?_
      rintro e w2 ⟨⟨t, rfl, ht⟩, hb2⟩
      clear ht
      go_wp2_with fail
      go_ret2
      exact ⟨rfl, (hb0.trans (hb1.mono (by omega))).trans (hb2.mono (by have := hb1.size; omega))⟩
end Go.Proofs.YtcclgodahlinbaaGreatDoor
