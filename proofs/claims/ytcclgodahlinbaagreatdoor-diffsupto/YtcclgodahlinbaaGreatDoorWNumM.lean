import Derived.Test.YtcclgodahlinbaaGreatDoorWHunk
import Derived.Lib.AtoiAllCases
import Derived.Lib.ItoaMem
import Derived.Lib.CutLaws
namespace Go.Proofs.YtcclgodahlinbaaGreatDoor
open Go.RowKit Go
set_option maxRecDepth 100000

/-- a number below a hundred, as it is written -/
def num2 (i : Nat) : List UInt8 := if i < 10 then [UInt8.ofNat (48 + i)] else [UInt8.ofNat (48 + i / 10), UInt8.ofNat (48 + i % 10)]
theorem dec_num2 : ∀ i : Nat, i < 100 → Lib.decDigits i = num2 i := by
  intro i hi
  unfold num2
  by_cases h : i < 10
  · rw [Lib.decDigits, dif_pos h, if_pos h]
  · rw [Lib.decDigits, dif_neg h, if_neg h, Lib.decDigits, dif_pos (by omega)]
    rfl
theorem atoi_num2_fin : ∀ i : Fin 100, Lib.atoiAll (num2 i.val) = .ok (i.val : Int) := by decide +kernel
theorem atoi_num2 (i : Nat) (h : i < 100) : Lib.atoiAll (num2 i) = .ok (i : Int) := atoi_num2_fin ⟨i, h⟩
theorem num2_digit_fin : ∀ i : Fin 100, (num2 i.val).all (fun c => decide (48 ≤ c.toNat ∧ c.toNat ≤ 57)) = true ∧ (num2 i.val).length ≤ 2 := by decide +kernel
theorem num2_digit {i : Nat} (h : i < 100) {c : UInt8} (hc : c ∈ num2 i) : 48 ≤ c.toNat ∧ c.toNat ≤ 57 := by
  have := List.all_eq_true.1 (num2_digit_fin ⟨i, h⟩).1 c hc
  simpa using this
theorem num2_len {i : Nat} (h : i < 100) : (num2 i).length ≤ 2 := (num2_digit_fin ⟨i, h⟩).2
theorem num2_not {i : Nat} (h : i < 100) {c : UInt8} (hc : c.toNat < 48) : c ∉ num2 i := fun hm => by have := num2_digit h hm; omega

def spanM (f c : Nat) : List UInt8 := num2 f ++ [44] ++ num2 c
def headM (h : HunkM) : List UInt8 := [64, 64, 32, 45] ++ spanM h.fr h.fc ++ [32, 43] ++ spanM h.tr h.tc ++ [32, 64, 64]
def Small (h : HunkM) : Prop := h.fr < 100 ∧ h.fc < 100 ∧ h.tr < 100 ∧ h.tc < 100
theorem span_len {f c : Nat} (h1 : f < 100) (h2 : c < 100) : (spanM f c).length ≤ 5 := by
  have := num2_len h1; have := num2_len h2; simp [spanM]; omega
theorem head_len {h : HunkM} (hs : Small h) : (headM h).length ≤ 19 := by
  have := span_len hs.1 hs.2.1; have := span_len hs.2.2.1 hs.2.2.2; simp [headM]; omega
theorem span_not {f c : Nat} (h1 : f < 100) (h2 : c < 100) {x : UInt8} (hx : x.toNat < 44) : x ∉ spanM f c := by
  intro hm
  unfold spanM at hm
  rw [List.mem_append, List.mem_append] at hm
  rcases hm with (hm | hm) | hm
  · exact num2_not h1 (by omega) hm
  · rw [List.mem_singleton] at hm; subst hm; simp at hx
  · exact num2_not h2 (by omega) hm
theorem head_nl {h : HunkM} (hs : Small h) : (10 : UInt8) ∉ headM h := by
  intro hm
  unfold headM at hm
  simp only [List.mem_append] at hm
  rcases hm with (((hm | hm) | hm) | hm) | hm
  · simp at hm
  · exact span_not hs.1 hs.2.1 (by decide) hm
  · simp at hm
  · exact span_not hs.2.2.1 hs.2.2.2 (by decide) hm
  · simp at hm

/-! ### cut at a row of bytes -/
theorem cut_first {a b sep : List UInt8} {c : UInt8} {t : List UInt8} (hs : sep = c :: t) (ha : c ∉ a) : Lib.cut (a ++ sep ++ b) sep = (a, b, true) := by
  have hi : Lib.index (a ++ sep ++ b) sep = a.length := by
    refine Lib.index_first (by simp) ?_ ?_
    · unfold Lib.occAt
      rw [List.append_assoc, List.drop_left' rfl]
      simp
    · intro j hj
      cases h : Lib.occAt (a ++ sep ++ b) sep j with
      | false => rfl
      | true =>
        exfalso
        have := Lib.occAt_head hs h
        rw [List.append_assoc, List.getElem?_append_left hj, List.getElem?_eq_getElem hj] at this
        exact ha (Option.some.inj this ▸ List.getElem_mem hj)
  unfold Lib.cut
  rw [hi, if_pos (by omega)]
  have e1 : ((a.length : Nat) : Int).toNat = a.length := by simp
  simp only [e1]
  rw [List.append_assoc, List.take_left' rfl]
  rw [← List.append_assoc, List.drop_left' (by simp)]
theorem cut_none {a sep : List UInt8} {c : UInt8} {t : List UInt8} (hs : sep = c :: t) (ha : c ∉ a) : Lib.cut a sep = (a, [], false) := by
  have hi : Lib.index a sep = -1 := by
    refine Lib.index_none ?_
    intro j hj
    cases h : Lib.occAt a sep j with
    | false => rfl
    | true =>
      exfalso
      have := Lib.occAt_head hs h
      exact ha (List.mem_of_getElem? this)
  unfold Lib.cut
  rw [hi, if_neg (by omega)]
theorem prefix_yes (p s : List UInt8) : Lib.hasPrefix (p ++ s) p = true ∧ Lib.trimPrefix (p ++ s) p = s := by
  have : Lib.hasPrefix (p ++ s) p = true := by unfold Lib.hasPrefix; simp
  refine ⟨this, ?_⟩
  unfold Lib.trimPrefix
  rw [if_pos this, List.drop_left' rfl]
theorem suffix_yes (s p : List UInt8) : Lib.hasSuffix (s ++ p) p = true ∧ Lib.trimSuffix (s ++ p) p = s := by
  have : Lib.hasSuffix (s ++ p) p = true := by unfold Lib.hasSuffix; simp
  refine ⟨this, ?_⟩
  unfold Lib.trimSuffix
  rw [if_pos this, List.take_left' (by simp)]
theorem span_cut {f c : Nat} (h1 : f < 100) : Lib.cut (spanM f c) [44] = (num2 f, num2 c, true) := cut_first (sep := [44]) rfl (num2_not h1 (by decide))
theorem mid_cut {f c t d : Nat} (h1 : f < 100) (h2 : c < 100) : Lib.cut (spanM f c ++ [32, 43] ++ spanM t d) [32, 43] = (spanM f c, spanM t d, true) := cut_first (sep := [32, 43]) rfl (span_not h1 h2 (by decide))
theorem head_split (h : HunkM) : headM h = [64, 64, 32, 45] ++ ((spanM h.fr h.fc ++ [32, 43] ++ spanM h.tr h.tc) ++ [32, 64, 64]) := by simp [headM]
end Go.Proofs.YtcclgodahlinbaaGreatDoor
