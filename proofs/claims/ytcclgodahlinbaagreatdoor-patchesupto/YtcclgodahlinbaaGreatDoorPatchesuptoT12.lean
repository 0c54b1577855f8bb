import Derived.Test.YtcclgodahlinbaaGreatDoorPatchesuptoT11
import Derived.Test.YtcclgodahlinbaaGreatDoorPatchesuptoT04
import Derived.Deep.DeepCutAuto
import Derived.Deep.CutBlock
import Derived.Test.YtcclgodahlinbaaGreatDoorPatchesuptoT10
import Derived.Test.YtcclgodahlinbaaGreatDoorPatchesuptoT06
import Derived.BigQuiet
import Derived.BigRegion
import Derived.Deep.QuietTactic
import Derived.Test.YtcclgodahlinbaaGreatDoorPatchesuptoT09
namespace Go.Proofs.YtcclgodahlinbaaGreatDoor
open Go.RowKit Go
set_option maxRecDepth 100000
theorem checkB_range (a b : ByteArray) (c : Int) : 0 ≤ checkB a b c ∧ checkB a b c ≤ 3 := by
  unfold checkB
  repeat' split
  all_goals omega
set_option maxHeartbeats 2000000 in
theorem diff_no {a b : ByteArray} {c : Int} {w : World} (h1 : a.size < 4294967281) (h2 : b.size < 4294967281) (hk : checkB a b c ≠ 0) :
    Calls Tryz.prog 12 #[.string a, .string b, .int .i64 c] w fun e w' => e = .returned (.tuple #[.agg #[.slice none 0 0], .int .i64 (checkB a b c)]) ∧ Below w.heap.size w w' := by
  have hck := fun W : World => checkDiff_any a b c W h1 h2
  have hr := checkB_range a b c
  generalize checkB a b c = k at *
  have hq : ((k : Int) == 0) = false := by simp; exact hk
  have hq2 : ((k : Int) != 0) = true := by simp; exact hk
  have hb0 : Below w.heap.size w (w.alloc (.cells #[.slice none 0 0] 32)) := (Below.refl _ _).alloc (Nat.le_refl _) _
  have hP0 : (w.alloc (.cells #[.slice none 0 0] 32)).heap[w.heap.size]? = some (.cells #[.slice none 0 0] 32 (0, 0)) := heap_alloc_new w _
  go_enter Tryz.func12, Tryz.ntmps12
  go_wp2_with fail
  generalize w.alloc (.cells #[.slice none 0 0] 32) = W0 at *
  refine (hck W0).mono ?_
  rintro e W1 ⟨rfl, rfl⟩
  have q0 : W0.cell? ⟨w.heap.size, 0, none⟩ = some (.slice none 0 0) := cell_of hP0 rfl
  have qf : ∀ k, W0.frozen? ⟨w.heap.size, k, none⟩ = false := fun k => frozen_of hP0
  have qr : (W0.setCell ⟨w.heap.size, 0, none⟩ (.slice none 0 0)).cell? ⟨w.heap.size, 0, none⟩ = some (.slice none 0 0) := cell_of (heap_setCell_same _ _ _ _ _ _ _ hP0) rfl
  go_wp2_with fail
  refine bodyPost_ret (v := .tuple #[.agg #[.slice none 0 0], .int .i64 k]) ?_ rfl ⟨rfl, hb0.setCell (p := ⟨w.heap.size, 0, none⟩) (Nat.le_refl _) _⟩
  simp [results, Tryz.results12, go_sem, qr]
theorem diff_any {a b : ByteArray} {c m : Int} {w : World} (h1 : a.size < 4294967281) (h2 : b.size < 4294967281) (hm : w.cell? ⟨0, 0, none⟩ = some (.int .i64 m)) :
    Calls Tryz.prog 12 #[.string a, .string b, .int .i64 c] w fun e w' => ∃ al cl hv, e = .returned (.tuple #[.agg #[.slice al hv.length cl], .int .i64 (checkB a b c)]) ∧ HSo w.heap.size (.slice al hv.length cl) hv w' ∧ hv.map (·.1) = diffR a b c ∧ Below w.heap.size w w' := by
  by_cases h : checkB a b c = 0
  · have hc : 0 ≤ c := by
      unfold checkB at h
      split at h
      · simp at h
      · split at h
        · simp at h
        · split at h
          · simp at h
          · rename_i d
            simp at d
            omega
    obtain ⟨C, rfl⟩ : ∃ C : Nat, c = (C : Int) := ⟨c.toNat, by omega⟩
    refine (diff_ok h h1 h2 hm).mono ?_
    rintro e w' ⟨v, rfl, hv, hso, hmap, hb⟩
    have hs : ∃ al cl, v = .slice al hv.length cl := by
      rcases hso with ⟨rfl, rfl⟩ | ⟨g, cap, rfl, _⟩
      · exact ⟨_, _, rfl⟩
      · exact ⟨_, _, rfl⟩
    obtain ⟨al, cl, rfl⟩ := hs
    refine ⟨al, cl, hv, by rw [h], hso, ?_, hb⟩
    rw [hmap]
    unfold diffR
    rw [if_pos h]
    rfl
  · refine (diff_no h1 h2 h).mono ?_
    rintro e w' ⟨rfl, hb⟩
    refine ⟨none, 0, [], rfl, .inl ⟨rfl, rfl⟩, ?_, hb⟩
    unfold diffR
    rw [if_neg h]
    rfl
theorem diffR_small (a b : ByteArray) (c : Int) : (diffR a b c).length ≤ 402 ∧ ∀ h ∈ diffR a b c, h.lines.length ≤ 402 := by
  unfold diffR
  by_cases hk : checkB a b c = 0
  · rw [if_pos hk]
    have hl : largeB a = false ∧ largeB b = false := by
      unfold checkB at hk
      split at hk
      · simp at hk
      · split at hk
        · simp at hk
        · rename_i _ d
          simp at d
          exact d
    have n1 := linesB_few hl.1
    have n2 := linesB_few hl.2
    have hw := way_len (linesB a) (linesB b)
    unfold diffM
    generalize Dn.wayM (linesB a) (linesB b) = L at *
    have hb := foldH_bounds L (nearB L c.toNat) L.length
    unfold hunksM
    refine ⟨by rw [List.length_map]; have := hb.2.2.1; omega, ?_⟩
    intro x hx
    obtain ⟨y, hy, rfl⟩ := List.mem_map.1 hx
    have e : (numL y).lines = y.lines := rfl
    rw [e]
    have := (hb.2.2.2.1 y hy).2.2.1
    omega
  · rw [if_neg hk]
    exact ⟨by simp, by simp⟩
end Go.Proofs.YtcclgodahlinbaaGreatDoor
namespace Go.Proofs.YtcclgodahlinbaaGreatDoor
open Go.RowKit Go
set_option maxRecDepth 100000
def byN (s : ByteArray) (i : Nat) : Nat := (s.get! i).toNat
def wd (s : ByteArray) (i : Nat) : Nat := (Utf8.decode s i).2
def contB (s : ByteArray) (i k : Nat) : Bool := decide (128 ≤ byN s (i + k) ∧ byN s (i + k) < 192)
def tailN (c : Nat) : Int := if c < 128 then 0 else if 194 ≤ c ∧ c < 224 then 1 else if 224 ≤ c ∧ c < 240 then 2 else if 240 ≤ c ∧ c < 245 then 3 else -1
def tailL (c : Nat) : Int := if c < 128 then 0 else if 194 ≤ c ∧ c < 224 then 128 else if 224 ≤ c ∧ c < 240 then 2048 else if 240 ≤ c ∧ c < 245 then 65536 else 0
def rK (s : ByteArray) (i : Nat) : Nat → Nat
  | 0 => 0
  | k + 1 => 64 * rK s i k + byN s (i + (k + 1)) % 64
theorem byN_lt (s : ByteArray) (i : Nat) : byN s i < 256 := by unfold byN; exact (s.get! i).toNat_lt
theorem contB_div (s : ByteArray) (i k : Nat) : (byN s (i + k) / 64 == 2) = contB s i k := by
  unfold contB
  by_cases h : 128 ≤ byN s (i + k) ∧ byN s (i + k) < 192
  · simp [h]; omega
  · simp [h]; omega
def wC (s : ByteArray) (i : Nat) : Nat :=
  if byN s i < 128 then 1
  else if byN s i / 32 = 6 ∧ (i + 1 < s.size ∧ contB s i 1 = true) then (if 128 ≤ (byN s i % 32) * 64 + byN s (i + 1) % 64 then 2 else 1)
  else if byN s i / 16 = 14 ∧ (i + 1 < s.size ∧ contB s i 1 = true) ∧ (i + 2 < s.size ∧ contB s i 2 = true) then (if 2048 ≤ (byN s i % 16) * 4096 + (byN s (i + 1) % 64) * 64 + byN s (i + 2) % 64 ∧ Utf8.valid (((byN s i % 16) * 4096 + (byN s (i + 1) % 64) * 64 + byN s (i + 2) % 64 : Nat) : Int) = true then 3 else 1)
  else if byN s i / 8 = 30 ∧ (i + 1 < s.size ∧ contB s i 1 = true) ∧ (i + 2 < s.size ∧ contB s i 2 = true) ∧ (i + 3 < s.size ∧ contB s i 3 = true) then (if 65536 ≤ (byN s i % 8) * 262144 + (byN s (i + 1) % 64) * 4096 + (byN s (i + 2) % 64) * 64 + byN s (i + 3) % 64 ∧ Utf8.valid (((byN s i % 8) * 262144 + (byN s (i + 1) % 64) * 4096 + (byN s (i + 2) % 64) * 64 + byN s (i + 3) % 64 : Nat) : Int) = true then 4 else 1)
  else 1
theorem wd_is (s : ByteArray) (i : Nat) : wd s i = wC s i := by
  have e : ∀ k, (s.get! k).toNat = byN s k := fun _ => rfl
  unfold wd Utf8.decode wC
  simp only [e, Nat.add_zero, contB_div]
  by_cases h0 : byN s i < 128
  · rw [if_pos h0, if_pos h0]
  rw [if_neg h0, if_neg h0]
  by_cases h1 : byN s i / 32 = 6 ∧ (i + 1 < s.size ∧ contB s i 1 = true)
  · rw [if_pos h1, if_pos (by simp [h1])]
    split <;> simp_all
  rw [if_neg h1, if_neg (by simpa using h1)]
  by_cases h2 : byN s i / 16 = 14 ∧ (i + 1 < s.size ∧ contB s i 1 = true) ∧ (i + 2 < s.size ∧ contB s i 2 = true)
  · rw [if_pos h2, if_pos (by simp [h2])]
    split <;> simp_all
  rw [if_neg h2, if_neg (by intro h; apply h2; simp at h; simp [h])]
  by_cases h3 : byN s i / 8 = 30 ∧ (i + 1 < s.size ∧ contB s i 1 = true) ∧ (i + 2 < s.size ∧ contB s i 2 = true) ∧ (i + 3 < s.size ∧ contB s i 3 = true)
  · rw [if_pos h3, if_pos (by simp [h3])]
    split <;> simp_all
  rw [if_neg h3, if_neg (by intro h; apply h3; simp at h; simp [h])]
theorem wd_pos (s : ByteArray) (i : Nat) : 1 ≤ wd s i := by
  rw [wd_is]; unfold wC; repeat' split
  all_goals omega
theorem wd_fits (s : ByteArray) (i : Nat) (h : i < s.size) : i + wd s i ≤ s.size := by
  rw [wd_is]; unfold wC; repeat' split
  all_goals omega
theorem wd_bad (s : ByteArray) (i : Nat) (h : tailN (byN s i) < 0 ∨ (s.size : Int) ≤ i + tailN (byN s i)) : wd s i = 1 := by
  have hb := byN_lt s i
  have v : ∀ n : Nat, Utf8.valid (n : Int) = true → n < 1114112 := by intro n; simp [Utf8.valid]; omega
  rw [wd_is]; unfold wC; unfold tailN at h; repeat' split
  all_goals try rfl
  all_goals exfalso
  all_goals (repeat' split at h)
  all_goals try omega
  all_goals (obtain ⟨_, hv⟩ := ‹_ ≤ _ ∧ Utf8.valid _ = true›; have := v _ hv; omega)
theorem wd_cont (s : ByteArray) (i : Nat) {m : Nat} (h1 : 1 ≤ m) (h2 : (m : Int) ≤ tailN (byN s i)) (hc : contB s i m = false) : wd s i = 1 := by
  have hb := byN_lt s i
  have hm : m = 1 ∨ m = 2 ∨ m = 3 := by unfold tailN at h2; repeat' split at h2
                                        all_goals omega
  rw [wd_is]; unfold wC
  repeat' split
  all_goals try rfl
  all_goals exfalso
  all_goals rcases hm with rfl | rfl | rfl
  all_goals simp_all
  all_goals (unfold tailN at h2; repeat' split at h2)
  all_goals omega
def leadN (c : Nat) (n : Nat) : Nat := if n = 3 then c % 8 else if n = 2 then c % 16 else c % 32
def runeN (s : ByteArray) (i n : Nat) : Nat := rK s i n + leadN (byN s i) n * 64 ^ n
theorem wd_fin (s : ByteArray) (i : Nat) {n : Nat} (h0 : 0 < n) (hn : tailN (byN s i) = n) (hs : i + n < s.size) (hc : ∀ m, 1 ≤ m → m ≤ n → contB s i m = true) :
    wd s i = if tailL (byN s i) ≤ runeN s i n ∧ runeN s i n < 1114112 ∧ (runeN s i n < 55296 ∨ 57344 ≤ runeN s i n) then n + 1 else 1 := by
  have hb := byN_lt s i
  have v : ∀ n : Nat, Utf8.valid (n : Int) = true ↔ (n < 55296 ∨ 57344 ≤ n) ∧ n < 1114112 := by intro n; simp [Utf8.valid]; omega
  have hm : n = 1 ∨ n = 2 ∨ n = 3 := by unfold tailN at hn; repeat' split at hn
                                        all_goals omega
  rw [wd_is]; unfold wC
  simp only [v]
  have c1 := hc 1 (by omega) (by omega)
  rcases hm with rfl | rfl | rfl
  · have hr : 194 ≤ byN s i ∧ byN s i < 224 := by unfold tailN at hn; repeat' split at hn
                                                  all_goals first | omega | assumption
    have hl : tailL (byN s i) = 128 := by unfold tailL; rw [if_neg (by omega), if_pos hr]
    have hru : runeN s i 1 = (byN s i % 32) * 64 + byN s (i + 1) % 64 := by simp [runeN, rK, leadN]; omega
    rw [hl, hru, if_neg (by omega), if_pos ⟨by omega, by omega, c1⟩]
    by_cases hq : 128 ≤ (byN s i % 32) * 64 + byN s (i + 1) % 64
    · rw [if_pos hq, if_pos (by omega)]
    · rw [if_neg hq, if_neg (by omega)]
  · have c2 := hc 2 (by omega) (by omega)
    have hr : 224 ≤ byN s i ∧ byN s i < 240 := by unfold tailN at hn; repeat' split at hn
                                                  all_goals first | omega | assumption
    have hl : tailL (byN s i) = 2048 := by unfold tailL; rw [if_neg (by omega), if_neg (by omega), if_pos hr]
    have hru : runeN s i 2 = (byN s i % 16) * 4096 + (byN s (i + 1) % 64) * 64 + byN s (i + 2) % 64 := by simp [runeN, rK, leadN]; omega
    rw [hl, hru, if_neg (by omega), if_neg (by omega), if_pos ⟨by omega, ⟨by omega, c1⟩, by omega, c2⟩]
    congr 1
    exact propext (by omega)
  · have c2 := hc 2 (by omega) (by omega)
    have c3 := hc 3 (by omega) (by omega)
    have hr : 240 ≤ byN s i ∧ byN s i < 245 := by unfold tailN at hn; repeat' split at hn
                                                  all_goals first | omega | assumption
    have hl : tailL (byN s i) = 65536 := by unfold tailL; rw [if_neg (by omega), if_neg (by omega), if_neg (by omega), if_pos hr]
    have hru : runeN s i 3 = (byN s i % 8) * 262144 + (byN s (i + 1) % 64) * 4096 + (byN s (i + 2) % 64) * 64 + byN s (i + 3) % 64 := by simp [runeN, rK, leadN]; omega
    rw [hl, hru, if_neg (by omega), if_neg (by omega), if_neg (by omega), if_pos ⟨by omega, ⟨by omega, c1⟩, ⟨by omega, c2⟩, by omega, c3⟩]
    congr 1
    exact propext (by omega)
theorem wd_zero (s : ByteArray) (i : Nat) (h : tailN (byN s i) = 0) : wd s i = 1 := by
  rw [wd_is]; unfold wC
  rw [if_pos]
  unfold tailN at h
  repeat' split at h
  all_goals omega
theorem tailN_le (c : Nat) : -1 ≤ tailN c ∧ tailN c ≤ 3 := by
  unfold tailN
  repeat' split
  all_goals omega
theorem rK_lt (s : ByteArray) (i : Nat) : ∀ k, rK s i k < 64 ^ k
  | 0 => by simp [rK]
  | k + 1 => by
    have := rK_lt s i k
    have h2 : 64 ^ (k + 1) = 64 * 64 ^ k := by rw [Nat.pow_succ, Nat.mul_comm]
    unfold rK
    rw [h2]
    omega
def chainL (s : ByteArray) : Nat → Nat → List ByteArray
  | 0, _ => []
  | k + 1, i => if i < s.size then s.extract i (i + wd s i) :: chainL s k (i + wd s i) else []
theorem chainL_more (s : ByteArray) : ∀ (k l i : Nat), s.size ≤ i + k → s.size ≤ i + l → chainL s k i = chainL s l i
  | 0, 0, i, _, _ => rfl
  | 0, l + 1, i, h, _ => by rw [chainL, chainL, if_neg (by omega)]
  | k + 1, 0, i, _, h => by rw [chainL, chainL, if_neg (by omega)]
  | k + 1, l + 1, i, h1, h2 => by
    have := wd_pos s i
    rw [chainL, chainL, chainL_more s k l (i + wd s i) (by omega) (by omega)]
def chainR (s : ByteArray) (i : Nat) : List ByteArray := chainL s s.size i
theorem chainR_step (s : ByteArray) (i : Nat) (h : i < s.size) : chainR s i = s.extract i (i + wd s i) :: chainR s (i + wd s i) := by
  have := wd_pos s i
  unfold chainR
  obtain ⟨k, hk⟩ : ∃ k, s.size = k + 1 := ⟨s.size - 1, by omega⟩
  conv => lhs; rw [hk, chainL, if_pos h, chainL_more s k s.size _ (by omega) (by omega)]
theorem chainR_end (s : ByteArray) (i : Nat) (h : s.size ≤ i) : chainR s i = [] := by
  unfold chainR
  cases hk : s.size with
  | zero => rfl
  | succ k => rw [chainL, if_neg (by omega)]
theorem lettersF_chain (s : ByteArray) : ∀ (k pos b : Nat) (acc : List ByteArray), b < s.size → pos = b + wd s b → s.size < pos + k →
    (if (lettersF s k pos b acc).1 < s.size then (lettersF s k pos b acc).2 ++ [s.extract (lettersF s k pos b acc).1 s.size] else (lettersF s k pos b acc).2) = acc ++ chainR s b := by
  intro k
  induction k with
  | zero =>
    intro pos b acc h1 h2 h3
    have := wd_fits s b h1
    omega
  | succ k ih =>
    intro pos b acc h1 h2 h3
    have hw := wd_pos s b
    have hf := wd_fits s b h1
    unfold lettersF
    by_cases hp : pos < s.size
    · have hb : b < pos := by omega
      have hw2 := wd_pos s pos
      simp only [if_pos hp, if_pos hb]
      rw [ih (pos + (Utf8.decode s pos).2) pos _ hp rfl (by show _ < pos + wd s pos + k; omega), chainR_step s b h1, ← h2]
      simp
    · have he : pos = s.size := by omega
      simp only [if_neg hp, if_pos h1]
      rw [chainR_step s b h1, ← h2, he, chainR_end s s.size (Nat.le_refl _)]
theorem letters_chain (s : ByteArray) : lettersB s = chainR s 0 := by
  unfold lettersB
  by_cases h : 0 < s.size
  · have hw := wd_pos s 0
    have e : lettersF s (s.size + 1) 0 0 [] = lettersF s s.size (0 + wd s 0) 0 [] := by
      conv => lhs; unfold lettersF
      rw [if_pos h]
      rfl
    rw [e, lettersF_chain s s.size (0 + wd s 0) 0 [] h rfl (by omega)]
    rfl
  · have e : lettersF s (s.size + 1) 0 0 [] = (0, []) := by unfold lettersF; rw [if_neg h]
    rw [e, chainR_end s 0 (by omega)]
    simp only [if_neg h]
end Go.Proofs.YtcclgodahlinbaaGreatDoor
namespace Go.Proofs.YtcclgodahlinbaaGreatDoor
open Go.RowKit Go
set_option maxRecDepth 100000
theorem byN_at (s : ByteArray) (i : Nat) (h : i < s.size) : (s[i]'h).toNat = byN s i := by
  unfold byN
  congr 1
  obtain ⟨d⟩ := s
  show d[i]'h = d[i]!
  rw [getElem!_pos d i h]
set_option maxHeartbeats 2000000 in
theorem tail_any (c : Nat) (w : World) :
    Calls Tryz.prog 141 #[.int .u8 (c : Nat)] w fun e w' => e = .returned (.tuple #[.int .i64 (tailN c), .int .i64 (tailL c)]) ∧ w = w' := by
  go_enter Tryz.func141, Tryz.ntmps141
  by_cases h1 : c < 128
  · have h1I : (c : Int) < 128 := by omega
    have e : Hid (tailN c = 0 ∧ tailL c = 0) := by unfold tailN tailL; rw [if_pos h1, if_pos h1]; exact ⟨rfl, rfl⟩
    clear h1
    go_wp2_with fail
    go_ret2
    exact ⟨by rw [e.out.1, e.out.2]; rfl, rfl⟩
  have h1I : ¬ (c : Int) < 128 := by omega
  by_cases h2 : 194 ≤ c ∧ c < 224
  · have e : Hid (tailN c = 1 ∧ tailL c = 128) := by unfold tailN tailL; rw [if_neg h1, if_neg h1, if_pos h2, if_pos h2]; exact ⟨rfl, rfl⟩
    have h2I : 194 ≤ (c : Int) := by omega
    have h2J : (c : Int) < 224 := by omega
    clear h1 h2
    go_wp2_with fail
    go_ret2
    exact ⟨by rw [e.out.1, e.out.2]; rfl, rfl⟩
  by_cases h3 : 224 ≤ c ∧ c < 240
  · have e : Hid (tailN c = 2 ∧ tailL c = 2048) := by unfold tailN tailL; rw [if_neg h1, if_neg h1, if_neg h2, if_neg h2, if_pos h3, if_pos h3]; exact ⟨rfl, rfl⟩
    have h2I : 194 ≤ (c : Int) := by omega
    have h2J : ¬ (c : Int) < 224 := by omega
    have h3I : 224 ≤ (c : Int) := by omega
    have h3J : (c : Int) < 240 := by omega
    clear h1 h2 h3
    go_wp2_with fail
    go_ret2
    exact ⟨by rw [e.out.1, e.out.2]; rfl, rfl⟩
  by_cases h4 : 240 ≤ c ∧ c < 245
  · have e : Hid (tailN c = 3 ∧ tailL c = 65536) := by unfold tailN tailL; rw [if_neg h1, if_neg h1, if_neg h2, if_neg h2, if_neg h3, if_neg h3, if_pos h4, if_pos h4]; exact ⟨rfl, rfl⟩
    have h2I : 194 ≤ (c : Int) := by omega
    have h2J : ¬ (c : Int) < 224 := by omega
    have h3I : 224 ≤ (c : Int) := by omega
    have h3J : ¬ (c : Int) < 240 := by omega
    have h4I : 240 ≤ (c : Int) := by omega
    have h4J : (c : Int) < 245 := by omega
    clear h1 h2 h3 h4
    go_wp2_with fail
    go_ret2
    exact ⟨by rw [e.out.1, e.out.2]; rfl, rfl⟩
  have e : Hid (tailN c = -1 ∧ tailL c = 0) := by unfold tailN tailL; rw [if_neg h1, if_neg h1, if_neg h2, if_neg h2, if_neg h3, if_neg h3, if_neg h4, if_neg h4]; exact ⟨rfl, rfl⟩
  by_cases h5 : c < 194
  · have h2I : ¬ 194 ≤ (c : Int) := by omega
    have h3I : ¬ 224 ≤ (c : Int) := by omega
    have h4I : ¬ 240 ≤ (c : Int) := by omega
    clear h1 h2 h3 h4 h5
    go_wp2_with fail
    go_ret2
    exact ⟨by rw [e.out.1, e.out.2]; rfl, rfl⟩
  · have h2I : 194 ≤ (c : Int) := by omega
    have h2J : ¬ (c : Int) < 224 := by omega
    have h3I : 224 ≤ (c : Int) := by omega
    have h3J : ¬ (c : Int) < 240 := by omega
    have h4I : 240 ≤ (c : Int) := by omega
    have h4J : ¬ (c : Int) < 245 := by omega
    clear h1 h2 h3 h4 h5
    go_wp2_with fail
    go_ret2
    exact ⟨by rw [e.out.1, e.out.2]; rfl, rfl⟩
set_option maxHeartbeats 4000000 in
theorem refLetters_any (s : ByteArray) (w : World) (hs : s.size ≤ 1000) :
    Calls Tryz.prog 118 #[.string s] w fun e w' => ∃ a c, e = .returned (.slice a (lettersB s).length c) ∧ w'.ownsRow w.heap.size 9 1 (.slice a (lettersB s).length c) (lettersB s).length (strCells (lettersB s)) ∧ Below w.heap.size w w' := by
  obtain ⟨i0, hi, hz0, hz1, hz2⟩ := info_parts info_str
  rw [letters_chain]
  go_enter Tryz.func118, Tryz.ntmps118
  go_wp2_with fail
  go_loopg [3, 4] s.size (fun g v vi wr => ∃ (i n : Nat) (acc : List ByteArray), g = s.size - i ∧ i ≤ s.size ∧ n ≤ i ∧ vi = .int .i64 i ∧ acc.length = n ∧ Hid (acc ++ chainR s i = chainR s 0) ∧ wr.ownsRow w.heap.size 9 1 v n (strCells acc) ∧ Below w.heap.size w wr)
  case atStart => exact ⟨0, 0, [], by omega, by omega, by omega, rfl, rfl, rfl, World.ownsRow_nil _ _ _ _, Below.refl _ _⟩
  case round =>
    obtain ⟨i, n, acc, hgi, hil, hni, rfl, hlen, hch, hown, hbw⟩ := hrel
    have hG : Hid (gk = s.size - i) := hgi
    clear hgi
    have hszr := hbw.size
    obtain ⟨al, cl, rfl⟩ := owns_isSlice hown
    by_cases hi2 : i < s.size
    · have hiI : (i : Int) < s.size := by omega
      have hB0 := byN_at s i hi2
      go_wp2_with fail
      refine (tail_any (byN s i) _).mono ?_
      rintro e w1 ⟨rfl, rfl⟩
      obtain ⟨hT1, hT2⟩ := tailN_le (byN s i)
      obtain ⟨T, hTe⟩ : ∃ T, tailN (byN s i) = T := ⟨_, rfl⟩
      have hTH : Hid (tailN (byN s i) = T) := hTe
      obtain ⟨Lw, hLe⟩ : ∃ Lw, tailL (byN s i) = Lw := ⟨_, rfl⟩
      have hLH : Hid (tailL (byN s i) = Lw) := hLe
      rw [hTe] at hT1 hT2 ⊢
      rw [hLe]
      clear hTe hLe
      have hS0 : Hid ((decide (0 ≤ T ∧ (i : Int) + T < s.size) = false → wd s i = 1) ∧ (decide (0 ≤ T ∧ (i : Int) + T < s.size) = true → 0 ≤ T ∧ (i : Int) + T < s.size)) := by
        refine ⟨fun h => wd_bad s i ?_, fun h => by simpa using h⟩
        rw [hTH.out]
        simp at h
        omega
      go_upto_region 5 with fail
      go_cut [7] (fun s7 wx => s7 = .bool (decide (0 ≤ T ∧ (i : Int) + T < s.size)) ∧ wr = wx)
      case first =>
        by_cases h0 : 0 ≤ T
        · by_cases h1 : (i : Int) + T < s.size
          · have hd : decide (0 ≤ T ∧ (i : Int) + T < s.size) = true := by simp [h0, h1]
            go_wp2_with fail
            go_meet
            case rel => exact ⟨by rw [hd], rfl⟩
          · have hd : decide (0 ≤ T ∧ (i : Int) + T < s.size) = false := by simp [h1]
            go_wp2_with fail
            go_meet
            case rel => exact ⟨by rw [hd], rfl⟩
        · have hd : decide (0 ≤ T ∧ (i : Int) + T < s.size) = false := by simp [h0]
          go_wp2_with fail
          go_meet
          case rel => exact ⟨by rw [hd], rfl⟩
      case rest =>
        obtain ⟨rfl, rfl⟩ := hcut
        generalize decide (0 ≤ T ∧ (i : Int) + T < s.size) = ok0 at *
        go_upto_block 2 with fail
        go_cut [7, 8, 9] (fun s7 s8 s9 wx => ∃ (ok : Bool) (r k : Nat), s7 = .bool ok ∧ s8 = .int .i64 r ∧ s9 = .int .i64 k ∧ r ≤ 1000000 ∧ Hid ((ok = false → wd s i = 1) ∧ (ok = true → 0 ≤ T ∧ (i : Int) + T < s.size ∧ r = rK s i T.toNat ∧ ∀ m, 1 ≤ m → m ≤ T.toNat → contB s i m = true)) ∧ wr = wx)
        case first =>
          go_wp2_with fail
          go_loopg [7, 8, 9] 3 (fun g t7 t8 t9 wy => ∃ (j : Nat) (ok : Bool), g = 3 - j ∧ j ≤ 3 ∧ t7 = .bool ok ∧ t8 = .int .i64 ((rK s i j : Nat) : Int) ∧ t9 = .int .i64 ((j : Int) + 1) ∧ Hid ((ok = false → wd s i = 1) ∧ (ok = true → 0 ≤ T ∧ (j : Int) ≤ T ∧ (i : Int) + T < s.size ∧ ∀ m, 1 ≤ m → m ≤ j → contB s i m = true)) ∧ wr = wy)
          case atStart => exact ⟨0, ok0, rfl, by omega, rfl, rfl, rfl, ⟨hS0.out.1, fun h => ⟨(hS0.out.2 h).1, by have := (hS0.out.2 h).1; omega, (hS0.out.2 h).2, fun m h1 h2 => by omega⟩⟩, rfl⟩
          case round =>
            obtain ⟨j, ok, hgj, hj3, rfl, rfl, rfl, hI, rfl⟩ := hrel
            have hGj : Hid (_ = 3 - j) := hgj
            have hrb : rK s i j < 1000000 := by
              have h1 := rK_lt s i j
              have h2 : 64 ^ j ≤ 64 ^ 3 := Nat.pow_le_pow_right (by omega) hj3
              have h3 : (64 : Nat) ^ 3 = 262144 := by decide
              omega
            clear hgj
            cases ok with
            | false =>
              have hw1 : Hid (wd s i = 1) := hI.out.1 rfl
              clear hI
              go_wp2_with fail
              go_meet
              case rel => exact ⟨false, rK s i j, j + 1, rfl, rfl, rfl, by omega, ⟨fun _ => hw1.out, fun h => (by cases h)⟩, rfl⟩
            | true =>
              obtain ⟨t0, t1, t2, t3⟩ := hI.out.2 rfl
              have ht3 : Hid (∀ m, 1 ≤ m → m ≤ j → contB s i m = true) := t3
              clear hI t3
              by_cases hjT : (j : Int) + 1 ≤ T
              · have hx : i + (j + 1) < s.size := by omega
                have hxI : (i : Int) + ((j : Int) + 1) < s.size := by omega
                have hB1 := byN_at s (i + (j + 1)) hx
                have hrk : Hid (rK s i (j + 1) = 64 * rK s i j + byN s (i + (j + 1)) % 64) := rfl
                have hcb : Hid (contB s i (j + 1) = decide (128 ≤ byN s (i + (j + 1)) ∧ byN s (i + (j + 1)) < 192)) := rfl
                have hBl := byN_lt s (i + (j + 1))
                have hnx : Hid (∀ ok' : Bool, ok' = contB s i (j + 1) → ∃ (j' : Nat) (ok : Bool), 3 - (j + 1) = 3 - j' ∧ j' ≤ 3 ∧ Value.bool ok' = .bool ok ∧ Value.int .i64 (64 * (rK s i j : Int) + (byN s (i + (j + 1)) : Int) % 64) = .int .i64 ((rK s i j' : Nat) : Int) ∧ Value.int .i64 ((j : Int) + 1 + 1) = .int .i64 ((j' : Int) + 1) ∧ Hid ((ok = false → wd s i = 1) ∧ (ok = true → 0 ≤ T ∧ (j' : Int) ≤ T ∧ (i : Int) + T < s.size ∧ ∀ m, 1 ≤ m → m ≤ j' → contB s i m = true))) := by
                  intro ok' hok
                  refine ⟨j + 1, ok', rfl, by omega, rfl, by rw [hrk.out]; push_cast; rfl, by push_cast; rfl, ⟨fun h => ?_, fun h => ⟨t0, by omega, t2, fun m h1 h2 => ?_⟩⟩⟩
                  · exact wd_cont s i (m := j + 1) (by omega) (by rw [hTH.out]; omega) (by rw [← hok]; exact h)
                  · by_cases hm : m = j + 1
                    · rw [hm, ← hok]; exact h
                    · exact ht3.out m h1 (by omega)
                generalize byN s (i + (j + 1)) = Bn at *
                by_cases g1 : 128 ≤ Bn
                · have g1I : 128 ≤ (Bn : Int) := by omega
                  by_cases g2 : Bn < 192
                  · have g2I : (Bn : Int) < 192 := by omega
                    have hR := hnx.out true (by rw [hcb.out]; simp [g1, g2])
                    have hRH : Hid _ := hR
                    clear hR hnx g1 g2
                    go_wp2_with fail
                    go_roundg (3 - (j + 1))
                    · obtain ⟨j', ok, q1, q2, q3, q4, q5, q6⟩ := hRH.out
                      exact ⟨j', ok, q1, q2, q3, q4, q5, q6, rfl⟩
                    · have := hGj.out; omega
                  · have g2I : ¬ (Bn : Int) < 192 := by omega
                    have hR := hnx.out false (by rw [hcb.out]; simp [g2])
                    have hRH : Hid _ := hR
                    clear hR hnx g1 g2
                    go_wp2_with fail
                    go_roundg (3 - (j + 1))
                    · obtain ⟨j', ok, q1, q2, q3, q4, q5, q6⟩ := hRH.out
                      exact ⟨j', ok, q1, q2, by rw [show decide ((Bn : Int) < 192) = false by simp; omega]; exact q3, q4, q5, q6, rfl⟩
                    · have := hGj.out; omega
                · have g1I : ¬ 128 ≤ (Bn : Int) := by omega
                  have hR := hnx.out false (by rw [hcb.out]; simp [g1])
                  have hRH : Hid _ := hR
                  clear hR hnx g1
                  go_wp2_with fail
                  go_roundg (3 - (j + 1))
                  · obtain ⟨j', ok, q1, q2, q3, q4, q5, q6⟩ := hRH.out
                    exact ⟨j', ok, q1, q2, q3, q4, q5, q6, rfl⟩
                  · have := hGj.out; omega
              · have hjE : Hid (T.toNat = j) := by show _ = _; omega
                go_wp2_with fail
                go_meet
                case rel => exact ⟨true, rK s i j, j + 1, rfl, rfl, rfl, by omega, ⟨fun h => (by cases h), fun _ => ⟨t0, t2, by rw [hjE.out], by rw [hjE.out]; exact ht3.out⟩⟩, rfl⟩
        case rest =>
          obtain ⟨ok, r, k, rfl, rfl, rfl, hr6, hK, rfl⟩ := hcut
          go_upto_region 12 with fail
          go_cut [69] (fun s69 wx => s69 = .bool (ok && decide (0 < T)) ∧ wr = wx)
          case first =>
            cases ok with
            | false =>
              go_wp2_with fail
              go_meet
              case rel => exact ⟨rfl, rfl⟩
            | true =>
              by_cases h0 : 0 < T
              · go_wp2_with fail
                go_meet
                case rel => exact ⟨by simp [h0], rfl⟩
              · go_wp2_with fail
                go_meet
                case rel => exact ⟨by simp [h0], rfl⟩
          case rest =>
            obtain ⟨rfl, rfl⟩ := hcut
            go_upto_if 69 with fail
            go_cut [7] (fun s7 wx => ∃ ok' : Bool, s7 = .bool ok' ∧ Hid ((ok' = true → 0 ≤ T ∧ wd s i = T.toNat + 1) ∧ (ok' = false → wd s i = 1)) ∧ wr = wx)
            case first =>
              cases hN : (ok && decide (0 < T)) with
              | false =>
                have hE : Hid ((ok = true → 0 ≤ T ∧ wd s i = T.toNat + 1) ∧ (ok = false → wd s i = 1)) := by
                  refine ⟨fun h => ?_, hK.out.1⟩
                  have h1 := (hK.out.2 h).1
                  rw [h] at hN
                  simp at hN
                  have h2 : T = 0 := by omega
                  rw [h2]
                  exact ⟨by omega, by rw [wd_zero s i (by rw [hTH.out, h2])]; rfl⟩
                go_wp2_with fail
                go_meet
                case rel => exact ⟨ok, rfl, hE, rfl⟩
              | true =>
                obtain ⟨hok, hT0⟩ : ok = true ∧ 0 < T := by simpa using hN
                subst hok
                obtain ⟨k0, k1, k2, k3⟩ := hK.out.2 rfl
                obtain ⟨N, rfl⟩ : ∃ N : Nat, T = (N : Int) := ⟨T.toNat, by omega⟩
                have hfin : Hid (wd s i = if Lw ≤ runeN s i N ∧ runeN s i N < 1114112 ∧ (runeN s i N < 55296 ∨ 57344 ≤ runeN s i N) then N + 1 else 1) := by
                  have := wd_fin s i (n := N) (by omega) hTH.out (by omega) (fun m h1 h2 => k3 m h1 (by omega))
                  rw [hLH.out] at this
                  exact this
                have hrn : Hid (runeN s i N = r + leadN (byN s i) N * 64 ^ N) := by
                  show _ = _
                  rw [k2]; rfl
                have hlb : leadN (byN s i) N ≤ 31 := by
                  unfold leadN
                  repeat' split
                  all_goals omega
                have hLd : Hid (leadN (byN s i) N = if N = 3 then byN s i % 8 else if N = 2 then byN s i % 16 else byN s i % 32) := rfl
                have hBl := byN_lt s i
                clear hK k2 k3 hN
                have hN3 : N ≤ 3 := by omega
                have hN1 : 1 ≤ N := by omega
                generalize leadN (byN s i) N = ld at *
                generalize runeN s i N = R at *
                generalize byN s i = B0 at *
                go_upto_if 76 with fail
                go_cut [10] (fun s10 wx => s10 = .int .i64 (((if N = 2 then B0 % 16 else B0 % 32) : Nat) : Int) ∧ wr = wx)
                case first =>
                  by_cases h2 : N = 2
                  · have h2I : (((N : Nat) : Int) == 2) = true := by rw [h2]; rfl
                    go_wp2_with fail
                    go_meet
                    case rel => exact ⟨by simp [h2], rfl⟩
                  · have h2I : (((N : Nat) : Int) == 2) = false := by rw [beq_eq_false_iff_ne]; omega
                    go_wp2_with fail
                    go_meet
                    case rel => exact ⟨by simp [h2], rfl⟩
                case rest =>
                  obtain ⟨rfl, rfl⟩ := hcut
                  generalize (if N = 2 then B0 % 16 else B0 % 32) = l0 at *
                  go_upto_if 83 with fail
                  go_cut [10] (fun s10 wx => s10 = .int .i64 ((ld : Nat) : Int) ∧ wr = wx)
                  case first =>
                    by_cases h3 : N = 3
                    · have h3I : (((N : Nat) : Int) == 3) = true := by rw [h3]; rfl
                      go_wp2_with fail
                      go_meet
                      case rel => exact ⟨by rw [hLd.out, if_pos h3]; simp, rfl⟩
                    · have h3I : (((N : Nat) : Int) == 3) = false := by rw [beq_eq_false_iff_ne]; omega
                      go_wp2_with fail
                      go_meet
                      case rel => exact ⟨by rw [hLd.out, if_neg h3], rfl⟩
                  case rest =>
                    obtain ⟨rfl, rfl⟩ := hcut
                    clear hLd
                    have hpw : Hid (∀ j, j ≤ N → ld * 64 ^ j ≤ 8126464) := by
                      intro j hj
                      have h1 : 64 ^ j ≤ 64 ^ 3 := Nat.pow_le_pow_right (by omega) (by omega)
                      have h2 := Nat.mul_le_mul hlb h1
                      have h3 : 31 * 64 ^ 3 = 8126464 := by decide
                      omega
                    go_wp2_with fail
                    go_loopg [10, 11] N (fun g t10 t11 wy => ∃ j P : Nat, g = N - j ∧ j ≤ N ∧ t10 = .int .i64 (P : Int) ∧ Hid (P = ld * 64 ^ j) ∧ P ≤ 8126464 ∧ t11 = .int .i64 j ∧ wr = wy)
                    case atStart => exact ⟨0, ld, by omega, by omega, rfl, by show _ = _; simp, by omega, rfl, rfl⟩
                    case round =>
                      obtain ⟨j, P, hgj, hjN, rfl, hP, hPb, rfl, rfl⟩ := hrel
                      have hGj : Hid (_ = N - j) := hgj
                      clear hgj
                      by_cases hj : j < N
                      · have hjI : (j : Int) < N := by omega
                        have hP2 : Hid (P * 64 = ld * 64 ^ (j + 1)) := by
                          show _ = _
                          rw [hP.out, Nat.pow_succ, Nat.mul_assoc]
                        have hP3 : P * 64 ≤ 8126464 := by rw [hP2.out]; exact hpw.out (j + 1) hj
                        go_wp2_with fail
                        go_roundg (N - (j + 1))
                        · exact ⟨j + 1, P * 64, rfl, by omega, by push_cast; rfl, hP2, hP3, by push_cast; rfl, rfl⟩
                        · have := hGj.out; omega
                      · obtain rfl : j = N := by omega
                        have hjI : ¬ ((j : Int) < j) := by omega
                        have hRP : R = r + P := by rw [hrn.out, hP.out]
                        subst hRP
                        have hT2 : Hid ((j : Int).toNat = j) := by show _ = _; omega
                        have hmeet : Hid (∀ ok' : Bool, (ok' = true ↔ (Lw ≤ ((r + P : Nat) : Int) ∧ r + P < 1114112 ∧ (r + P < 55296 ∨ 57344 ≤ r + P))) → Hid ((ok' = true → 0 ≤ (j : Int) ∧ wd s i = (j : Int).toNat + 1) ∧ (ok' = false → wd s i = 1))) := by
                          intro ok' h
                          refine ⟨fun e => ⟨by omega, ?_⟩, fun e => ?_⟩
                          · rw [hfin.out, if_pos (h.1 e), hT2.out]
                          · rw [hfin.out, if_neg (fun h2 => by rw [h.2 h2] at e; cases e)]
                        clear hfin hrn hP hpw
                        by_cases q1 : Lw ≤ (r : Int) + P
                        · by_cases q2 : (r : Int) + P < 1114112
                          · by_cases q3 : (r : Int) + P < 55296
                            · go_wp2_with fail
                              go_meet
                              case rel => exact ⟨true, rfl, hmeet.out true (by simp; omega), rfl⟩
                            · by_cases q4 : 57344 ≤ (r : Int) + P
                              · go_wp2_with fail
                                go_meet
                                case rel => exact ⟨true, rfl, hmeet.out true (by simp; omega), rfl⟩
                              · go_wp2_with fail
                                go_meet
                                case rel => exact ⟨false, rfl, hmeet.out false (by simp; omega), rfl⟩
                          · go_wp2_with fail
                            go_meet
                            case rel => exact ⟨false, rfl, hmeet.out false (by simp; omega), rfl⟩
                        · go_wp2_with fail
                          go_meet
                          case rel => exact ⟨false, rfl, hmeet.out false (by simp; omega), rfl⟩
            case rest =>
              obtain ⟨ok2, rfl, hW, rfl⟩ := hcut
              have hon : ∀ t : ByteArray, ∀ u ∈ [Value.string t], u.oneCell' = true := by intro t u hu; simp at hu; subst hu; rfl
              have hfit := wd_fits s i hi2
              have hpos := wd_pos s i
              have hnext : Hid (chainR s i = s.extract i (i + wd s i) :: chainR s (i + wd s i)) := chainR_step s i hi2
              clear hK hS0
              cases ok2 with
              | false =>
                have hw1 := hW.out.2 rfl
                rw [hw1] at hnext hfit
                have hfI : (i : Int) + 1 ≤ s.size := by omega
                go_wp2_with (at_builtin; refine wpList_append_own2 rfl (.tmp 116) (.tmp 124) 27 rfl w.heap.size 9 i0 _ 1 16 Tryz.underlying27 hi hz0 hz1 hz2 rfl (by decide) (.slice al n cl) n (strCells acc) rfl (hown.alloc _) ⟨wr.heap.size, 0, none⟩ 1 1 [.string (s.extract i (i + 1))] rfl rfl (cells_new wr [.string (s.extract i (i + 1))] 9) (hon _) (by unfold maxLen; omega) (by omega) (by simp; omega) ?_; intro v' w3 hown3 hgr hnew; have hb3 := (hbw.alloc (by omega) _).grown hgr (by simp; omega) (fun j e => by have := (hown.lt j e).1; omega))
                go_roundg (s.size - (i + 1))
                · exact ⟨i + 1, n + 1, acc ++ [s.extract i (i + 1)], rfl, by omega, by omega, by push_cast; rfl, by simp [hlen], by show _ = _; rw [← hch.out, hnext.out]; simp, by rw [strCells_append]; exact hown3, hb3⟩
                · have := hG.out; omega
              | true =>
                obtain ⟨hT0, hw1⟩ := hW.out.1 rfl
                obtain ⟨N, rfl⟩ : ∃ N : Nat, T = (N : Int) := ⟨T.toNat, by omega⟩
                have hw2 : wd s i = N + 1 := by rw [hw1]; rfl
                rw [hw2] at hnext hfit
                have hfI : (i : Int) + N + 1 ≤ s.size := by omega
                clear hw1
                go_wp2_with (at_builtin; refine wpList_append_own2 rfl (.tmp 116) (.tmp 124) 27 rfl w.heap.size 9 i0 _ 1 16 Tryz.underlying27 hi hz0 hz1 hz2 rfl (by decide) (.slice al n cl) n (strCells acc) rfl (hown.alloc _) ⟨wr.heap.size, 0, none⟩ 1 1 [.string (s.extract i (i + N + 1))] rfl rfl (cells_new wr [.string (s.extract i (i + N + 1))] 9) (hon _) (by unfold maxLen; omega) (by omega) (by simp; omega) ?_; intro v' w3 hown3 hgr hnew; have hb3 := (hbw.alloc (by omega) _).grown hgr (by simp; omega) (fun j e => by have := (hown.lt j e).1; omega))
                go_roundg (s.size - (i + N + 1))
                · exact ⟨i + N + 1, n + 1, acc ++ [s.extract i (i + N + 1)], rfl, by omega, by omega, by push_cast; rfl, by simp [hlen], by show _ = _; rw [← hch.out, hnext.out]; simp [Nat.add_assoc], by rw [strCells_append]; exact hown3, hb3⟩
                · have := hG.out; omega
    · obtain rfl : i = s.size := by omega
      have hiI : ¬ ((s.size : Int) < s.size) := by omega
      have he : Hid (acc = chainR s 0) := by
        show _ = _
        rw [← hch.out, chainR_end s s.size (Nat.le_refl _), List.append_nil]
      clear hch
      go_wp2_with fail
      go_ret
      refine ⟨al, cl, ?_, ?_, hbw⟩
      · rw [← he.out, hlen]; rfl
      · rw [← he.out, hlen]
        exact hown
end Go.Proofs.YtcclgodahlinbaaGreatDoor
namespace Go.Proofs.YtcclgodahlinbaaGreatDoor
open Go.RowKit Go
set_option maxRecDepth 100000
def lastTx (l : List StepB) (t : ByteArray) : List StepB := match l.reverse with | [] => [] | r :: q => q.reverse ++ [⟨r.kind, r.text ++ t⟩]
theorem lastTx_append (l : List StepB) (r : StepB) (t : ByteArray) : lastTx (l ++ [r]) t = l ++ [⟨r.kind, r.text ++ t⟩] := by simp [lastTx]
def newRun (L : List StepB) (k : Nat) : Bool := decide (k = 0) || decide ((L.getD (k - 1) ⟨0, ByteArray.empty⟩).kind ≠ (L.getD k ⟨0, ByteArray.empty⟩).kind)
def foldR (L : List StepB) : Nat → List StepB
  | 0 => []
  | k + 1 => lastTx (if newRun L k = true then foldR L k ++ [⟨(L.getD k ⟨0, ByteArray.empty⟩).kind, ByteArray.empty⟩] else foldR L k) (L.getD k ⟨0, ByteArray.empty⟩).text
theorem foldR_len (L : List StepB) : ∀ k, (foldR L k).length ≤ k
  | 0 => by simp [foldR]
  | k + 1 => by
    have ih := foldR_len L k
    have key : ∀ (l : List StepB) (t : ByteArray), (lastTx l t).length = l.length := by
      intro l t
      by_cases h : l = []
      · subst h; rfl
      · rw [← List.dropLast_concat_getLast h, lastTx_append]; simp
    unfold foldR
    rw [key]
    split
    · simp; omega
    · omega
theorem foldR_ne (L : List StepB) : ∀ k, 0 < k → foldR L k ≠ []
  | 0, h => by omega
  | k + 1, _ => by
    unfold foldR
    by_cases h : newRun L k = true
    · rw [if_pos h, lastTx_append]; simp
    · rw [if_neg h]
      have hk : 0 < k := by
        cases k with
        | zero => simp [newRun] at h
        | succ k => omega
      have := foldR_ne L k hk
      rw [← List.dropLast_concat_getLast this, lastTx_append]
      simp
theorem foldR_size {L : List StepB} (h : ∀ s ∈ L, s.text.size ≤ 200) : ∀ k, ∀ r ∈ foldR L k, r.text.size ≤ k * 200
  | 0 => by simp [foldR]
  | k + 1 => by
    have ih := foldR_size h k
    have hT : (L.getD k ⟨0, ByteArray.empty⟩).text.size ≤ 200 := by
      by_cases hk : k < L.length
      · have e : L.getD k ⟨0, ByteArray.empty⟩ = L[k] := by simp [List.getD, hk]
        rw [e]
        exact h _ (List.getElem_mem hk)
      · have e : L.getD k ⟨0, ByteArray.empty⟩ = ⟨0, ByteArray.empty⟩ := by simp [List.getD, List.getElem?_eq_none (show L.length ≤ k by omega)]
        rw [e]
        exact Nat.zero_le _
    have key : ∀ l : List StepB, (∀ r ∈ l, r.text.size ≤ k * 200) → ∀ r ∈ lastTx l (L.getD k ⟨0, ByteArray.empty⟩).text, r.text.size ≤ (k + 1) * 200 := by
      intro l hl r hr
      by_cases h0 : l = []
      · subst h0; simp [lastTx] at hr
      · have hl2 := hl (l.getLast h0) (List.getLast_mem h0)
        rw [← List.dropLast_concat_getLast h0, lastTx_append] at hr
        rcases List.mem_append.1 hr with hr | hr
        · have := hl r (List.dropLast_subset _ hr)
          omega
        · rw [List.mem_singleton] at hr
          subst hr
          show ((l.getLast h0).text ++ _).size ≤ _
          rw [ByteArray.size_append]
          omega
    unfold foldR
    split
    · refine key _ fun r hr => ?_
      rcases List.mem_append.1 hr with hr | hr
      · exact ih r hr
      · rw [List.mem_singleton] at hr
        subst hr
        exact Nat.zero_le _
    · exact key _ ih
theorem getD_kind {L : List StepB} {k : Nat} (h : k < L.length) : L.getD k ⟨0, ByteArray.empty⟩ = L[k] := by simp [List.getD, h]
theorem runAt_more {L : List StepB} {b e : Nat} (hb : b ≤ e) (he : e < L.length) : runAt L b (e + 1) = ⟨(runAt L b e).kind, (runAt L b e).text ++ L[e].text⟩ := by
  unfold runAt
  have h1 : (L.take (e + 1)).drop b = (L.take e).drop b ++ [L[e]] := by
    rw [List.take_succ_eq_append_getElem he, List.drop_append_of_le_length (by rw [List.length_take]; omega)]
  simp only
  rw [h1, bytes_app, List.map_append, catL_append]
  simp [catL]
theorem foldR_run {L : List StepB} {b : Nat} {acc : List StepB} (hb : b < L.length) (h0 : foldR L b = acc) (hn : newRun L b = true) :
    ∀ j, 1 ≤ j → j ≤ runLen L b → foldR L (b + j) = acc ++ [runAt L b (b + j)]
  | 0, h, _ => by omega
  | j + 1, _, hj => by
    by_cases h1 : j = 0
    · subst h1
      show foldR L (b + 1) = _
      unfold foldR
      rw [if_pos hn, lastTx_append, h0, runAt_more (Nat.le_refl b) hb, getD_kind hb]
      have e : runAt L b b = ⟨L[b].kind, ⟨#[]⟩⟩ := by
        unfold runAt
        rw [List.drop_of_length_le (by rw [List.length_take]; omega), getD_kind hb]
        rfl
      rw [e]
      rfl
    · have ih := foldR_run hb h0 hn j (by omega) (by omega)
      obtain ⟨k1, k2⟩ := runLen_in hb (j := j) (by omega)
      obtain ⟨k3, k4⟩ := runLen_in hb (j := j - 1) (by omega)
      have hnn : newRun L (b + j) = false := by
        unfold newRun
        rw [getD_kind k1, getD_kind (show b + j - 1 < L.length by omega)]
        have e1 := k2 k1
        have e2 := k4 (show b + (j - 1) < L.length by omega)
        have e3 : L[b + j - 1]'(by omega) = L[b + (j - 1)]'k3 := by congr 1; omega
        rw [e3, e1, e2]
        simp
        omega
      show foldR L (b + j + 1) = _
      unfold foldR
      rw [hnn, if_neg (by simp), ih, lastTx_append, getD_kind k1]
      show _ = acc ++ [runAt L b (b + j + 1)]
      rw [runAt_more (by omega) k1]
theorem foldR_runs (L : List StepB) : ∀ (k b : Nat) (acc : List StepB), b ≤ L.length → L.length ≤ b + k → foldR L b = acc → (b < L.length → newRun L b = true) → foldR L L.length = acc ++ runsF L k b
  | 0, b, acc, h1, h2, h3, _ => by
    obtain rfl : b = L.length := by omega
    rw [h3, runsF, List.append_nil]
  | k + 1, b, acc, h1, h2, h3, h4 => by
    unfold runsF
    by_cases hb : b < L.length
    · rw [if_pos hb]
      obtain ⟨p1, p2⟩ := runLen_pos hb
      have hr := foldR_run hb h3 (h4 hb) (runLen L b) p1 (Nat.le_refl _)
      rw [foldR_runs L k (b + runLen L b) _ p2 (by omega) hr (fun hlt => ?_)]
      · simp
      · have e1 := runLen_end hb hlt
        obtain ⟨k3, k4⟩ := runLen_in hb (j := runLen L b - 1) (by omega)
        unfold newRun
        rw [getD_kind hlt, getD_kind (show b + runLen L b - 1 < L.length by omega)]
        have e2 := k4 k3
        have e3 : L[b + runLen L b - 1]'(by omega) = L[b + (runLen L b - 1)]'k3 := by congr 1; omega
        rw [e3, e2]
        simp
        right
        intro e
        exact e1 e.symm
    · rw [if_neg hb]
      obtain rfl : b = L.length := by omega
      rw [h3, List.append_nil]
theorem foldR_all (L : List StepB) : foldR L L.length = runsM L := by
  unfold runsM
  rw [foldR_runs L L.length 0 [] (Nat.zero_le _) (by omega) rfl (fun _ => by simp [newRun])]
  rfl
theorem owns_setTx {w : World} {base cap g : Nat} {l : List StepB} {r : StepB} (h : w.ownsRow base 101 2 (.slice (some ⟨g, 0, none⟩) (l.length + 1) cap) (l.length + 1) (stepCells (l ++ [r]))) (t : ByteArray) :
    (w.setCell ⟨g, l.length * 2 + 1, none⟩ (.string t)).ownsRow base 101 2 (.slice (some ⟨g, 0, none⟩) (l.length + 1) cap) (l.length + 1) (stepCells (l ++ [⟨r.kind, t⟩])) := by
  obtain ⟨hl, hr⟩ := h
  rcases hr with ⟨e, _⟩ | ⟨g', cap', cur, e, hb, hg, h1, h2, h3, h4⟩
  · cases e
  · cases e
    refine ⟨by rw [stepCells_length]; simp, .inr ⟨g, cap, _, rfl, hb, heap_setCell_same _ _ _ _ _ _ _ hg, h1, h2, by simp [h3], ?_⟩⟩
    have h5 : List.take ((l.length + 1) * 2) (cur.setIfInBounds (l.length * 2 + 1) (.string t)).toList = (List.take ((l.length + 1) * 2) cur.toList).set (l.length * 2 + 1) (.string t) := by simp [List.take_set]
    rw [h5, h4, stepCells_append, stepCells_append, List.set_append_right _ _ (by rw [stepCells_length]; omega), stepCells_length]
    have : l.length * 2 + 1 - l.length * 2 = 1 := by omega
    rw [this]
    rfl
end Go.Proofs.YtcclgodahlinbaaGreatDoor
namespace Go.Proofs.YtcclgodahlinbaaGreatDoor
open Go.RowKit Go
set_option maxRecDepth 100000
set_option maxHeartbeats 8000000 in
theorem refInline_any (a b : ByteArray) (w : World) (h1 : a.size ≤ 4000000000) (h2 : b.size ≤ 4000000000) :
    Calls Tryz.prog 84 #[.string a, .string b] w fun e w' => ∃ al cl, e = .returned (.tuple #[.slice al (inl a b).length cl, .int .i64 (checkI a b : Nat)]) ∧ w'.ownsRow w.heap.size 101 2 (.slice al (inl a b).length cl) (inl a b).length (stepCells (inl a b)) ∧ Below w.heap.size w w' := by
  obtain ⟨i0, hinf, ix0, ix1, ix2⟩ := info_parts info_run
  have hno : Hid (∀ (k : Nat) (W : World), checkI a b = k → k ≠ 0 → Below w.heap.size w W → ∃ al cl, Ending.returned (.tuple #[.slice none 0 0, .int .i64 (k : Int)]) = Ending.returned (.tuple #[.slice al (inl a b).length cl, .int .i64 (checkI a b : Nat)]) ∧ W.ownsRow w.heap.size 101 2 (.slice al (inl a b).length cl) (inl a b).length (stepCells (inl a b)) ∧ Below w.heap.size w W) := by
    intro k W hk h0 hb
    have e : inl a b = [] := by unfold inl; rw [if_neg (by rw [hk]; exact h0)]
    rw [e, hk]
    exact ⟨none, 0, rfl, World.ownsRow_nil _ _ _ _, hb⟩
  go_enter Tryz.func84, Tryz.ntmps84
  by_cases s1 : 200 < a.size
  · have s1I : 200 < (a.size : Int) := by omega
    have hR := hno.out 1 w (by unfold checkI; rw [if_pos (.inl s1)]) (by decide) (Below.refl _ _)
    have hRH : Hid _ := hR
    clear hR hno
    go_wp2_with fail
    go_ret2
    exact hRH.out
  have s1I : ¬ 200 < (a.size : Int) := by omega
  by_cases s2 : 200 < b.size
  · have s2I : 200 < (b.size : Int) := by omega
    have hR := hno.out 1 w (by unfold checkI; rw [if_pos (.inr s2)]) (by decide) (Below.refl _ _)
    have hRH : Hid _ := hR
    clear hR hno
    go_wp2_with fail
    go_ret2
    exact hRH.out
  have s2I : ¬ 200 < (b.size : Int) := by omega
  go_wp2_with fail
  refine (lined_any a w h1).mono ?_
  rintro e w1 ⟨rfl, rfl⟩
  go_wp2_with fail
  refine (lined_any b w h2).mono ?_
  rintro e w1 ⟨rfl, rfl⟩
  cases n1 : hasNl a with
  | true =>
    have hR := hno.out 2 w (by unfold checkI; rw [if_neg (by omega), if_pos (.inl n1)]) (by decide) (Below.refl _ _)
    have hRH : Hid _ := hR
    clear hR hno n1
    go_wp2_with fail
    go_ret2
    exact hRH.out
  | false =>
  cases n2 : hasNl b with
  | true =>
    have hR := hno.out 2 w (by unfold checkI; rw [if_neg (by omega), if_pos (.inr n2)]) (by decide) (Below.refl _ _)
    have hRH : Hid _ := hR
    clear hR hno n1 n2
    go_wp2_with fail
    go_ret2
    exact hRH.out
  | false =>
  have hck : checkI a b = 0 := by unfold checkI; rw [if_neg (by omega), if_neg (by rw [n1, n2]; simp)]
  have hI : Hid (inl a b = foldR (Dn.wayM (lettersB a) (lettersB b)) (Dn.wayM (lettersB a) (lettersB b)).length ∧ checkI a b = 0) := by
    refine ⟨?_, hck⟩
    unfold inl inlineM
    rw [if_pos hck, foldR_all]
  have l1 := (letters_ok a).2.2
  have l2 := (letters_ok b).2.2
  clear hno n1 n2 hck
  go_wp2_with fail
  refine (refLetters_any a w (by omega)).mono ?_
  rintro e W1 ⟨a1, c1, rfl, o1, b1⟩
  have z1 := b1.size
  go_wp2_with fail
  refine (refLetters_any b W1 (by omega)).mono ?_
  rintro e W2 ⟨a2, c2, rfl, o2, b2⟩
  have z2 := b2.size
  have st1 := Strs.of_owns (owns_below o1 b2 (fun k e => (o1.lt k e).2))
  have st2 := Strs.of_owns o2
  go_wp2_with fail
  refine (way_row st1 st2 (by omega) (by omega)).mono ?_
  rintro e W3 ⟨aw, cw, rfl, ow, b3⟩
  have z3 := b3.size
  have hwl : (Dn.wayM (lettersB a) (lettersB b)).length ≤ 402 := by have := way_len (lettersB a) (lettersB b); omega
  have hS := StepsAt.of_ownsT ow
  have hsz : Hid (∀ s ∈ Dn.wayM (lettersB a) (lettersB b), s.text.size ≤ 200) := by
    intro s hs
    rcases way_text hs with h | h
    · have := letter_size h; omega
    · have := letter_size h; omega
  have hb3 := b1.trans ((b2.mono z1).trans (b3.mono (by omega)))
  have hsteps : Hid (∀ W, Below W3.heap.size W3 W → StepsAt W3.heap.size W (.slice aw (Dn.wayM (lettersB a) (lettersB b)).length cw) (Dn.wayM (lettersB a) (lettersB b))) := fun W hb => hS.below hb
  generalize lettersB a = La at *
  generalize lettersB b = Lb at *
  generalize Dn.wayM La Lb = L at *
  have hz03 : w.heap.size ≤ W3.heap.size := by omega
  clear l1 l2 o1 o2 b1 b2 b3 z1 z2 z3 st1 st2 ow
  go_wp2_with fail
  go_loopg [11, 12] L.length (fun g t11 t12 wk => ∃ (k : Nat) (al : Option Addr) (cl : Nat), g = L.length - k ∧ k ≤ L.length ∧ t12 = .int .i64 k ∧ t11 = .slice al (foldR L k).length cl ∧ wk.ownsRow W3.heap.size 101 2 (.slice al (foldR L k).length cl) (foldR L k).length (stepCells (foldR L k)) ∧ Below W3.heap.size W3 wk)
  case atStart => exact ⟨0, none, 0, by omega, by omega, rfl, rfl, World.ownsRow_nil _ _ _ _, Below.refl _ _⟩
  case round =>
    rename World => wk
    obtain ⟨k, al, cl, hgk, hkl, rfl, rfl, hown, hbk⟩ := hrel
    have hG : Hid (_ = L.length - k) := hgk
    clear hgk
    have hzk := hbk.size
    by_cases hlt : k < L.length
    · have hltI : (k : Int) < L.length := by omega
      obtain ⟨bw, rfl, hbw, x0, x1⟩ := (hsteps.out wk hbk).at hlt
      have hxs : Hid (∀ W, Below W3.heap.size W3 W → W.cell? ⟨bw, k * 2, none⟩ = some (.int .u8 (L[k].kind : Nat)) ∧ W.cell? ⟨bw, k * 2 + 1, none⟩ = some (.string L[k].text)) := fun W hb => by
        obtain ⟨b', e, _, h0, h1⟩ := (hsteps.out W hb).at hlt
        cases e
        exact ⟨h0, h1⟩
      have hpr : Hid (k ≠ 0 → ∃ K1 : Nat, wk.cell? ⟨bw, (k - 1) * 2, none⟩ = some (.int .u8 (K1 : Int)) ∧ newRun L k = decide (K1 ≠ L[k].kind)) := by
        intro h0
        obtain ⟨b', e, _, h1, _⟩ := (hsteps.out wk hbk).at (show k - 1 < L.length by omega)
        cases e
        refine ⟨_, h1, ?_⟩
        unfold newRun
        rw [getD_kind hlt, getD_kind (show k - 1 < L.length by omega)]
        simp [h0]
      have hn0 : Hid (k = 0 → newRun L k = true) := by intro h0; rw [h0]; simp [newRun]
      have hfs : Hid (foldR L (k + 1) = lastTx (if newRun L k = true then foldR L k ++ [⟨L[k].kind, ByteArray.empty⟩] else foldR L k) L[k].text) := by
        show _ = _
        conv => lhs; unfold foldR
        rw [getD_kind hlt]
      have hne : Hid (newRun L k = false → foldR L k ≠ []) := by
        intro h0
        refine foldR_ne L k ?_
        cases k with
        | zero => simp [newRun] at h0
        | succ k => omega
      have hfl := foldR_len L k
      have hTx : L[k].text.size ≤ 200 := hsz.out _ (List.getElem_mem hlt)
      have hRs : Hid (∀ r ∈ foldR L k, r.text.size ≤ k * 200) := foldR_size hsz.out k
      generalize L[k].kind = K at *
      generalize L[k].text = Tx at *
      generalize newRun L k = nr at *
      obtain ⟨R, hRe⟩ : ∃ R, foldR L k = R := ⟨_, rfl⟩
      rw [hRe] at hfs hne hfl hown hRs ⊢
      clear hRe
      obtain ⟨n, hne'⟩ : ∃ n, R.length = n := ⟨_, rfl⟩
      have hnR : Hid (R.length = n) := hne'
      rw [hne'] at hown hfl ⊢
      clear hne'
      go_upto_region 14 with fail
      go_cut [57] (fun s57 wx => s57 = .bool nr ∧ Below W3.heap.size W3 wx ∧ wx.heap = wk.heap)
      case first =>
        by_cases hk0 : k = 0
        · have hk0I : (((k : Nat) : Int) == 0) = true := by rw [hk0]; rfl
          have hnr := hn0.out hk0
          subst hnr
          clear hk0
          go_quiet (fail)
          go_wp2_with fail
          go_meet
          case rel => exact ⟨rfl, Below.drewN' hbk, rfl⟩
        · have hk0I : (((k : Nat) : Int) == 0) = false := by simp; omega
          obtain ⟨K1, c1, e1⟩ := hpr.out hk0
          have c1' : wk.cell? ⟨bw, ((k : Int) - 1).toNat * 2, none⟩ = some (.int .u8 (K1 : Int)) := by rw [show ((k : Int) - 1).toNat = k - 1 by omega]; exact c1
          have hd : Hid (nr = !decide (K1 = K)) := by show _ = _; rw [e1]; simp
          clear e1
          go_quiet (fail)
          go_wp2_with fail
          go_meet
          case rel => exact ⟨by rw [hd.out]; congr 1; rw [Bool.eq_iff_iff]; simp; try omega, Below.drewN' hbk, rfl⟩
      case rest =>
        obtain ⟨rfl, hb4, hh4⟩ := hcut
        obtain ⟨w4, rfl⟩ : ∃ w4, w4 = wc := ⟨_, rfl⟩
        have hown4 : w4.ownsRow W3.heap.size 101 2 (.slice al n cl) n (stepCells R) := owns_same hown fun g _ => by rw [hh4]
        have y0 := (hxs.out w4 hb4).1
        have hz4 := hb4.size
        clear hown x0 x1 hpr hn0 hh4
        go_upto_if 57 with fail
        go_cut [11] (fun s11 wx => ∃ (al' : Option Addr) (cl' : Nat) (R' : List StepB), s11 = .slice al' R'.length cl' ∧ wx.ownsRow W3.heap.size 101 2 (.slice al' R'.length cl') R'.length (stepCells R') ∧ Below W3.heap.size W3 wx ∧ Hid (R' = if nr = true then R ++ [⟨K, ByteArray.empty⟩] else R) ∧ R'.length ≤ 1000)
        case first =>
          cases nr with
          | false =>
            go_wp2_with fail
            go_meet
            case rel => exact ⟨al, cl, R, by rw [hnR.out], by rw [hnR.out]; exact hown4, hb4, by show _ = _; simp, by rw [hnR.out]; omega⟩
          | true =>
            have hon : ∀ u ∈ [Value.int .u8 (K : Int), Value.string ByteArray.empty], u.oneCell' = true := by intro u hu; simp at hu; rcases hu with rfl | rfl <;> rfl
            have hm1 : n + 1 ≤ maxLen := Nat.le_trans (show n + 1 ≤ 1000 by omega) (by decide)
            have hm2 : (n + 1) * 24 ≤ 140737488355328 := by omega
            go_wp2_with (at_builtin; refine wpList_append_own2 rfl (.tmp 58) (.tmp 65) 100 rfl W3.heap.size 101 i0 _ 2 24 Tryz.underlying100 hinf ix0 ix1 ix2 rfl (by decide) (.slice al n cl) n (stepCells R) rfl (hown4.alloc _) ⟨w4.heap.size, 0, none⟩ 1 1 [.int .u8 (K : Int), .string ByteArray.empty] rfl rfl (cells_new w4 _ _) hon hm1 hm2 (by simp; omega) ?_; intro v' w5 hown5 hgr hnew; obtain ⟨al5, cl5, rfl⟩ := owns_isSlice hown5; have hb5 := (hb4.alloc (by omega) _).grown hgr (by simp; omega) (fun j e => by have := (hown4.lt j e).1; omega))
            go_meet
            case rel => exact ⟨al5, cl5, R ++ [⟨K, ByteArray.empty⟩], by rw [List.length_append, hnR.out]; rfl, by rw [List.length_append, hnR.out, stepCells_append]; exact hown5, hb5, by show _ = _; simp, by rw [List.length_append, hnR.out]; show n + 1 ≤ 1000; omega⟩
        case rest =>
          obtain ⟨al', cl', R', rfl, hown5, hb5, hR', hlen⟩ := hcut
          obtain ⟨w5, rfl⟩ : ∃ w5, w5 = wc := ⟨_, rfl⟩
          have hne2 : R' ≠ [] := by
            rw [hR'.out]
            cases nr with
            | true => simp
            | false => simp; exact hne.out rfl
          obtain ⟨init, r, rfl⟩ : ∃ init r, R' = init ++ [r] := ⟨R'.dropLast, R'.getLast hne2, (List.dropLast_concat_getLast hne2).symm⟩
          have hfin : Hid (foldR L (k + 1) = init ++ [⟨r.kind, r.text ++ Tx⟩]) := by
            show _ = _
            rw [hfs.out, ← hR'.out, lastTx_append]
          have hrs : r.text.size ≤ 80400 := by
            have hk4 : k * 200 ≤ 80400 := by omega
            have hm : r ∈ init ++ [r] := by simp
            rw [hR'.out] at hm
            cases nr with
            | true =>
              simp only [if_true] at hm
              rcases List.mem_append.1 hm with h | h
              · exact Nat.le_trans (hRs.out r h) hk4
              · rw [List.mem_singleton] at h; rw [h]; exact Nat.zero_le _
            | false => exact Nat.le_trans (hRs.out r (by simpa using hm)) hk4
          have hcat : ¬ 9223372036854775807 < r.text.size + Tx.size := by omega
          have y1 := (hxs.out w5 hb5).2
          have hz5 := hb5.size
          rw [show (init ++ [r]).length = init.length + 1 by simp] at hown5 hlen ⊢
          obtain ⟨g, rfl, hg, _, r1⟩ := owns_run hown5 (i := init.length) (by simp)
          simp only [last_get] at r1
          obtain ⟨cur, hcur⟩ := owns_block hown5 (g := g) rfl
          have hfz : ∀ k, w5.frozen? ⟨g, k, none⟩ = false := fun k => frozen_of hcur
          have hgW : W3.heap.size ≤ g := (hown5.lt g rfl).1
          have hown6 : Hid (∀ W : World, W.heap = w5.heap → (W.setCell ⟨g, init.length * 2 + 1, none⟩ (.string (r.text ++ Tx))).ownsRow W3.heap.size 101 2 (.slice (some ⟨g, 0, none⟩) (init.length + 1) cl') (init.length + 1) (stepCells (init ++ [⟨r.kind, r.text ++ Tx⟩]))) := fun W hW => owns_setTx (owns_same hown5 fun g _ => by rw [hW]) _
          have hwv : IntKind.i64.wrap (init.length : Int) = init.length := by rw [IntKind.wrap_i64]; omega
          have hix : (init.length : Int) < ((init.length + 1 : Nat) : Int) := by omega
          have hix2 : (init.length : Int) < (init.length : Int) + 1 := by omega
          obtain ⟨p, hp⟩ : ∃ p, init.length = p := ⟨_, rfl⟩
          have hpH : Hid (init.length = p) := hp
          rw [hp] at r1 hown6 hwv hix hix2 hlen ⊢
          have hgb : ¬ g = bw := by omega
          have hgb' : ¬ bw = g := by omega
          have hbw5 : bw < w5.heap.size := by omega
          clear hown5 hown4 hp hne2 hR' hcur y0 hfs hne
          go_wp2_with fail
          go_region
          all_goals
            have hR : ∃ (k' : Nat) (al : Option Addr) (cl : Nat), L.length - (k + 1) = L.length - k' ∧ k' ≤ L.length ∧ Value.int .i64 ((k : Int) + 1) = .int .i64 k' ∧ Value.slice (some ⟨g, 0, none⟩) (p + 1) cl' = .slice al (foldR L k').length cl ∧ ((w5.setCell ⟨g, p * 2 + 1, none⟩ (.string (r.text ++ Tx))).drew).ownsRow W3.heap.size 101 2 (.slice al (foldR L k').length cl) (foldR L k').length (stepCells (foldR L k')) ∧ Below W3.heap.size W3 ((w5.setCell ⟨g, p * 2 + 1, none⟩ (.string (r.text ++ Tx))).drew) := by
              have hl : (foldR L (k + 1)).length = p + 1 := by rw [hfin.out, List.length_append, hpH.out]; rfl
              refine ⟨k + 1, some ⟨g, 0, none⟩, cl', rfl, by omega, by push_cast; rfl, by rw [hl], ?_, (hb5.setCell (p := ⟨g, p * 2 + 1, none⟩) hgW _).drew⟩
              rw [hl, hfin.out]
              exact hown6.out w5 rfl
            have hRH : Hid _ := hR
            clear hR hown6 hfin
            go_wp2_with fail
            go_roundg (L.length - (k + 1))
            · exact hRH.out
            · have := hG.out; omega
    · obtain rfl : k = L.length := by omega
      have hltI : ¬ ((L.length : Int) < L.length) := by omega
      have hR : ∃ al' cl', Ending.returned (.tuple #[.slice al (foldR L L.length).length cl, .int .i64 0]) = Ending.returned (.tuple #[.slice al' (inl a b).length cl', .int .i64 (checkI a b : Nat)]) ∧ wk.ownsRow w.heap.size 101 2 (.slice al' (inl a b).length cl') (inl a b).length (stepCells (inl a b)) ∧ Below w.heap.size w wk := by
        rw [hI.out.1, hI.out.2]
        exact ⟨al, cl, rfl, owns_mono hown hz03, hb3.trans (hbk.mono hz03)⟩
      have hRH : Hid _ := hR
      clear hR hown
      generalize foldR L L.length = FR at *
      go_wp2_with fail
      go_ret2
      exact hRH.out
end Go.Proofs.YtcclgodahlinbaaGreatDoor
namespace Go.Proofs.YtcclgodahlinbaaGreatDoor
open Go.RowKit Go
set_option maxRecDepth 100000
theorem HSo.same {base : Nat} {v : Value} {hv : List HV} {w w' : World} (h : HSo base v hv w) (hs : ∀ g, g < w.heap.size → w'.heap[g]? = w.heap[g]?) : HSo base v hv w' := by
  rcases h with h | ⟨g, cap, e, hb, s⟩
  · exact .inl h
  · exact .inr ⟨g, cap, e, hb, s.len, owns_same s.row fun k hk => hs k (s.row.lt k hk).2, fun p hp => owns_same (s.lines p hp) fun k hk => hs k ((s.lines p hp).lt k hk).2, s.apart⟩
structure Room (M : Nat) (x : WV) (B : Bk) : Prop where
  c : x.c ≤ M
  h : B.h.length ≤ M
  l : B.l.length ≤ M
  s : B.s.length ≤ M
  r : B.r.length ≤ M
set_option maxHeartbeats 4000000 in
theorem diffs_ok {base wb M : Nat} {x : WV} {B : Bk} {w : World} {kd n m : Int} {a b : ByteArray} {ap : Option Addr} {np cp : Nat} (K : Kept base wb x B w) (R : Room M x B) (hM : M ≤ 600000000000) (hm : w.cell? ⟨0, 0, none⟩ = some (.int .i64 m)) (hbase : base ≤ w.heap.size)
    (h1 : a.size ≤ 4000000000) (h2 : b.size ≤ 4000000000) :
    Calls Tryz.prog 40 #[.pointer (some ⟨wb, 0, none⟩), .agg #[.int .i64 kd, .int .i64 n, .string a, .string b, .slice ap np cp]] w fun e w' => e = .returned (.bool true) ∧ ∃ (x' : WV) (B' : Bk), Kept base wb x' B' w' ∧ Room (M + 2000) x' B' ∧ Frame base w w' (fun _ => False) := by
  have hmlt := World.block_lt_of_cell? _ _ hm
  have hck := checkB_range a b n
  obtain ⟨W0, hW0⟩ : ∃ W0, w.alloc (.cells #[.int .i64 kd, .int .i64 n, .string a, .string b, .slice ap np cp] 57) = W0 := ⟨_, rfl⟩
  have b0 : Below w.heap.size w W0 := by rw [← hW0]; exact (Below.refl _ _).alloc (Nat.le_refl _) _
  have z0 : W0.heap.size = w.heap.size + 1 := by rw [← hW0]; simp
  have hO0 : W0.heap[w.heap.size]? = some (.cells #[.int .i64 kd, .int .i64 n, .string a, .string b, .slice ap np cp] 57 (0, 0)) := by rw [← hW0]; exact heap_alloc_new w _
  have hm0 : W0.cell? ⟨0, 0, none⟩ = some (.int .i64 m) := (b0.cell (p := ⟨0, 0, none⟩) hmlt).trans hm
  have o1 : W0.cell? ⟨w.heap.size, 1, none⟩ = some (.int .i64 n) := cell_of hO0 rfl
  have o2 : W0.cell? ⟨w.heap.size, 2, none⟩ = some (.string a) := cell_of hO0 rfl
  have o3 : W0.cell? ⟨w.heap.size, 3, none⟩ = some (.string b) := cell_of hO0 rfl
  have hsm := diffR_small a b n
  go_enter Tryz.func40, Tryz.ntmps40
  go_wp2_with fail
  clear hW0
  refine (diff_any (a := a) (b := b) (c := n) (m := m) (Nat.lt_of_le_of_lt h1 (by decide)) (Nat.lt_of_le_of_lt h2 (by decide)) hm0).mono ?_
  rintro e W1 ⟨al, cl, hv, rfl, hso, hmap, b1⟩
  have z1 := b1.size
  have b1' := b1.alloc b1.size (.cells #[.slice al hv.length cl] 32)
  have hP2 := heap_alloc_new W1 (.cells #[.slice al hv.length cl] 32)
  have z2 : (W1.alloc (.cells #[.slice al hv.length cl] 32)).heap.size = W1.heap.size + 1 := by simp
  have hso2 := hso.alloc (.cells #[.slice al hv.length cl] 32)
  have hO2 := (b1'.block w.heap.size (by omega)).trans hO0
  have p1 : (W1.alloc (.cells #[.slice al hv.length cl] 32)).cell? ⟨w.heap.size, 1, none⟩ = some (.int .i64 n) := cell_of hO2 rfl
  have p2 : (W1.alloc (.cells #[.slice al hv.length cl] 32)).cell? ⟨w.heap.size, 2, none⟩ = some (.string a) := cell_of hO2 rfl
  have p3 : (W1.alloc (.cells #[.slice al hv.length cl] 32)).cell? ⟨w.heap.size, 3, none⟩ = some (.string b) := cell_of hO2 rfl
  have hvl : Hid (hv.length = (diffR a b n).length) := by show _ = _; rw [← hmap, List.length_map]
  have hmapH : Hid (hv.map (·.1) = diffR a b n) := hmap
  obtain ⟨N, hN⟩ : ∃ N, hv.length = N := ⟨_, rfl⟩
  have hNH : Hid (hv.length = N) := hN
  rw [hN] at b1' hP2 z2 hso2 p1 p2 p3 ⊢
  clear o1 o2 o3 hmap hN hso
  go_wp2_with fail
  generalize W1.alloc (.cells #[.slice al N cl] 32) = W2 at *
  refine (refDiff_any (a := a) (b := b) (c := n) (w := W2) h1 h2).mono ?_
  rintro e W3 ⟨aq, cq, rfl, hq, b3⟩
  have z3 := b3.size
  have hqn : (diffR a b n).length = N := by rw [← hvl.out, hNH.out]
  rw [hqn] at hq ⊢
  have b3' := b3.alloc b3.size (.cells #[.slice aq N cq] 32)
  have hQ4 := heap_alloc_new W3 (.cells #[.slice aq N cq] 32)
  have z4 : (W3.alloc (.cells #[.slice aq N cq] 32)).heap.size = W3.heap.size + 1 := by simp
  have hq4 := (hq.below ((Below.refl W3.heap.size W3).alloc (Nat.le_refl _) (.cells #[.slice aq N cq] 32))).mono (show W3.heap.size ≤ (W3.alloc (.cells #[.slice aq N cq] 32)).heap.size by simp)
  have hP4 := (b3'.block W1.heap.size (by omega)).trans hP2
  have hso4 := hso2.same (w' := W3.alloc (.cells #[.slice aq N cq] 32)) fun g hg => b3'.block g hg
  have r1 : (W3.alloc (.cells #[.slice aq N cq] 32)).cell? ⟨W1.heap.size, 0, none⟩ = some (.slice al N cl) := cell_of hP4 rfl
  have r2 : (W3.alloc (.cells #[.slice aq N cq] 32)).cell? ⟨W3.heap.size, 0, none⟩ = some (.slice aq N cq) := cell_of hQ4 rfl
  clear p1 p2 p3 hq
  go_wp2_with fail
  generalize W3.alloc (.cells #[.slice aq N cq] 32) = W4 at *
  have hA := HunksAt.of_owns hso4
  rw [hmapH.out] at hA
  have hcall := lsame_yes (hs := diffR a b n) (a := al) (b := aq) (ca := cl) (cb := cq) (w := W4) (by rw [hqn]; exact hA) (by rw [hqn]; exact hq4) (Nat.le_trans hsm.1 (by decide)) (fun h hh => Nat.le_trans (hsm.2 h hh) (by decide))
  rw [hqn] at hcall
  refine hcall.mono ?_
  rintro e W5 ⟨rfl, b5⟩
  have z5 := b5.size
  clear hcall hA hq4 hQ4 r1 r2
  have hP5 := (b5.block W1.heap.size (by omega)).trans hP4
  have s1 : W5.cell? ⟨W1.heap.size, 0, none⟩ = some (.slice al N cl) := cell_of hP5 rfl
  have hbAll : Below w.heap.size w W5 := b0.trans ((b1'.mono (by omega)).trans ((b3'.mono (by omega)).trans (b5.mono (by omega))))
  have hso5 := hso4.same (w' := W5) fun g hg => b5.block g hg
  have K5 := K.old (W' := W5) fun g hg => hbAll.block g hg
  have hzw := hbAll.size
  have hpc : Hid (Calls Tryz.prog 82 #[.pointer (some ⟨wb, 0, none⟩), .agg #[.slice al N cl]] W5 fun e w' => e = .returned (.tuple #[]) ∧ ∃ (x' : WV) (B' : Bk), Kept base wb x' B' w' ∧ Room (M + 2000) x' B' ∧ Frame base w w' (fun _ => False)) := by
    have hNl : N ≤ 402 := by rw [← hqn]; exact hsm.1
    have hmem : ∀ p ∈ hv, p.1.lines.length ≤ 402 := fun p hp => hsm.2 p.1 (by rw [← hmapH.out]; exact List.mem_map_of_mem hp)
    have hc := patch_ok (bl := W0.heap.size) (al := al) (cl := cl) (hv := hv) K5 (by rw [hNH.out]; exact hso5) (by rw [hNH.out]; omega) (fun p hp => Nat.le_trans (hmem p hp) (by decide)) (fun p hp g e => by have := ((K.l.ok p hp).lt g e).1; omega) (fun p hp g e => by have := ((K.h.ok p hp).lt g e).1; omega) (by omega) (by omega) (by have := R.c; omega) (by have := R.l; omega) (by have := R.h; omega)
    rw [hNH.out] at hc
    refine hc.mono ?_
    rintro e w' ⟨rfl, x', B', k1, k2, k3, k4, k5, k6, k7⟩
    refine ⟨rfl, x', B', k1, ⟨?_, ?_, ?_, ?_, ?_⟩, ⟨?_, fun g hg => ?_, (Outs.of_below hbAll).trans k7.2.2⟩⟩
    · have := R.c; rw [k6]; omega
    · have := R.h; rw [k4]; omega
    · have := R.l; rw [k5]; omega
    · have := R.s; rw [k2]; omega
    · have := R.r; rw [k3]; omega
    · have := k7.1; omega
    · have e1 := hbAll.block g hg
      rcases k7.2.1 g (by omega) with e | e | e
      · exact .inl (e.trans e1)
      · omega
      · rw [e1] at e; exact .inr (.inr e)
  have e0 : ∀ x : Int, (x == x) = true := by simp
  generalize checkB a b n = ck at *
  clear K5 hso5 hso4 hso2 hP5 hP4 hP2 K b0 b1 b1' b3 b3' b5 hO0 hO2 hsm
  go_wp2_with fail
  refine hpc.out.mono ?_
  rintro e W6 ⟨rfl, hR⟩
  have hRH : Hid _ := hR
  clear hR hpc
  go_wp2_with fail
  go_ret
  exact ⟨by first | rfl | simp, hRH.out⟩
end Go.Proofs.YtcclgodahlinbaaGreatDoor
namespace Go.Proofs.YtcclgodahlinbaaGreatDoor
open Go.RowKit Go
set_option maxRecDepth 100000
theorem inl_small (a b : ByteArray) : (inl a b).length ≤ 402 := by
  unfold inl
  by_cases h : checkI a b = 0
  · rw [if_pos h]
    unfold inlineM
    rw [← foldR_all]
    have hsz : a.size ≤ 200 ∧ b.size ≤ 200 := by
      unfold checkI at h
      split at h
      · cases h
      · omega
    have l1 := (letters_ok a).2.2
    have l2 := (letters_ok b).2.2
    have hw := way_len (lettersB a) (lettersB b)
    have := foldR_len (Dn.wayM (lettersB a) (lettersB b)) (Dn.wayM (lettersB a) (lettersB b)).length
    omega
  · rw [if_neg h]
    exact Nat.zero_le _
theorem checkI_range (a b : ByteArray) : checkI a b ≤ 3 := by
  unfold checkI
  repeat' split
  all_goals omega
set_option maxHeartbeats 4000000 in
theorem inlines_ok {base wb M : Nat} {x : WV} {B : Bk} {w : World} {kd n : Int} {a b : ByteArray} {ap : Option Addr} {np cp : Nat} (K : Kept base wb x B w) (R : Room M x B) (hM : M ≤ 600000000000) (hbase : base ≤ w.heap.size)
    (h1 : a.size ≤ 4000000000) (h2 : b.size ≤ 4000000000) :
    Calls Tryz.prog 41 #[.pointer (some ⟨wb, 0, none⟩), .agg #[.int .i64 kd, .int .i64 n, .string a, .string b, .slice ap np cp]] w fun e w' => e = .returned (.bool true) ∧ ∃ (x' : WV) (B' : Bk), Kept base wb x' B' w' ∧ Room (M + 2000) x' B' ∧ Frame base w w' (fun _ => False) := by
  have hck := checkI_range a b
  obtain ⟨W0, hW0⟩ : ∃ W0, w.alloc (.cells #[.int .i64 kd, .int .i64 n, .string a, .string b, .slice ap np cp] 57) = W0 := ⟨_, rfl⟩
  have b0 : Below w.heap.size w W0 := by rw [← hW0]; exact (Below.refl _ _).alloc (Nat.le_refl _) _
  have z0 : W0.heap.size = w.heap.size + 1 := by rw [← hW0]; simp
  have hO0 : W0.heap[w.heap.size]? = some (.cells #[.int .i64 kd, .int .i64 n, .string a, .string b, .slice ap np cp] 57 (0, 0)) := by rw [← hW0]; exact heap_alloc_new w _
  have o2 : W0.cell? ⟨w.heap.size, 2, none⟩ = some (.string a) := cell_of hO0 rfl
  have o3 : W0.cell? ⟨w.heap.size, 3, none⟩ = some (.string b) := cell_of hO0 rfl
  have hsm := inl_small a b
  have hc1 := inline_any a b W0
  have hc2 : Hid (∀ W : World, Calls Tryz.prog 84 #[.string a, .string b] W fun e w' => ∃ al cl, e = .returned (.tuple #[.slice al (inl a b).length cl, .int .i64 (checkI a b : Nat)]) ∧ w'.ownsRow W.heap.size 101 2 (.slice al (inl a b).length cl) (inl a b).length (stepCells (inl a b)) ∧ Below W.heap.size W w') := fun W => refInline_any a b W h1 h2
  generalize checkI a b = ck at *
  generalize inl a b = RS at *
  go_enter Tryz.func41, Tryz.ntmps41
  go_wp2_with fail
  clear hW0
  refine hc1.mono ?_
  rintro e W1 ⟨al, cl, rfl, ow1, b1⟩
  have z1 := b1.size
  have hO1 := (b1.block w.heap.size (by omega)).trans hO0
  have p2 : W1.cell? ⟨w.heap.size, 2, none⟩ = some (.string a) := cell_of hO1 rfl
  have p3 : W1.cell? ⟨w.heap.size, 3, none⟩ = some (.string b) := cell_of hO1 rfl
  clear o2 o3 hO0 hc1
  go_wp2_with fail
  refine (hc2.out W1).mono ?_
  rintro e W2 ⟨am, cm, rfl, ow2, b2⟩
  have z2 := b2.size
  have ow12 := owns_below ow1 b2 (fun k e => (ow1.lt k e).2)
  have hbAll : Below w.heap.size w W2 := b0.trans ((b1.mono (by omega)).trans (b2.mono (by omega)))
  have e0 : ∀ x : Int, (x == x) = true := by simp
  have e1 : ∀ x : ByteArray, (x.toList == x.toList) = true := by simp
  obtain ⟨N, hN⟩ : ∃ N, RS.length = N := ⟨_, rfl⟩
  have hNH : Hid (RS.length = N) := hN
  have hrun1 : Hid (∀ W, Below W2.heap.size W2 W → ∀ i (hi : i < RS.length), ∃ g, al = some ⟨g, 0, none⟩ ∧ g < W2.heap.size ∧ W.cell? ⟨g, i * 2, none⟩ = some (.int .u8 (RS[i].kind : Nat)) ∧ W.cell? ⟨g, i * 2 + 1, none⟩ = some (.string RS[i].text)) := fun W hb i hi => by
    obtain ⟨g, e, hg, q0, q1⟩ := owns_run ow12 hi
    exact ⟨g, e, hg, (hb.cell (p := ⟨g, i * 2, none⟩) hg).trans q0, (hb.cell (p := ⟨g, i * 2 + 1, none⟩) hg).trans q1⟩
  have hrun2 : Hid (∀ W, Below W2.heap.size W2 W → ∀ i (hi : i < RS.length), ∃ g, am = some ⟨g, 0, none⟩ ∧ g < W2.heap.size ∧ W.cell? ⟨g, i * 2, none⟩ = some (.int .u8 (RS[i].kind : Nat)) ∧ W.cell? ⟨g, i * 2 + 1, none⟩ = some (.string RS[i].text)) := fun W hb i hi => by
    obtain ⟨g, e, hg, q0, q1⟩ := owns_run ow2 hi
    exact ⟨g, e, hg, (hb.cell (p := ⟨g, i * 2, none⟩) hg).trans q0, (hb.cell (p := ⟨g, i * 2 + 1, none⟩) hg).trans q1⟩
  rw [hN] at ow12 hsm ⊢
  clear hN p2 p3 ow1 ow2 hO1
  go_wp2_with fail
  go_loopg [9, 10] N (fun g t9 t10 wi => ∃ k : Nat, g = N - k ∧ k ≤ N ∧ t9 = .bool true ∧ t10 = .int .i64 k ∧ Below W2.heap.size W2 wi)
  case atStart => exact ⟨0, by omega, by omega, by first | rfl | simp, rfl, Below.refl _ _⟩
  case round =>
    rename World => wi
    obtain ⟨k, hgk, hkN, rfl, rfl, hbi⟩ := hrel
    have hG : Hid (_ = N - k) := hgk
    clear hgk
    by_cases hk : k < N
    · have hkI : (k : Int) < N := by omega
      have hk' : k < RS.length := by rw [hNH.out]; exact hk
      obtain ⟨g1, rfl, hg1, c0, c1⟩ := hrun1.out wi hbi k hk'
      obtain ⟨g2, rfl, hg2, d0, d1⟩ := hrun2.out wi hbi k hk'
      generalize RS[k].kind = Kk at *
      generalize RS[k].text = Tk at *
      go_wp2_with fail
      go_quiet (fail)
      go_wp2_with fail
      go_roundg (N - (k + 1))
      · exact ⟨k + 1, rfl, by omega, by first | rfl | simp, by push_cast; rfl, Below.drewN' hbi⟩
      · have := hG.out; omega
    · have hkI : ¬ ((k : Int) < N) := by omega
      have hbw : Below w.heap.size w wi := hbAll.trans (hbi.mono (by omega))
      have Ki := K.old (W' := wi) fun g hg => hbw.block g hg
      have hzw := hbw.size
      have hzi := hbi.size
      have hpc : Hid (Calls Tryz.prog 85 #[.pointer (some ⟨wb, 0, none⟩), .slice al N cl] wi fun e w' => e = .returned (.tuple #[]) ∧ ∃ (x' : WV) (B' : Bk), Kept base wb x' B' w' ∧ Room (M + 2000) x' B' ∧ Frame base w w' (fun _ => False)) := by
        have hrow : wi.ownsRow W0.heap.size 101 2 (.slice al N cl) N (stepCells RS) := owns_same ow12 fun g hg => hbi.block g (ow12.lt g hg).2
        refine (runsOf_ok (bl := W0.heap.size) Ki hrow (by omega) (fun p hp => ?_) (by omega) (by omega) (by have := R.c; omega) (by have := R.r; omega)).mono ?_
        · cases hq : p.1.ownBlock with
          | none => exact .inl rfl
          | some g =>
            right
            intro e
            have q1 := ((K.r.ok p hp).lt g hq).1
            have q2 := (hrow.lt g e.symm).1
            omega
        rintro e w' ⟨rfl, x', E, k1, k2, k3, k4, k5⟩
        refine ⟨rfl, x', _, k1, ⟨?_, ?_, ?_, ?_, ?_⟩, ⟨?_, fun g hg => ?_, (Outs.of_below hbw).trans k5.2.2⟩⟩
        · have := R.c; rw [k3]; omega
        · have := R.h; show B.h.length ≤ _; omega
        · have := R.l; show B.l.length ≤ _; omega
        · have := R.s; show B.s.length ≤ _; omega
        · have := R.r; show (B.r ++ E).length ≤ _; rw [List.length_append, k2]; omega
        · have := k5.1; omega
        · have q1 := hbw.block g hg
          rcases k5.2.1 g (by omega) with e | e | e
          · exact .inl (e.trans q1)
          · have := (hrow.lt g e.symm).1; omega
          · rw [q1] at e; exact .inr (.inr e)
      clear Ki K ow12 hrun1 hrun2 b0 b1 b2 hbAll
      go_wp2_with fail
      refine hpc.out.mono ?_
      rintro e W6 ⟨rfl, hR⟩
      have hRH : Hid _ := hR
      clear hR hpc
      go_wp2_with fail
      go_ret
      exact ⟨by first | rfl | simp, hRH.out⟩
end Go.Proofs.YtcclgodahlinbaaGreatDoor
namespace Go.Proofs.YtcclgodahlinbaaGreatDoor
open Go.RowKit Go
set_option maxRecDepth 100000
theorem cell_row {W : World} {g o t : Nat} {cur : Array Value} {fr : Nat × Nat} (h : W.heap[g]? = some (.cells cur t fr)) : W.cell? ⟨g, o, none⟩ = cur[o]? := by
  cases hc : cur[o]? with
  | some v => exact cell_of h hc
  | none => simp [World.cell?, h, hc]
theorem KeptK.look {base rowT markT T k : Nat} {pat : Value → List Value} {v vm : Value} {E : List (Value × Value)} {W : World} (K : KeptK base rowT markT T k pat v vm E W) :
    ∃ a c a' c', v = .slice a E.length c ∧ vm = .slice a' E.length c' ∧ ∀ i, i < E.length → ∃ g g' al n cl mv, a = some ⟨g, 0, none⟩ ∧ a' = some ⟨g', 0, none⟩ ∧ n ≤ 2000000 ∧ MarkV markT mv ∧ (∀ W', Below W.heap.size W W' → W'.cell? ⟨g, i, none⟩ = some (.slice al n cl) ∧ W'.cell? ⟨g', i, none⟩ = some mv) ∧
      ∀ j, j < n → ∃ b, al = some ⟨b, 0, none⟩ ∧ b < W.heap.size ∧ ∀ W', Below W.heap.size W W' → ∀ t, t < k → W'.cell? ⟨b, j * k + t, none⟩ = (pat mv)[t]? := by
  obtain ⟨a, c, e1⟩ := owns_isSlice K.row
  obtain ⟨a', c', e2⟩ := owns_isSlice K.marks
  refine ⟨a, c, a', c', e1, e2, fun i hi => ?_⟩
  have r1 := K.row
  have r2 := K.marks
  rw [e1] at r1
  rw [e2] at r2
  obtain ⟨g, _, e3, _, hg, _⟩ := owns_slice r1 (by omega)
  obtain ⟨g', _, e4, _, hg', _⟩ := owns_slice r2 (by omega)
  have hag : a = some ⟨g, 0, none⟩ := by cases e3; rfl
  have hag' : a' = some ⟨g', 0, none⟩ := by cases e4; rfl
  subst hag
  subst hag'
  have c1 := r1.cellAt i (by omega)
  have c2 := r2.cellAt i (by omega)
  have hi1 : i < (E.map (·.1)).length := by simpa using hi
  have hi2 : i < (E.map (·.2)).length := by simpa using hi
  rw [List.getElem?_eq_getElem hi1, List.getElem_map] at c1
  rw [List.getElem?_eq_getElem hi2, List.getElem_map] at c2
  obtain ⟨al, n, cl, e5, hn, hM⟩ := K.ok E[i] (List.getElem_mem hi)
  rw [e5] at c1
  refine ⟨g, g', al, n, cl, E[i].2, rfl, rfl, hn, K.mv E[i] (List.getElem_mem hi), fun W' hb => ⟨(hb.cell (p := ⟨g, i, none⟩) hg).trans c1, (hb.cell (p := ⟨g', i, none⟩) hg').trans c2⟩, fun j hj => ?_⟩
  rcases hM with ⟨h0, _⟩ | ⟨b, cur, fr, rfl, hbb, hc⟩
  · omega
  · have hlt := (Array.getElem?_eq_some_iff.1 hbb).1
    refine ⟨b, rfl, hlt, fun W2 hb2 t ht => ?_⟩
    rw [← hc j hj t ht, hb2.cell (p := ⟨b, j * k + t, none⟩) hlt]
    exact cell_row hbb
set_option maxHeartbeats 16000000 in
theorem still_ok {base wb : Nat} {x : WV} {B : Bk} {w : World} (K : Kept base wb x B w) (lh : B.h.length ≤ 900000000000) (ll : B.l.length ≤ 900000000000) (ls : B.s.length ≤ 900000000000) (lr : B.r.length ≤ 900000000000) :
    Calls Tryz.prog 22 #[.pointer (some ⟨wb, 0, none⟩)] w fun e w' => e = .returned (.bool true) ∧ Below w.heap.size w w' := by
  have hwb : wb < w.heap.size := (Array.getElem?_eq_some_iff.1 K.blk).1
  have hx : Hid (∀ W, Below w.heap.size w W → W.heap[wb]? = some x.obj) := fun W hb => (hb.block wb hwb).trans K.blk
  obtain ⟨ah, ch, ah', ch', eh, ehm, Lh⟩ := K.h.look
  obtain ⟨al, cl, al', cl', el, elm, Ll⟩ := K.l.look
  obtain ⟨aS, cs, aS', cs', es, esm, Ls⟩ := K.s.look
  obtain ⟨ar, cr, ar', cr', er, erm, Lr⟩ := K.r.look
  have Lh : Hid _ := Lh
  have Ll : Hid _ := Ll
  have Ls : Hid _ := Ls
  have Lr : Hid _ := Lr
  have hcell : Hid (∀ W, Below w.heap.size w W → W.cell? ⟨wb, 0, none⟩ = some (.slice ah B.h.length ch) ∧ W.cell? ⟨wb, 1, none⟩ = some (.slice ah' B.h.length ch') ∧ W.cell? ⟨wb, 2, none⟩ = some (.slice al B.l.length cl) ∧ W.cell? ⟨wb, 3, none⟩ = some (.slice al' B.l.length cl') ∧ W.cell? ⟨wb, 4, none⟩ = some (.slice aS B.s.length cs) ∧ W.cell? ⟨wb, 5, none⟩ = some (.slice aS' B.s.length cs') ∧ W.cell? ⟨wb, 6, none⟩ = some (.slice ar B.r.length cr) ∧ W.cell? ⟨wb, 7, none⟩ = some (.slice ar' B.r.length cr')) := by
    intro W hb
    have h := hx.out W hb
    rw [← eh, ← ehm, ← el, ← elm, ← es, ← esm, ← er, ← erm]
    exact ⟨cell_of h rfl, cell_of h rfl, cell_of h rfl, cell_of h rfl, cell_of h rfl, cell_of h rfl, cell_of h rfl, cell_of h rfl⟩
  have nh : Hid (B.h.length = B.h.length) := rfl
  generalize B.h.length = Nh at *
  generalize B.l.length = Nl at *
  generalize B.s.length = Ns at *
  generalize B.r.length = Nr at *
  clear K hx eh ehm el elm es esm er erm nh
  have e0 : ∀ x : Int, (x != x) = false := by simp
  have e1 : ∀ x : ByteArray, (x.toList == x.toList) = true := by simp
  go_enter Tryz.func22, Tryz.ntmps22
  go_wp2_with fail
  go_loopg [3] Nh (fun g t wr => ∃ i : Nat, g = Nh - i ∧ i ≤ Nh ∧ t = .int .i64 i ∧ Below w.heap.size w wr)
  case atStart => exact ⟨0, by omega, by omega, rfl, Below.refl _ _⟩
  case round =>
    rename World => wr
    obtain ⟨i, hgi, hiN, rfl, hbr⟩ := hrel
    have hG : Hid (_ = Nh - i) := hgi
    clear hgi
    have hc := hcell.out wr hbr
    have p0 := hc.1
    clear hc
    by_cases hi : i < Nh
    · have hiI : (i : Int) < Nh := by omega
      obtain ⟨g, g', ae, n, ce, mv, rfl, rfl, hn, hmv, hd, hel⟩ := Lh.out i hi
      have hd : Hid _ := hd
      have hel : Hid _ := hel
      obtain ⟨d0, d1⟩ := hd.out wr hbr
      obtain ⟨c, hcb, rfl⟩ := hmv.1 rfl
      clear hmv
      go_wp2_with fail
      go_loopg [4] n (fun g t wi => ∃ k : Nat, g = n - k ∧ k ≤ n ∧ t = .int .i64 k ∧ Below w.heap.size w wi)
      case atStart => exact ⟨0, by omega, by omega, rfl, hbr⟩
      case round =>
        rename World => wi
        obtain ⟨k, hgk, hkn, rfl, hbi⟩ := hrel
        have hGk : Hid (_ = n - k) := hgk
        clear hgk p0 d0 d1
        have hc := hcell.out wi hbi
        have p0 := hc.1
        have p1 := hc.2.1
        clear hc
        obtain ⟨d0, d1⟩ := hd.out wi hbi
        have hzi := hbi.size
        by_cases hk : k < n
        · have hkI : (k : Int) < n := by omega
          obtain ⟨b, rfl, hb, hcl⟩ := hel.out k hk
          have c0 : wi.cell? ⟨b, k * 5, none⟩ = some (.int .i64 (-(c : Int))) := hcl wi hbi 0 (by decide)
          have c1 : wi.cell? ⟨b, k * 5 + 1, none⟩ = some (.int .i64 0) := hcl wi hbi 1 (by decide)
          have c2 : wi.cell? ⟨b, k * 5 + 2, none⟩ = some (.int .i64 (c : Int)) := hcl wi hbi 2 (by decide)
          have c3 : wi.cell? ⟨b, k * 5 + 3, none⟩ = some (.int .i64 0) := hcl wi hbi 3 (by decide)
          have c4 : wi.cell? ⟨b, k * 5 + 4, none⟩ = some (.slice none 0 0) := hcl wi hbi 4 (by decide)
          clear hcl
          have hbU := hbi.alloc hzi (Obj.cells #[.int .i64 (-(c : Int)), .int .i64 0, .int .i64 (c : Int), .int .i64 0, .slice none 0 0] 61)
          have hX := heap_alloc_new wi (Obj.cells #[.int .i64 (-(c : Int)), .int .i64 0, .int .i64 (c : Int), .int .i64 0, .slice none 0 0] 61)
          have hcU := hcell.out (wi.alloc (Obj.cells #[.int .i64 (-(c : Int)), .int .i64 0, .int .i64 (c : Int), .int .i64 0, .slice none 0 0] 61)) hbU
          have u1 := hcU.2.1
          obtain ⟨_, v1⟩ := hd.out (wi.alloc (Obj.cells #[.int .i64 (-(c : Int)), .int .i64 0, .int .i64 (c : Int), .int .i64 0, .slice none 0 0] 61)) hbU
          have z0 : (wi.alloc (Obj.cells #[.int .i64 (-(c : Int)), .int .i64 0, .int .i64 (c : Int), .int .i64 0, .slice none 0 0] 61)).cell? ⟨wi.heap.size, 0, none⟩ = some (.int .i64 (-(c : Int))) := cell_of hX rfl
          have z1 : (wi.alloc (Obj.cells #[.int .i64 (-(c : Int)), .int .i64 0, .int .i64 (c : Int), .int .i64 0, .slice none 0 0] 61)).cell? ⟨wi.heap.size, 1, none⟩ = some (.int .i64 0) := cell_of hX rfl
          have z2 : (wi.alloc (Obj.cells #[.int .i64 (-(c : Int)), .int .i64 0, .int .i64 (c : Int), .int .i64 0, .slice none 0 0] 61)).cell? ⟨wi.heap.size, 2, none⟩ = some (.int .i64 (c : Int)) := cell_of hX rfl
          have z3 : (wi.alloc (Obj.cells #[.int .i64 (-(c : Int)), .int .i64 0, .int .i64 (c : Int), .int .i64 0, .slice none 0 0] 61)).cell? ⟨wi.heap.size, 3, none⟩ = some (.int .i64 0) := cell_of hX rfl
          have z4 : (wi.alloc (Obj.cells #[.int .i64 (-(c : Int)), .int .i64 0, .int .i64 (c : Int), .int .i64 0, .slice none 0 0] 61)).cell? ⟨wi.heap.size, 4, none⟩ = some (.slice none 0 0) := cell_of hX rfl
          clear hX hcU
          go_wp2_with fail
          generalize wi.alloc (Obj.cells #[.int .i64 (-(c : Int)), .int .i64 0, .int .i64 (c : Int), .int .i64 0, .slice none 0 0] 61) = U at *
          clear p0 p1 d0 d1 c0 c1 c2 c3 c4
          go_quiet (fail)
          go_wp2_with fail
          go_roundg (n - (k + 1))
          · exact ⟨k + 1, rfl, by omega, by push_cast; rfl, Below.drewN' hbU⟩
          · have := hGk.out; omega
        · have hkI : ¬ ((k : Int) < n) := by omega
          go_wp2_with fail
          go_roundg (Nh - (i + 1))
          · exact ⟨i + 1, rfl, by omega, by push_cast; rfl, hbi⟩
          · have := hG.out; omega
    · have hiI : ¬ ((i : Int) < Nh) := by omega
      go_wp2_with fail
      go_loopg [6] Nl (fun g t wr => ∃ i : Nat, g = Nl - i ∧ i ≤ Nl ∧ t = .int .i64 i ∧ Below w.heap.size w wr)
      case atStart => exact ⟨0, by omega, by omega, rfl, hbr⟩
      case round =>
        rename World => wr
        obtain ⟨i, hgi, hiN, rfl, hbr⟩ := hrel
        have hG : Hid (_ = Nl - i) := hgi
        clear hgi
        have hc := hcell.out wr hbr
        have p0 := hc.2.2.1
        clear hc
        by_cases hi : i < Nl
        · have hiI : (i : Int) < Nl := by omega
          obtain ⟨g, g', ae, n, ce, mv, rfl, rfl, hn, hmv, hd, hel⟩ := Ll.out i hi
          have hd : Hid _ := hd
          have hel : Hid _ := hel
          obtain ⟨d0, d1⟩ := hd.out wr hbr
          obtain ⟨t, rfl⟩ := hmv.2 rfl
          clear hmv
          go_wp2_with fail
          go_loopg [7] n (fun g t wi => ∃ k : Nat, g = n - k ∧ k ≤ n ∧ t = .int .i64 k ∧ Below w.heap.size w wi)
          case atStart => exact ⟨0, by omega, by omega, rfl, hbr⟩
          case round =>
            rename World => wi
            obtain ⟨k, hgk, hkn, rfl, hbi⟩ := hrel
            have hGk : Hid (_ = n - k) := hgk
            clear hgk p0 d0 d1
            have hc := hcell.out wi hbi
            have p0 := hc.2.2.1
            have p1 := hc.2.2.2.1
            clear hc
            obtain ⟨d0, d1⟩ := hd.out wi hbi
            have hzi := hbi.size
            by_cases hk : k < n
            · have hkI : (k : Int) < n := by omega
              obtain ⟨b, rfl, hb, hcl⟩ := hel.out k hk
              have c0 : wi.cell? ⟨b, k * 2, none⟩ = some (.int .u8 63) := hcl wi hbi 0 (by decide)
              have c1 : wi.cell? ⟨b, k * 2 + 1, none⟩ = some (.string t) := hcl wi hbi 1 (by decide)
              clear hcl
              go_wp2_with fail
              go_quiet (fail)
              go_wp2_with fail
              go_roundg (n - (k + 1))
              · exact ⟨k + 1, rfl, by omega, by push_cast; rfl, Below.drewN' hbi⟩
              · have := hGk.out; omega
            · have hkI : ¬ ((k : Int) < n) := by omega
              go_wp2_with fail
              go_roundg (Nl - (i + 1))
              · exact ⟨i + 1, rfl, by omega, by push_cast; rfl, hbi⟩
              · have := hG.out; omega
        · have hiI : ¬ ((i : Int) < Nl) := by omega
          go_wp2_with fail
          go_loopg [8] Ns (fun g t wr => ∃ i : Nat, g = Ns - i ∧ i ≤ Ns ∧ t = .int .i64 i ∧ Below w.heap.size w wr)
          case atStart => exact ⟨0, by omega, by omega, rfl, hbr⟩
          case round =>
            rename World => wr
            obtain ⟨i, hgi, hiN, rfl, hbr⟩ := hrel
            have hG : Hid (_ = Ns - i) := hgi
            clear hgi
            have hc := hcell.out wr hbr
            have p0 := hc.2.2.2.2.1
            clear hc
            by_cases hi : i < Ns
            · have hiI : (i : Int) < Ns := by omega
              obtain ⟨g, g', ae, n, ce, mv, rfl, rfl, hn, hmv, hd, hel⟩ := Ls.out i hi
              have hd : Hid _ := hd
              have hel : Hid _ := hel
              obtain ⟨d0, d1⟩ := hd.out wr hbr
              obtain ⟨c, hcb, rfl⟩ := hmv.1 rfl
              clear hmv
              go_wp2_with fail
              go_loopg [9] n (fun g t wi => ∃ k : Nat, g = n - k ∧ k ≤ n ∧ t = .int .i64 k ∧ Below w.heap.size w wi)
              case atStart => exact ⟨0, by omega, by omega, rfl, hbr⟩
              case round =>
                rename World => wi
                obtain ⟨k, hgk, hkn, rfl, hbi⟩ := hrel
                have hGk : Hid (_ = n - k) := hgk
                clear hgk p0 d0 d1
                have hc := hcell.out wi hbi
                have p0 := hc.2.2.2.2.1
                have p1 := hc.2.2.2.2.2.1
                clear hc
                obtain ⟨d0, d1⟩ := hd.out wi hbi
                have hzi := hbi.size
                by_cases hk : k < n
                · have hkI : (k : Int) < n := by omega
                  obtain ⟨b, rfl, hb, hcl⟩ := hel.out k hk
                  have c0 : wi.cell? ⟨b, k * 3, none⟩ = some (.bool false) := hcl wi hbi 0 (by decide)
                  have c1 : wi.cell? ⟨b, k * 3 + 1, none⟩ = some (.int .i64 (c : Int)) := hcl wi hbi 1 (by decide)
                  have c2 : wi.cell? ⟨b, k * 3 + 2, none⟩ = some (.int .i64 (-(c : Int))) := hcl wi hbi 2 (by decide)
                  clear hcl
                  go_wp2_with fail
                  go_quiet (fail)
                  go_wp2_with fail
                  go_roundg (n - (k + 1))
                  · exact ⟨k + 1, rfl, by omega, by push_cast; rfl, Below.drewN' hbi⟩
                  · have := hGk.out; omega
                · have hkI : ¬ ((k : Int) < n) := by omega
                  go_wp2_with fail
                  go_roundg (Ns - (i + 1))
                  · exact ⟨i + 1, rfl, by omega, by push_cast; rfl, hbi⟩
                  · have := hG.out; omega
            · have hiI : ¬ ((i : Int) < Ns) := by omega
              go_wp2_with fail
              go_loopg [10] Nr (fun g t wr => ∃ i : Nat, g = Nr - i ∧ i ≤ Nr ∧ t = .int .i64 i ∧ Below w.heap.size w wr)
              case atStart => exact ⟨0, by omega, by omega, rfl, hbr⟩
              case round =>
                rename World => wr
                obtain ⟨i, hgi, hiN, rfl, hbr⟩ := hrel
                have hG : Hid (_ = Nr - i) := hgi
                clear hgi
                have hc := hcell.out wr hbr
                have p0 := hc.2.2.2.2.2.2.1
                clear hc
                by_cases hi : i < Nr
                · have hiI : (i : Int) < Nr := by omega
                  obtain ⟨g, g', ae, n, ce, mv, rfl, rfl, hn, hmv, hd, hel⟩ := Lr.out i hi
                  have hd : Hid _ := hd
                  have hel : Hid _ := hel
                  obtain ⟨d0, d1⟩ := hd.out wr hbr
                  obtain ⟨t, rfl⟩ := hmv.2 rfl
                  clear hmv
                  go_wp2_with fail
                  go_loopg [11] n (fun g t wi => ∃ k : Nat, g = n - k ∧ k ≤ n ∧ t = .int .i64 k ∧ Below w.heap.size w wi)
                  case atStart => exact ⟨0, by omega, by omega, rfl, hbr⟩
                  case round =>
                    rename World => wi
                    obtain ⟨k, hgk, hkn, rfl, hbi⟩ := hrel
                    have hGk : Hid (_ = n - k) := hgk
                    clear hgk p0 d0 d1
                    have hc := hcell.out wi hbi
                    have p0 := hc.2.2.2.2.2.2.1
                    have p1 := hc.2.2.2.2.2.2.2
                    clear hc
                    obtain ⟨d0, d1⟩ := hd.out wi hbi
                    have hzi := hbi.size
                    by_cases hk : k < n
                    · have hkI : (k : Int) < n := by omega
                      obtain ⟨b, rfl, hb, hcl⟩ := hel.out k hk
                      have c0 : wi.cell? ⟨b, k * 2, none⟩ = some (.int .u8 63) := hcl wi hbi 0 (by decide)
                      have c1 : wi.cell? ⟨b, k * 2 + 1, none⟩ = some (.string t) := hcl wi hbi 1 (by decide)
                      clear hcl
                      go_wp2_with fail
                      go_quiet (fail)
                      go_wp2_with fail
                      go_roundg (n - (k + 1))
                      · exact ⟨k + 1, rfl, by omega, by push_cast; rfl, Below.drewN' hbi⟩
                      · have := hGk.out; omega
                    · have hkI : ¬ ((k : Int) < n) := by omega
                      go_wp2_with fail
                      go_roundg (Nr - (i + 1))
                      · exact ⟨i + 1, rfl, by omega, by push_cast; rfl, hbi⟩
                      · have := hG.out; omega
                · have hiI : ¬ ((i : Int) < Nr) := by omega
                  go_wp2_with fail
                  go_ret
                  exact ⟨rfl, hbr⟩
end Go.Proofs.YtcclgodahlinbaaGreatDoor
namespace Go.Proofs.YtcclgodahlinbaaGreatDoor
open Go.RowKit Go
set_option maxRecDepth 100000
theorem Frame.below {base : Nat} {w w' : World} (h : Frame base w w' (fun _ => False)) (hb : w.heap.size ≤ base) : Below w.heap.size w w' := by
  refine ⟨h.2.2.1, h.2.2.2.1, h.2.2.2.2, h.1, fun g hg => ?_⟩
  exact h.low (fun _ h => h.elim) (by omega) hg
theorem Frame.thenB {base : Nat} {w w1 w2 : World} {s : Nat → Prop} (h : Frame base w w1 s) (hb : Below w1.heap.size w1 w2) : Frame base w w2 s :=
  (h.trans (Frame.of_below (base := base) hb)).mono fun _ _ h => h.elim id False.elim
theorem Frame.then {base : Nat} {w w1 w2 : World} (h : Frame base w w1 (fun _ => False)) (k : Frame base w1 w2 (fun _ => False)) : Frame base w w2 (fun _ => False) :=
  (h.trans k).mono fun _ _ h => h.elim id id
set_option maxHeartbeats 4000000 in
theorem step2_ok {base wb M : Nat} {x : WV} {B : Bk} {w : World} {kd n m : Int} {a b : ByteArray} {ap : Option Addr} {np cp : Nat} (hk : kd ≤ 2) (K : Kept base wb x B w) (R : Room M x B) (hM : M ≤ 600000000000) (hm : w.cell? ⟨0, 0, none⟩ = some (.int .i64 m)) (hbase : base ≤ w.heap.size)
    (h1 : a.size ≤ 4000000000) (h2 : b.size ≤ 4000000000) :
    Calls Tryz.prog 21 #[.pointer (some ⟨wb, 0, none⟩), .agg #[.int .i64 kd, .int .i64 n, .string a, .string b, .slice ap np cp]] w fun e w' => e = .returned (.bool true) ∧ ∃ (x' : WV) (B' : Bk), Kept base wb x' B' w' ∧ Room (M + 2000) x' B' ∧ Frame base w w' (fun _ => False) := by
  have hmlt := World.block_lt_of_cell? _ _ hm
  obtain ⟨W0, hW0⟩ : ∃ W0, w.alloc (.cells #[.int .i64 kd, .int .i64 n, .string a, .string b, .slice ap np cp] 57) = W0 := ⟨_, rfl⟩
  have b0 : Below w.heap.size w W0 := by rw [← hW0]; exact (Below.refl _ _).alloc (Nat.le_refl _) _
  have z0 : W0.heap.size = w.heap.size + 1 := by rw [← hW0]; simp
  have hO0 : W0.heap[w.heap.size]? = some (.cells #[.int .i64 kd, .int .i64 n, .string a, .string b, .slice ap np cp] 57 (0, 0)) := by rw [← hW0]; exact heap_alloc_new w _
  have hm0 : W0.cell? ⟨0, 0, none⟩ = some (.int .i64 m) := (b0.cell (p := ⟨0, 0, none⟩) hmlt).trans hm
  have o0 : W0.cell? ⟨w.heap.size, 0, none⟩ = some (.int .i64 kd) := cell_of hO0 rfl
  have o1 : W0.cell? ⟨w.heap.size, 1, none⟩ = some (.int .i64 n) := cell_of hO0 rfl
  have o2 : W0.cell? ⟨w.heap.size, 2, none⟩ = some (.string a) := cell_of hO0 rfl
  have o3 : W0.cell? ⟨w.heap.size, 3, none⟩ = some (.string b) := cell_of hO0 rfl
  have o4 : W0.cell? ⟨w.heap.size, 4, none⟩ = some (.slice ap np cp) := cell_of hO0 rfl
  have K0 := K.old (W' := W0) fun g hg => b0.block g hg
  have hend : Hid (∀ w', (∃ (x' : WV) (B' : Bk), Kept base wb x' B' w' ∧ Room (M + 2000) x' B' ∧ Frame base W0 w' (fun _ => False)) → ∃ (x' : WV) (B' : Bk), Kept base wb x' B' w' ∧ Room (M + 2000) x' B' ∧ Frame base w w' (fun _ => False)) := by
    rintro w' ⟨x', B', k1, k2, k3⟩
    exact ⟨x', B', k1, k2, ((Frame.of_below (base := base) b0).trans k3).mono fun _ _ h => h.elim id id⟩
  go_enter Tryz.func21, Tryz.ntmps21
  by_cases k1 : kd = 1
  · have hd := diffs_ok (kd := kd) (n := n) (m := m) (a := a) (b := b) (ap := ap) (np := np) (cp := cp) K0 R hM hm0 (by omega) h1 h2
    have q1 : (kd == 1) = true := by simp [k1]
    clear k1 K K0 hO0 hm hm0
    go_wp2_with fail
    clear hW0
    refine hd.mono ?_
    rintro e W1 ⟨rfl, hR⟩
    have hRH := hend.out W1 hR
    have hRH' : Hid _ := hRH
    clear hR hRH hend hd
    go_wp2_with fail
    go_ret
    exact ⟨rfl, hRH'.out⟩
  have q1 : (kd == 1) = false := by simp [k1]
  by_cases k2 : kd = 2
  · have hd := inlines_ok (kd := kd) (n := n) (a := a) (b := b) (ap := ap) (np := np) (cp := cp) K0 R hM (by omega) h1 h2
    have q2 : (kd == 2) = true := by simp [k2]
    clear k1 k2 K K0 hO0 hm hm0
    go_wp2_with fail
    clear hW0
    refine hd.mono ?_
    rintro e W1 ⟨rfl, hR⟩
    have hRH := hend.out W1 hR
    have hRH' : Hid _ := hRH
    clear hR hRH hend hd
    go_wp2_with fail
    go_ret
    exact ⟨rfl, hRH'.out⟩
  have q2 : (kd == 2) = false := by simp [k2]
  have q3 : (kd == 3) = false := by simp; omega
  have q4 : (kd == 4) = false := by simp; omega
  have q5 : (kd == 5) = false := by simp; omega
  have q6 : (kd == 6) = false := by simp; omega
  have q7 : (kd == 7) = false := by simp; omega
  have hRH := hend.out W0 ⟨x, B, K0, ⟨by have := R.c; omega, by have := R.h; omega, by have := R.l; omega, by have := R.s; omega, by have := R.r; omega⟩, Frame.refl base W0⟩
  have hRH' : Hid _ := hRH
  clear hRH hend K K0 hO0 hm hm0 k1 k2
  go_wp2_with fail
  go_ret
  exact ⟨rfl, hRH'.out⟩
end Go.Proofs.YtcclgodahlinbaaGreatDoor
namespace Go.Proofs.YtcclgodahlinbaaGreatDoor
open Go.RowKit Go
set_option maxRecDepth 100000
def Stays (base : Nat) (w : World) (v : Value) (hs : List HI) : Prop := ∀ w', Frame base w w' (fun g => w.heap.size ≤ g) → HIAt w.heap.size w' v hs
theorem Stays.now {base : Nat} {w : World} {v : Value} {hs : List HI} (h : Stays base w v hs) : HIAt w.heap.size w v hs := h w ((Frame.refl base w).mono fun _ _ h => h.elim)
theorem Stays.on {base : Nat} {w w1 : World} {v : Value} {hs : List HI} {s : Nat → Prop} (h : Stays base w v hs) (F : Frame base w w1 s) (hg : ∀ g, s g → w.heap.size ≤ g) : Stays base w1 v hs := fun w' F' =>
  (h w' ((F.trans F').mono fun g _ k => k.elim (hg g) fun k => Nat.le_trans F.1 k)).mono F.1
theorem Stays.of_low {B base : Nat} {w : World} {v : Value} {hs : List HI} (h : HIAt B w v hs) (hB : B ≤ base) (hw : B ≤ w.heap.size) : Stays base w v hs := fun w' F => by
  refine (h.below ⟨F.2.2.1, F.2.2.2.1, F.2.2.2.2, by have := F.1; omega, fun g hg => ?_⟩).mono hw
  rcases F.2.1 g (by omega) with e | e | ⟨_, _, _, _, _, e⟩
  · exact e
  · omega
  · omega
theorem HSo.at_types {B : Nat} {w w' : World} {v : Value} {hv : List HV} (h : HSo B v hv w) (hs : ∀ g c t f, w.heap[g]? = some (.cells c t f) → t = 61 ∨ t = 93 → B ≤ g → w'.heap[g]? = w.heap[g]?) : HSo B v hv w' := by
  rcases h with h | ⟨g, cap, e, hb, s⟩
  · exact .inl h
  · refine .inr ⟨g, cap, e, hb, s.len, owns_same s.row fun k hk => ?_, fun p hp => owns_same (s.lines p hp) fun k hk => ?_, s.apart⟩
    · obtain ⟨c, hc⟩ := owns_block s.row hk
      exact hs k c _ _ hc (.inl rfl) (s.row.lt k hk).1
    · obtain ⟨c, hc⟩ := owns_block (s.lines p hp) hk
      exact hs k c _ _ hc (.inr rfl) ((s.lines p hp).lt k hk).1
theorem HSo.frame {B base : Nat} {w w' : World} {v : Value} {hv : List HV} {s : Nat → Prop} (h : HSo B v hv w) (F : Frame base w w' s) (hs : ∀ g, B ≤ g → g < w.heap.size → ¬ s g) : HSo B v hv w' :=
  h.at_types fun g c t f hg ht hb => F.at hg (by rcases ht with rfl | rfl <;> decide) (hs g hb (Array.getElem?_eq_some_iff.1 hg).1)
theorem HSo.stays {B base : Nat} {w : World} {v : Value} {hv : List HV} (h : HSo B v hv w) : Stays base w v ((hv.map (·.1)).map HI.ofM) := fun w' F => by
  have hz := F.1
  have hE : (w'.heap.extract 0 w.heap.size).size = w.heap.size := by simp; omega
  have hb : ∀ g, g < w.heap.size → w'.heap[g]? = (w'.heap.extract 0 w.heap.size)[g]? := fun g hg => by simp [Array.getElem?_extract]; omega
  have h2 : HSo B v hv { w' with heap := w'.heap.extract 0 w.heap.size } := h.at_types fun g c t f hg ht _ => by
    have hlt := (Array.getElem?_eq_some_iff.1 hg).1
    show (w'.heap.extract 0 w.heap.size)[g]? = _
    rw [← hb g hlt]
    exact F.at hg (by rcases ht with rfl | rfl <;> decide) (by omega)
  have h3 := HIAt.of_hunks (HunksAt.of_owns h2)
  have h4 := h3.below (w' := w') ⟨rfl, rfl, rfl, by show (w'.heap.extract 0 w.heap.size).size ≤ _; omega, fun g hg => hb g (by rw [← hE]; exact hg)⟩
  exact h4.mono (by show (w'.heap.extract 0 w.heap.size).size ≤ _; omega)
theorem HOwn.stays {B base : Nat} {w : World} {v : Value} {hs : List HunkM} (h : HOwn B w v hs) : Stays base w v (hs.map HI.ofM) := by
  obtain ⟨hv, h1, rfl⟩ := h
  exact h1.stays
theorem HOwn.frame {B base : Nat} {w w' : World} {v : Value} {hs : List HunkM} {s : Nat → Prop} (h : HOwn B w v hs) (F : Frame base w w' s) (hg : ∀ g, B ≤ g → g < w.heap.size → ¬ s g) : HOwn B w' v hs := by
  obtain ⟨hv, h1, h2⟩ := h
  exact ⟨hv, h1.frame F hg, h2⟩
theorem Lent.hunks0 {base ga cap : Nat} {vr : Value} {bs : List (HI × Nat)} {Z : List Value} {W : World} (L : Lent base ga vr bs Z W) {ms : List HunkM} (hm : bs.map (·.1) = ms.map HI.ofM) : HunksAt W.heap.size W (.slice (some ⟨ga, 0, none⟩) ms.length cap) ms := by
  refine .inr ⟨ga, cap, rfl, (Array.getElem?_eq_some_iff.1 L.all).1, fun i hi => ?_⟩
  have hlen : bs.length = ms.length := by have := congrArg List.length hm; simpa using this
  have hi' : i < bs.length := by omega
  have e : bs[i].1 = HI.ofM ms[i] := by
    have h1 : (bs.map (·.1))[i]'(by simpa using hi') = (ms.map HI.ofM)[i]'(by simpa using hi) := by simp only [hm]
    simpa using h1
  obtain ⟨h0, h1, h2, h3, h4⟩ := lentCells_get bs Z hi'
  have hl := (L.line bs[i] (List.getElem_mem hi')).2
  rw [e] at h0 h1 h2 h3 h4 hl
  refine ⟨_, _, cell_of L.all (by simpa [HI.ofM] using h0), cell_of L.all (by simpa [HI.ofM] using h1), cell_of L.all (by simpa [HI.ofM] using h2), cell_of L.all (by simpa [HI.ofM] using h3), cell_of L.all (by simpa [HI.ofM] using h4), .inr ⟨bs[i].2, _, rfl, (Array.getElem?_eq_some_iff.1 hl).1, fun j hj => ?_⟩⟩
  have hj' : j < (ms[i].lines ++ [behindS, behindS]).length := by simp; omega
  obtain ⟨c0, c1⟩ := stepCells_get (ms[i].lines ++ [behindS, behindS]) j hj'
  rw [List.getElem_append_left hj] at c0 c1
  exact ⟨cell_of hl (by simpa [lentLine, HI.ofM] using c0), cell_of hl (by simpa [lentLine, HI.ofM] using c1)⟩
theorem Lent.h0 {base ga cap : Nat} {vr : Value} {bs : List (HI × Nat)} {Z : List Value} {W : World} (L : Lent base ga vr bs Z W) {hs : List HI} (hm : bs.map (·.1) = hs) : H0At W.heap.size W (.slice (some ⟨ga, 0, none⟩) hs.length cap) hs :=
  ⟨L.hunks hm, fun ms e => by subst e; rw [List.length_map]; exact L.hunks0 hm⟩
def UntAll (base wb : Nat) (x : WV) (B : Bk) (n lo hi : Nat) (w w' : World) : Prop :=
  ∃ (x' : WV) (E : List (Value × Value)), Kept base wb x' { B with l := B.l ++ E } w' ∧ E.length ≤ 4 * n ∧ x'.c ≤ x.c + n ∧ Frame base w w' (fun g => lo ≤ g ∧ g < hi) ∧ ∀ p ∈ E, ∀ g, p.1.ownBlock = some g → (lo ≤ g ∧ g < hi) ∨ w.heap.size ≤ g
def LentOk (base : Nat) (w : World) (a : Option Addr) (cap : Nat) (hs : List HI) (vx va vr : Value) (w1 : World) : Prop :=
  H0At w1.heap.size w1 vx hs ∧ ∀ (wb : Nat) (x : WV) (B : Bk) (w2 : World), Kept base wb x B w → Below w1.heap.size w1 w2 → x.c ≤ 7000000000000 → B.l.length ≤ 700000000000 →
    Calls Tryz.prog 87 #[.pointer (some ⟨wb, 0, none⟩), va, vr, .agg #[.slice a hs.length cap]] w2 fun e w' => e = .returned (.bool true) ∧ UntAll base wb x B hs.length w.heap.size w1.heap.size w2 w'
theorem Lent.later {base ga : Nat} {vr : Value} {bs : List (HI × Nat)} {Z : List Value} {W W' : World} (L : Lent base ga vr bs Z W) (hb : Below W.heap.size W W') : Lent base ga vr bs Z W' :=
  ⟨(hb.block ga (Array.getElem?_eq_some_iff.1 L.all).1).trans L.all, L.lo, owns_same L.rows fun g hg => hb.block g (L.rows.lt g hg).2, fun p hp => ⟨(L.line p hp).1, (hb.block p.2 (Array.getElem?_eq_some_iff.1 (L.line p hp).2).1).trans (L.line p hp).2⟩, L.apart⟩
theorem lent_any {base : Nat} {hs : List HI} {a : Option Addr} {cap : Nat} {w : World} (S : Stays base w (.slice a hs.length cap) hs) (hL : Lim hs) (hbase : base ≤ w.heap.size) :
    Calls Tryz.prog 86 #[.agg #[.slice a hs.length cap]] w fun e w1 => ∃ ax cx va vr, e = .returned (.tuple #[.agg #[.slice ax hs.length cx], va, vr]) ∧ LentOk base w a cap hs (.slice ax hs.length cx) va vr w1 ∧ Below w.heap.size w w1 := by
  by_cases hn : 0 < hs.length
  · refine (lent_some S.now hL hn).mono ?_
    rintro e w1 ⟨ga, vr, bs, rfl, hm, L, hb⟩
    refine ⟨some ⟨ga, 0, none⟩, hs.length + 2, .slice (some ⟨ga, 0, none⟩) (hs.length + 2) (hs.length + 2), vr, rfl, ⟨L.h0 hm, fun wb x B w2 K hb2 hc hl => ?_⟩, hb⟩
    have hz1 := hb.size
    have hz2 := hb2.size
    have hw2 : Below w.heap.size w w2 := hb.trans (hb2.mono hz1)
    have K2 : Kept base wb x B w2 := K.old fun g hg => hw2.block g hg
    have hga := (Array.getElem?_eq_some_iff.1 L.all).1
    have hq : ∀ q ∈ bs, w.heap.size + 2 ≤ q.2 ∧ q.2 < w1.heap.size := fun q hq => ⟨(L.line q hq).1, (Array.getElem?_eq_some_iff.1 (L.line q hq).2).1⟩
    have hlo := L.lo
    refine (untouched_ok (bl := w.heap.size + 2) K2 (L.later hb2) hm hn hL (by omega) (by omega) (fun p hp q hq' => ?_) ?_ (fun g hg => ?_) (fun w' F => ?_) hc hl).mono ?_
    · cases hv : p.1.ownBlock with
      | none => exact .inl rfl
      | some g =>
        right
        intro e
        cases e
        have h1 := ((K.l.ok p hp).lt q.2 hv).1
        have h2 := hq q hq'
        omega
    · show ∀ p ∈ B.h, _
      intro p hp
      cases hv : p.1.ownBlock with
      | none => exact .inl rfl
      | some g =>
        right
        intro e
        cases e
        have h1 := ((K.h.ok p hp).lt ga hv).1
        omega
    · have h1 := (L.rows.lt g hg).1
      refine ⟨fun e => ?_, fun e => ?_⟩
      · have := (K.l.row.lt g e).2
        omega
      · have := (K.l.marks.lt g e).2
        omega
    · exact (S w' (((Frame.of_below (base := base) hw2).trans F).mono fun g _ k => k.elim (fun k => k.elim) fun k => by
        rcases k with rfl | ⟨q, h1, rfl⟩
        · omega
        · have := hq q h1; omega)).mono hw2.size
    · rintro e w' ⟨rfl, x', E, k1, k2, k3, k4, k5⟩
      refine ⟨rfl, x', E, k1, by omega, by omega, k4.mono fun g _ k => ?_, fun p hp g e => ?_⟩
      · rcases k with rfl | ⟨q, h1, rfl⟩
        · omega
        · have := hq q h1; omega
      · rcases k5 p hp g e with ⟨q, h1, rfl⟩ | k
        · have := hq q h1; left; omega
        · exact .inr k
  · have h0 : hs = [] := List.eq_nil_of_length_eq_zero (by omega)
    subst h0
    refine lent_none.mono ?_
    rintro e w1 ⟨rfl, hb⟩
    refine ⟨none, 0, .slice none 0 0, .slice none 0 0, rfl, ⟨⟨.inl ⟨rfl, _, _, rfl⟩, fun ms e => ?_⟩, fun wb x B w2 K hb2 hc hl => ?_⟩, hb⟩
    · have : ms = [] := by cases ms with
        | nil => rfl
        | cons _ _ => simp at e
      subst this
      exact .inl ⟨rfl, _, _, rfl⟩
    · have hw2 : Below w.heap.size w w2 := hb.trans (hb2.mono hb.size)
      refine untouched_none.mono ?_
      rintro e w' ⟨rfl, hb3⟩
      refine ⟨rfl, x, [], ?_, by simp, by simp, (Frame.of_below hb3).mono fun _ _ h => h.elim, fun p hp => (by cases hp)⟩
      have K3 : Kept base wb x B w' := (K.old (W' := w2) fun g hg => hw2.block g hg).old fun g hg => hb3.block g hg
      simpa using K3
end Go.Proofs.YtcclgodahlinbaaGreatDoor
