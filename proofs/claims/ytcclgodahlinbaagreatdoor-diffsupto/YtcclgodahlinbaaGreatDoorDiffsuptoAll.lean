import Derived.Test.YtcclgodahlinbaaGreatDoorDiffsuptoAll2
import Derived.BigQuiet
import Derived.BigRegion
import Derived.Deep.QuietTactic
import Derived.Deep.DeepCutAuto
import Derived.Test.YtcclgodahlinbaaGreatDoorRows
import Derived.Test.YtcclgodahlinbaaGreatDoorWNumC
import Derived.Deep.DeepHandedRow
import Derived.Deep.DeepWitnessRowRef
import Derived.Deep.DeepLaidRun
import Derived.LaidLaws
import Derived.LaidHandle
import Derived.LaidSub
import Derived.Stop.LaidErr
import Derived.ProofKit
import Derived.OpenShut
import Derived.Lib.LaidU8
import Derived.Shelf.Vars
import Derived.SevenTiedAt
import Derived.Test.YtcclgodahlinbaaGreatDoorCards
import Derived.Test.YtcclgodahlinbaaGreatDoorTie
import Derived.JoinedCond
import Derived.ChangeSame
import Derived.ChangeSlices
namespace Go.Proofs.YtcclgodahlinbaaGreatDoor
open Go.RowKit Go
set_option maxRecDepth 100000

def lastTx (l : List StepB) (t : ByteArray) : List StepB := match l.reverse with | [] => [] | r :: q => q.reverse ++ [⟨r.kind, r.text ++ t⟩]
theorem lastTx_append (l : List StepB) (r : StepB) (t : ByteArray) : lastTx (l ++ [r]) t = l ++ [⟨r.kind, r.text ++ t⟩] := by simp [lastTx]
def newRun (L : List StepB) (k : Nat) : Bool := decide (k = 0) || decide ((L.getD (k - 1) ⟨0, ByteArray.empty⟩).kind ≠ (L.getD k ⟨0, ByteArray.empty⟩).kind)
/-- the runs of the first k steps, as the document's Inline puts them together -/
def foldR (L : List StepB) : Nat → List StepB
  | 0 => []
  | k + 1 => lastTx (if newRun L k = true then foldR L k ++ [⟨(L.getD k ⟨0, ByteArray.empty⟩).kind, ByteArray.empty⟩] else foldR L k) (L.getD k ⟨0, ByteArray.empty⟩).text
theorem foldR_len (L : List StepB) : ∀ k, (foldR L k).length ≤ k
  | 0 => by simp [foldR]
  | k + 1 => by
    have ih := foldR_len L k
    have key : ∀ (l : List StepB) (t : ByteArray), (lastTx l t).length = l.length := by
      intro l t
      by_cases h : l = []
      · subst h; rfl
      · rw [← List.dropLast_concat_getLast h, lastTx_append]; simp
    unfold foldR
    rw [key]
    split
    · simp; omega
    · omega
theorem foldR_ne (L : List StepB) : ∀ k, 0 < k → foldR L k ≠ []
  | 0, h => by omega
  | k + 1, _ => by
    unfold foldR
    by_cases h : newRun L k = true
    · rw [if_pos h, lastTx_append]; simp
    · rw [if_neg h]
      have hk : 0 < k := by
        cases k with
        | zero => simp [newRun] at h
        | succ k => omega
      have := foldR_ne L k hk
      rw [← List.dropLast_concat_getLast this, lastTx_append]
      simp
theorem foldR_size {L : List StepB} (h : ∀ s ∈ L, s.text.size ≤ 200) : ∀ k, ∀ r ∈ foldR L k, r.text.size ≤ k * 200
  | 0 => by simp [foldR]
  | k + 1 => by
    have ih := foldR_size h k
    have hT : (L.getD k ⟨0, ByteArray.empty⟩).text.size ≤ 200 := by
      by_cases hk : k < L.length
      · have e : L.getD k ⟨0, ByteArray.empty⟩ = L[k] := by simp [List.getD, hk]
        rw [e]
        exact h _ (List.getElem_mem hk)
      · have e : L.getD k ⟨0, ByteArray.empty⟩ = ⟨0, ByteArray.empty⟩ := by simp [List.getD, List.getElem?_eq_none (show L.length ≤ k by omega)]
        rw [e]
        exact Nat.zero_le _
    have key : ∀ l : List StepB, (∀ r ∈ l, r.text.size ≤ k * 200) → ∀ r ∈ lastTx l (L.getD k ⟨0, ByteArray.empty⟩).text, r.text.size ≤ (k + 1) * 200 := by
      intro l hl r hr
      by_cases h0 : l = []
      · subst h0; simp [lastTx] at hr
      · have hl2 := hl (l.getLast h0) (List.getLast_mem h0)
        rw [← List.dropLast_concat_getLast h0, lastTx_append] at hr
        rcases List.mem_append.1 hr with hr | hr
        · have := hl r (List.dropLast_subset _ hr)
          omega
        · rw [List.mem_singleton] at hr
          subst hr
          show ((l.getLast h0).text ++ _).size ≤ _
          rw [ByteArray.size_append]
          omega
    unfold foldR
    split
    · refine key _ fun r hr => ?_
      rcases List.mem_append.1 hr with hr | hr
      · exact ih r hr
      · rw [List.mem_singleton] at hr
        subst hr
        exact Nat.zero_le _
    · exact key _ ih
theorem getD_kind {L : List StepB} {k : Nat} (h : k < L.length) : L.getD k ⟨0, ByteArray.empty⟩ = L[k] := by simp [List.getD, h]
theorem runAt_more {L : List StepB} {b e : Nat} (hb : b ≤ e) (he : e < L.length) : runAt L b (e + 1) = ⟨(runAt L b e).kind, (runAt L b e).text ++ L[e].text⟩ := by
  unfold runAt
  have h1 : (L.take (e + 1)).drop b = (L.take e).drop b ++ [L[e]] := by
    rw [List.take_succ_eq_append_getElem he, List.drop_append_of_le_length (by rw [List.length_take]; omega)]
  simp only
  rw [h1, bytes_app, List.map_append, catL_append]
  simp [catL]
theorem foldR_run {L : List StepB} {b : Nat} {acc : List StepB} (hb : b < L.length) (h0 : foldR L b = acc) (hn : newRun L b = true) :
    ∀ j, 1 ≤ j → j ≤ runLen L b → foldR L (b + j) = acc ++ [runAt L b (b + j)]
  | 0, h, _ => by omega
  | j + 1, _, hj => by
    by_cases h1 : j = 0
    · subst h1
      show foldR L (b + 1) = _
      unfold foldR
      rw [if_pos hn, lastTx_append, h0, runAt_more (Nat.le_refl b) hb, getD_kind hb]
      have e : runAt L b b = ⟨L[b].kind, ⟨#[]⟩⟩ := by
        unfold runAt
        rw [List.drop_of_length_le (by rw [List.length_take]; omega), getD_kind hb]
        rfl
      rw [e]
      rfl
    · have ih := foldR_run hb h0 hn j (by omega) (by omega)
      obtain ⟨k1, k2⟩ := runLen_in hb (j := j) (by omega)
      obtain ⟨k3, k4⟩ := runLen_in hb (j := j - 1) (by omega)
      have hnn : newRun L (b + j) = false := by
        unfold newRun
        rw [getD_kind k1, getD_kind (show b + j - 1 < L.length by omega)]
        have e1 := k2 k1
        have e2 := k4 (show b + (j - 1) < L.length by omega)
        have e3 : L[b + j - 1]'(by omega) = L[b + (j - 1)]'k3 := by congr 1; omega
        rw [e3, e1, e2]
        simp
        omega
      show foldR L (b + j + 1) = _
      unfold foldR
      rw [hnn, if_neg (by simp), ih, lastTx_append, getD_kind k1]
      show _ = acc ++ [runAt L b (b + j + 1)]
      rw [runAt_more (by omega) k1]
theorem foldR_runs (L : List StepB) : ∀ (k b : Nat) (acc : List StepB), b ≤ L.length → L.length ≤ b + k → foldR L b = acc → (b < L.length → newRun L b = true) → foldR L L.length = acc ++ runsF L k b
  | 0, b, acc, h1, h2, h3, _ => by
    obtain rfl : b = L.length := by omega
    rw [h3, runsF, List.append_nil]
  | k + 1, b, acc, h1, h2, h3, h4 => by
    unfold runsF
    by_cases hb : b < L.length
    · rw [if_pos hb]
      obtain ⟨p1, p2⟩ := runLen_pos hb
      have hr := foldR_run hb h3 (h4 hb) (runLen L b) p1 (Nat.le_refl _)
      rw [foldR_runs L k (b + runLen L b) _ p2 (by omega) hr (fun hlt => ?_)]
      · simp
      · have e1 := runLen_end hb hlt
        obtain ⟨k3, k4⟩ := runLen_in hb (j := runLen L b - 1) (by omega)
        unfold newRun
        rw [getD_kind hlt, getD_kind (show b + runLen L b - 1 < L.length by omega)]
        have e2 := k4 k3
        have e3 : L[b + runLen L b - 1]'(by omega) = L[b + (runLen L b - 1)]'k3 := by congr 1; omega
        rw [e3, e2]
        simp
        right
        intro e
        exact e1 e.symm
    · rw [if_neg hb]
      obtain rfl : b = L.length := by omega
      rw [h3, List.append_nil]
theorem foldR_all (L : List StepB) : foldR L L.length = runsM L := by
  unfold runsM
  rw [foldR_runs L L.length 0 [] (Nat.zero_le _) (by omega) rfl (fun _ => by simp [newRun])]
  rfl
/-- the last text of a row of runs is written over -/
theorem owns_setTx {w : World} {base cap g : Nat} {l : List StepB} {r : StepB} (h : w.ownsRow base 101 2 (.slice (some ⟨g, 0, none⟩) (l.length + 1) cap) (l.length + 1) (stepCells (l ++ [r]))) (t : ByteArray) :
    (w.setCell ⟨g, l.length * 2 + 1, none⟩ (.string t)).ownsRow base 101 2 (.slice (some ⟨g, 0, none⟩) (l.length + 1) cap) (l.length + 1) (stepCells (l ++ [⟨r.kind, t⟩])) := by
  obtain ⟨hl, hr⟩ := h
  rcases hr with ⟨e, _⟩ | ⟨g', cap', cur, e, hb, hg, h1, h2, h3, h4⟩
  · cases e
  · cases e
    refine ⟨by rw [stepCells_length]; simp, .inr ⟨g, cap, _, rfl, hb, heap_setCell_same _ _ _ _ _ _ _ hg, h1, h2, by simp [h3], ?_⟩⟩
    have h5 : List.take ((l.length + 1) * 2) (cur.setIfInBounds (l.length * 2 + 1) (.string t)).toList = (List.take ((l.length + 1) * 2) cur.toList).set (l.length * 2 + 1) (.string t) := by simp [List.take_set]
    rw [h5, h4, stepCells_append, stepCells_append, List.set_append_right _ _ (by rw [stepCells_length]; omega), stepCells_length]
    have : l.length * 2 + 1 - l.length * 2 = 1 := by omega
    rw [this]
    rfl
end Go.Proofs.YtcclgodahlinbaaGreatDoor

namespace Go.Proofs.YtcclgodahlinbaaGreatDoor
open Go.RowKit Go
set_option maxRecDepth 100000

set_option maxHeartbeats 8000000 in
theorem refInline_any (a b : ByteArray) (w : World) (h1 : a.size ≤ 4000000000) (h2 : b.size ≤ 4000000000) :
    Calls Tryz.prog 84 #[.string a, .string b] w fun e w' => ∃ al cl, e = .returned (.tuple #[.slice al (inl a b).length cl, .int .i64 (checkI a b : Nat)]) ∧ w'.ownsRow w.heap.size 101 2 (.slice al (inl a b).length cl) (inl a b).length (stepCells (inl a b)) ∧ Below w.heap.size w w' := by
  obtain ⟨i0, hinf, ix0, ix1, ix2⟩ := info_parts info_run
  have hno : Hid (∀ (k : Nat) (W : World), checkI a b = k → k ≠ 0 → Below w.heap.size w W → ∃ al cl, Ending.returned (.tuple #[.slice none 0 0, .int .i64 (k : Int)]) = Ending.returned (.tuple #[.slice al (inl a b).length cl, .int .i64 (checkI a b : Nat)]) ∧ W.ownsRow w.heap.size 101 2 (.slice al (inl a b).length cl) (inl a b).length (stepCells (inl a b)) ∧ Below w.heap.size w W) := by
    intro k W hk h0 hb
    have e : inl a b = [] := by unfold inl; rw [if_neg (by rw [hk]; exact h0)]
    rw [e, hk]
    exact ⟨none, 0, rfl, World.ownsRow_nil _ _ _ _, hb⟩
  go_enter Tryz.func84, Tryz.ntmps84
  by_cases s1 : 200 < a.size
  · have s1I : 200 < (a.size : Int) := by omega
    have hR := hno.out 1 w (by unfold checkI; rw [if_pos (.inl s1)]) (by decide) (Below.refl _ _)
    have hRH : Hid _ := hR
    clear hR hno
    go_wp2_with fail
    go_ret2
    exact hRH.out
  have s1I : ¬ 200 < (a.size : Int) := by omega
  by_cases s2 : 200 < b.size
  · have s2I : 200 < (b.size : Int) := by omega
    have hR := hno.out 1 w (by unfold checkI; rw [if_pos (.inr s2)]) (by decide) (Below.refl _ _)
    have hRH : Hid _ := hR
    clear hR hno
    go_wp2_with fail
    go_ret2
    exact hRH.out
  have s2I : ¬ 200 < (b.size : Int) := by omega
  go_wp2_with fail
  refine (lined_any a w h1).mono ?_
  rintro e w1 ⟨rfl, rfl⟩
  go_wp2_with fail
  refine (lined_any b w h2).mono ?_
  rintro e w1 ⟨rfl, rfl⟩
  cases n1 : hasNl a with
  | true =>
    have hR := hno.out 2 w (by unfold checkI; rw [if_neg (by omega), if_pos (.inl n1)]) (by decide) (Below.refl _ _)
    have hRH : Hid _ := hR
    clear hR hno n1
    go_wp2_with fail
    go_ret2
    exact hRH.out
  | false =>
  cases n2 : hasNl b with
  | true =>
    have hR := hno.out 2 w (by unfold checkI; rw [if_neg (by omega), if_pos (.inr n2)]) (by decide) (Below.refl _ _)
    have hRH : Hid _ := hR
    clear hR hno n1 n2
    go_wp2_with fail
    go_ret2
    exact hRH.out
  | false =>
  have hck : checkI a b = 0 := by unfold checkI; rw [if_neg (by omega), if_neg (by rw [n1, n2]; simp)]
  have hI : Hid (inl a b = foldR (Dn.wayM (lettersB a) (lettersB b)) (Dn.wayM (lettersB a) (lettersB b)).length ∧ checkI a b = 0) := by
    refine ⟨?_, hck⟩
    unfold inl inlineM
    rw [if_pos hck, foldR_all]
  have l1 := (letters_ok a).2.2
  have l2 := (letters_ok b).2.2
  clear hno n1 n2 hck
  go_wp2_with fail
  refine (refLetters_any a w (by omega)).mono ?_
  rintro e W1 ⟨a1, c1, rfl, o1, b1⟩
  have z1 := b1.size
  go_wp2_with fail
  refine (refLetters_any b W1 (by omega)).mono ?_
  rintro e W2 ⟨a2, c2, rfl, o2, b2⟩
  have z2 := b2.size
  have st1 := Strs.of_owns (owns_below o1 b2 (fun k e => (o1.lt k e).2))
  have st2 := Strs.of_owns o2
  go_wp2_with fail
  refine (way_row st1 st2 (by omega) (by omega)).mono ?_
  rintro e W3 ⟨aw, cw, rfl, ow, b3⟩
  have z3 := b3.size
  have hwl : (Dn.wayM (lettersB a) (lettersB b)).length ≤ 402 := by have := way_len (lettersB a) (lettersB b); omega
  have hS := StepsAt.of_ownsT ow
  have hsz : Hid (∀ s ∈ Dn.wayM (lettersB a) (lettersB b), s.text.size ≤ 200) := by
    intro s hs
    rcases way_text hs with h | h
    · have := letter_size h; omega
    · have := letter_size h; omega
  have hb3 := b1.trans ((b2.mono z1).trans (b3.mono (by omega)))
  have hsteps : Hid (∀ W, Below W3.heap.size W3 W → StepsAt W3.heap.size W (.slice aw (Dn.wayM (lettersB a) (lettersB b)).length cw) (Dn.wayM (lettersB a) (lettersB b))) := fun W hb => hS.below hb
  generalize lettersB a = La at *
  generalize lettersB b = Lb at *
  generalize Dn.wayM La Lb = L at *
  have hz03 : w.heap.size ≤ W3.heap.size := by omega
  clear l1 l2 o1 o2 b1 b2 b3 z1 z2 z3 st1 st2 ow
  go_wp2_with fail
  go_loopg [11, 12] L.length (fun g t11 t12 wk => ∃ (k : Nat) (al : Option Addr) (cl : Nat), g = L.length - k ∧ k ≤ L.length ∧ t12 = .int .i64 k ∧ t11 = .slice al (foldR L k).length cl ∧ wk.ownsRow W3.heap.size 101 2 (.slice al (foldR L k).length cl) (foldR L k).length (stepCells (foldR L k)) ∧ Below W3.heap.size W3 wk)
  case atStart => exact ⟨0, none, 0, by omega, by omega, rfl, rfl, World.ownsRow_nil _ _ _ _, Below.refl _ _⟩
  case round =>
    rename World => wk
    obtain ⟨k, al, cl, hgk, hkl, rfl, rfl, hown, hbk⟩ := hrel
    have hG : Hid (_ = L.length - k) := hgk
    clear hgk
    have hzk := hbk.size
    by_cases hlt : k < L.length
    · have hltI : (k : Int) < L.length := by omega
      obtain ⟨bw, rfl, hbw, x0, x1⟩ := (hsteps.out wk hbk).at hlt
      have hxs : Hid (∀ W, Below W3.heap.size W3 W → W.cell? ⟨bw, k * 2, none⟩ = some (.int .u8 (L[k].kind : Nat)) ∧ W.cell? ⟨bw, k * 2 + 1, none⟩ = some (.string L[k].text)) := fun W hb => by
        obtain ⟨b', e, _, h0, h1⟩ := (hsteps.out W hb).at hlt
        cases e
        exact ⟨h0, h1⟩
      have hpr : Hid (k ≠ 0 → ∃ K1 : Nat, wk.cell? ⟨bw, (k - 1) * 2, none⟩ = some (.int .u8 (K1 : Int)) ∧ newRun L k = decide (K1 ≠ L[k].kind)) := by
        intro h0
        obtain ⟨b', e, _, h1, _⟩ := (hsteps.out wk hbk).at (show k - 1 < L.length by omega)
        cases e
        refine ⟨_, h1, ?_⟩
        unfold newRun
        rw [getD_kind hlt, getD_kind (show k - 1 < L.length by omega)]
        simp [h0]
      have hn0 : Hid (k = 0 → newRun L k = true) := by intro h0; rw [h0]; simp [newRun]
      have hfs : Hid (foldR L (k + 1) = lastTx (if newRun L k = true then foldR L k ++ [⟨L[k].kind, ByteArray.empty⟩] else foldR L k) L[k].text) := by
        show _ = _
        conv => lhs; unfold foldR
        rw [getD_kind hlt]
      have hne : Hid (newRun L k = false → foldR L k ≠ []) := by
        intro h0
        refine foldR_ne L k ?_
        cases k with
        | zero => simp [newRun] at h0
        | succ k => omega
      have hfl := foldR_len L k
      have hTx : L[k].text.size ≤ 200 := hsz.out _ (List.getElem_mem hlt)
      have hRs : Hid (∀ r ∈ foldR L k, r.text.size ≤ k * 200) := foldR_size hsz.out k
      generalize L[k].kind = K at *
      generalize L[k].text = Tx at *
      generalize newRun L k = nr at *
      obtain ⟨R, hRe⟩ : ∃ R, foldR L k = R := ⟨_, rfl⟩
      rw [hRe] at hfs hne hfl hown hRs ⊢
      clear hRe
      obtain ⟨n, hne'⟩ : ∃ n, R.length = n := ⟨_, rfl⟩
      have hnR : Hid (R.length = n) := hne'
      rw [hne'] at hown hfl ⊢
      clear hne'
      go_upto_region 14 with fail
      go_cut [57] (fun s57 wx => s57 = .bool nr ∧ Below W3.heap.size W3 wx ∧ wx.heap = wk.heap)
      case first =>
        by_cases hk0 : k = 0
        · have hk0I : (((k : Nat) : Int) == 0) = true := by rw [hk0]; rfl
          have hnr := hn0.out hk0
          subst hnr
          clear hk0
          go_quiet (fail)
          go_wp2_with fail
          go_meet
          case rel => exact ⟨rfl, Below.drewN' hbk, rfl⟩
        · have hk0I : (((k : Nat) : Int) == 0) = false := by simp; omega
          obtain ⟨K1, c1, e1⟩ := hpr.out hk0
          have c1' : wk.cell? ⟨bw, ((k : Int) - 1).toNat * 2, none⟩ = some (.int .u8 (K1 : Int)) := by rw [show ((k : Int) - 1).toNat = k - 1 by omega]; exact c1
          have hd : Hid (nr = !decide (K1 = K)) := by show _ = _; rw [e1]; simp
          clear e1
          go_quiet (fail)
          go_wp2_with fail
          go_meet
          case rel => exact ⟨by rw [hd.out]; congr 1; rw [Bool.eq_iff_iff]; simp; try omega, Below.drewN' hbk, rfl⟩
      case rest =>
        obtain ⟨rfl, hb4, hh4⟩ := hcut
        obtain ⟨w4, rfl⟩ : ∃ w4, w4 = wc := ⟨_, rfl⟩
        have hown4 : w4.ownsRow W3.heap.size 101 2 (.slice al n cl) n (stepCells R) := owns_same hown fun g _ => by rw [hh4]
        have y0 := (hxs.out w4 hb4).1
        have hz4 := hb4.size
        clear hown x0 x1 hpr hn0 hh4
        go_upto_if 57 with fail
        go_cut [11] (fun s11 wx => ∃ (al' : Option Addr) (cl' : Nat) (R' : List StepB), s11 = .slice al' R'.length cl' ∧ wx.ownsRow W3.heap.size 101 2 (.slice al' R'.length cl') R'.length (stepCells R') ∧ Below W3.heap.size W3 wx ∧ Hid (R' = if nr = true then R ++ [⟨K, ByteArray.empty⟩] else R) ∧ R'.length ≤ 1000)
        case first =>
          cases nr with
          | false =>
            go_wp2_with fail
            go_meet
            case rel => exact ⟨al, cl, R, by rw [hnR.out], by rw [hnR.out]; exact hown4, hb4, by show _ = _; simp, by rw [hnR.out]; omega⟩
          | true =>
            have hon : ∀ u ∈ [Value.int .u8 (K : Int), Value.string ByteArray.empty], u.oneCell' = true := by intro u hu; simp at hu; rcases hu with rfl | rfl <;> rfl
            have hm1 : n + 1 ≤ maxLen := Nat.le_trans (show n + 1 ≤ 1000 by omega) (by decide)
            have hm2 : (n + 1) * 24 ≤ 140737488355328 := by omega
            go_wp2_with (at_builtin; refine wpList_append_own2 rfl (.tmp 58) (.tmp 65) 100 rfl W3.heap.size 101 i0 _ 2 24 Tryz.underlying100 hinf ix0 ix1 ix2 rfl (by decide) (.slice al n cl) n (stepCells R) rfl (hown4.alloc _) ⟨w4.heap.size, 0, none⟩ 1 1 [.int .u8 (K : Int), .string ByteArray.empty] rfl rfl (cells_new w4 _ _) hon hm1 hm2 (by simp; omega) ?_; intro v' w5 hown5 hgr hnew; obtain ⟨al5, cl5, rfl⟩ := owns_isSlice hown5; have hb5 := (hb4.alloc (by omega) _).grown hgr (by simp; omega) (fun j e => by have := (hown4.lt j e).1; omega))
            go_meet
            case rel => exact ⟨al5, cl5, R ++ [⟨K, ByteArray.empty⟩], by rw [List.length_append, hnR.out]; rfl, by rw [List.length_append, hnR.out, stepCells_append]; exact hown5, hb5, by show _ = _; simp, by rw [List.length_append, hnR.out]; show n + 1 ≤ 1000; omega⟩
        case rest =>
          obtain ⟨al', cl', R', rfl, hown5, hb5, hR', hlen⟩ := hcut
          obtain ⟨w5, rfl⟩ : ∃ w5, w5 = wc := ⟨_, rfl⟩
          have hne2 : R' ≠ [] := by
            rw [hR'.out]
            cases nr with
            | true => simp
            | false => simp; exact hne.out rfl
          obtain ⟨init, r, rfl⟩ : ∃ init r, R' = init ++ [r] := ⟨R'.dropLast, R'.getLast hne2, (List.dropLast_concat_getLast hne2).symm⟩
          have hfin : Hid (foldR L (k + 1) = init ++ [⟨r.kind, r.text ++ Tx⟩]) := by
            show _ = _
            rw [hfs.out, ← hR'.out, lastTx_append]
          have hrs : r.text.size ≤ 80400 := by
            have hk4 : k * 200 ≤ 80400 := by omega
            have hm : r ∈ init ++ [r] := by simp
            rw [hR'.out] at hm
            cases nr with
            | true =>
              simp only [if_true] at hm
              rcases List.mem_append.1 hm with h | h
              · exact Nat.le_trans (hRs.out r h) hk4
              · rw [List.mem_singleton] at h; rw [h]; exact Nat.zero_le _
            | false => exact Nat.le_trans (hRs.out r (by simpa using hm)) hk4
          have hcat : ¬ 9223372036854775807 < r.text.size + Tx.size := by omega
          have y1 := (hxs.out w5 hb5).2
          have hz5 := hb5.size
          rw [show (init ++ [r]).length = init.length + 1 by simp] at hown5 hlen ⊢
          obtain ⟨g, rfl, hg, _, r1⟩ := owns_run hown5 (i := init.length) (by simp)
          simp only [last_get] at r1
          obtain ⟨cur, hcur⟩ := owns_block hown5 (g := g) rfl
          have hfz : ∀ k, w5.frozen? ⟨g, k, none⟩ = false := fun k => frozen_of hcur
          have hgW : W3.heap.size ≤ g := (hown5.lt g rfl).1
          have hown6 : Hid (∀ W : World, W.heap = w5.heap → (W.setCell ⟨g, init.length * 2 + 1, none⟩ (.string (r.text ++ Tx))).ownsRow W3.heap.size 101 2 (.slice (some ⟨g, 0, none⟩) (init.length + 1) cl') (init.length + 1) (stepCells (init ++ [⟨r.kind, r.text ++ Tx⟩]))) := fun W hW => owns_setTx (owns_same hown5 fun g _ => by rw [hW]) _
          have hwv : IntKind.i64.wrap (init.length : Int) = init.length := by rw [IntKind.wrap_i64]; omega
          have hix : (init.length : Int) < ((init.length + 1 : Nat) : Int) := by omega
          have hix2 : (init.length : Int) < (init.length : Int) + 1 := by omega
          obtain ⟨p, hp⟩ : ∃ p, init.length = p := ⟨_, rfl⟩
          have hpH : Hid (init.length = p) := hp
          rw [hp] at r1 hown6 hwv hix hix2 hlen ⊢
          have hgb : ¬ g = bw := by omega
          have hgb' : ¬ bw = g := by omega
          have hbw5 : bw < w5.heap.size := by omega
          clear hown5 hown4 hp hne2 hR' hcur y0 hfs hne
          go_wp2_with fail
          go_region
          all_goals
            have hR : ∃ (k' : Nat) (al : Option Addr) (cl : Nat), L.length - (k + 1) = L.length - k' ∧ k' ≤ L.length ∧ Value.int .i64 ((k : Int) + 1) = .int .i64 k' ∧ Value.slice (some ⟨g, 0, none⟩) (p + 1) cl' = .slice al (foldR L k').length cl ∧ ((w5.setCell ⟨g, p * 2 + 1, none⟩ (.string (r.text ++ Tx))).drew).ownsRow W3.heap.size 101 2 (.slice al (foldR L k').length cl) (foldR L k').length (stepCells (foldR L k')) ∧ Below W3.heap.size W3 ((w5.setCell ⟨g, p * 2 + 1, none⟩ (.string (r.text ++ Tx))).drew) := by
              have hl : (foldR L (k + 1)).length = p + 1 := by rw [hfin.out, List.length_append, hpH.out]; rfl
              refine ⟨k + 1, some ⟨g, 0, none⟩, cl', rfl, by omega, by push_cast; rfl, by rw [hl], ?_, (hb5.setCell (p := ⟨g, p * 2 + 1, none⟩) hgW _).drew⟩
              rw [hl, hfin.out]
              exact hown6.out w5 rfl
            have hRH : Hid _ := hR
            clear hR hown6 hfin
            go_wp2_with fail
            go_roundg (L.length - (k + 1))
            · exact hRH.out
            · have := hG.out; omega
    · obtain rfl : k = L.length := by omega
      have hltI : ¬ ((L.length : Int) < L.length) := by omega
      have hR : ∃ al' cl', Ending.returned (.tuple #[.slice al (foldR L L.length).length cl, .int .i64 0]) = Ending.returned (.tuple #[.slice al' (inl a b).length cl', .int .i64 (checkI a b : Nat)]) ∧ wk.ownsRow w.heap.size 101 2 (.slice al' (inl a b).length cl') (inl a b).length (stepCells (inl a b)) ∧ Below w.heap.size w wk := by
        rw [hI.out.1, hI.out.2]
        exact ⟨al, cl, rfl, owns_mono hown hz03, hb3.trans (hbk.mono hz03)⟩
      have hRH : Hid _ := hR
      clear hR hown
      generalize foldR L L.length = FR at *
      go_wp2_with fail
      go_ret2
      exact hRH.out
end Go.Proofs.YtcclgodahlinbaaGreatDoor

namespace Go.Proofs.YtcclgodahlinbaaGreatDoor
open Go.RowKit Go
set_option maxRecDepth 100000

theorem HSo.same {base : Nat} {v : Value} {hv : List HV} {w w' : World} (h : HSo base v hv w) (hs : ∀ g, g < w.heap.size → w'.heap[g]? = w.heap[g]?) : HSo base v hv w' := by
  rcases h with h | ⟨g, cap, e, hb, s⟩
  · exact .inl h
  · exact .inr ⟨g, cap, e, hb, s.len, owns_same s.row fun k hk => hs k (s.row.lt k hk).2, fun p hp => owns_same (s.lines p hp) fun k hk => hs k ((s.lines p hp).lt k hk).2, s.apart⟩
/-- how much is kept -/
structure Room (M : Nat) (x : WV) (B : Bk) : Prop where
  c : x.c ≤ M
  h : B.h.length ≤ M
  l : B.l.length ≤ M
  s : B.s.length ≤ M
  r : B.r.length ≤ M
/-- a step of the script as a value, and as a block -/
abbrev opV (kd n : Int) (a b : ByteArray) (p : Value) : Value := .agg #[.int .i64 kd, .int .i64 n, .string a, .string b, p]
set_option maxHeartbeats 4000000 in
theorem diffs_ok {base wb M : Nat} {x : WV} {B : Bk} {w : World} {kd n m : Int} {a b : ByteArray} {ap : Option Addr} {np cp : Nat} (K : Kept base wb x B w) (R : Room M x B) (hM : M ≤ 600000000000) (hm : w.cell? ⟨0, 0, none⟩ = some (.int .i64 m)) (hbase : base ≤ w.heap.size)
    (h1 : a.size ≤ 4000000000) (h2 : b.size ≤ 4000000000) :
    Calls Tryz.prog 40 #[.pointer (some ⟨wb, 0, none⟩), .agg #[.int .i64 kd, .int .i64 n, .string a, .string b, .slice ap np cp]] w fun e w' => e = .returned (.bool true) ∧ ∃ (x' : WV) (B' : Bk), Kept base wb x' B' w' ∧ Room (M + 2000) x' B' ∧ Frame base w w' (fun _ => False) := by
  have hmlt := World.block_lt_of_cell? _ _ hm
  have hck := checkB_range a b n
  obtain ⟨W0, hW0⟩ : ∃ W0, w.alloc (.cells #[.int .i64 kd, .int .i64 n, .string a, .string b, .slice ap np cp] 57) = W0 := ⟨_, rfl⟩
  have b0 : Below w.heap.size w W0 := by rw [← hW0]; exact (Below.refl _ _).alloc (Nat.le_refl _) _
  have z0 : W0.heap.size = w.heap.size + 1 := by rw [← hW0]; simp
  have hO0 : W0.heap[w.heap.size]? = some (.cells #[.int .i64 kd, .int .i64 n, .string a, .string b, .slice ap np cp] 57 (0, 0)) := by rw [← hW0]; exact heap_alloc_new w _
  have hm0 : W0.cell? ⟨0, 0, none⟩ = some (.int .i64 m) := (b0.cell (p := ⟨0, 0, none⟩) hmlt).trans hm
  have o1 : W0.cell? ⟨w.heap.size, 1, none⟩ = some (.int .i64 n) := cell_of hO0 rfl
  have o2 : W0.cell? ⟨w.heap.size, 2, none⟩ = some (.string a) := cell_of hO0 rfl
  have o3 : W0.cell? ⟨w.heap.size, 3, none⟩ = some (.string b) := cell_of hO0 rfl
  have hsm := diffR_small a b n
  go_enter Tryz.func40, Tryz.ntmps40
  go_wp2_with fail
  clear hW0
  refine (diff_any (a := a) (b := b) (c := n) (m := m) (Nat.lt_of_le_of_lt h1 (by decide)) (Nat.lt_of_le_of_lt h2 (by decide)) hm0).mono ?_
  rintro e W1 ⟨al, cl, hv, rfl, hso, hmap, b1⟩
  have z1 := b1.size
  have b1' := b1.alloc b1.size (.cells #[.slice al hv.length cl] 32)
  have hP2 := heap_alloc_new W1 (.cells #[.slice al hv.length cl] 32)
  have z2 : (W1.alloc (.cells #[.slice al hv.length cl] 32)).heap.size = W1.heap.size + 1 := by simp
  have hso2 := hso.alloc (.cells #[.slice al hv.length cl] 32)
  have hO2 := (b1'.block w.heap.size (by omega)).trans hO0
  have p1 : (W1.alloc (.cells #[.slice al hv.length cl] 32)).cell? ⟨w.heap.size, 1, none⟩ = some (.int .i64 n) := cell_of hO2 rfl
  have p2 : (W1.alloc (.cells #[.slice al hv.length cl] 32)).cell? ⟨w.heap.size, 2, none⟩ = some (.string a) := cell_of hO2 rfl
  have p3 : (W1.alloc (.cells #[.slice al hv.length cl] 32)).cell? ⟨w.heap.size, 3, none⟩ = some (.string b) := cell_of hO2 rfl
  have hvl : Hid (hv.length = (diffR a b n).length) := by show _ = _; rw [← hmap, List.length_map]
  have hmapH : Hid (hv.map (·.1) = diffR a b n) := hmap
  obtain ⟨N, hN⟩ : ∃ N, hv.length = N := ⟨_, rfl⟩
  have hNH : Hid (hv.length = N) := hN
  rw [hN] at b1' hP2 z2 hso2 p1 p2 p3 ⊢
  clear o1 o2 o3 hmap hN hso
  go_wp2_with fail
  generalize W1.alloc (.cells #[.slice al N cl] 32) = W2 at *
  refine (refDiff_any (a := a) (b := b) (c := n) (w := W2) h1 h2).mono ?_
  rintro e W3 ⟨aq, cq, rfl, hq, b3⟩
  have z3 := b3.size
  have hqn : (diffR a b n).length = N := by rw [← hvl.out, hNH.out]
  rw [hqn] at hq ⊢
  have b3' := b3.alloc b3.size (.cells #[.slice aq N cq] 32)
  have hQ4 := heap_alloc_new W3 (.cells #[.slice aq N cq] 32)
  have z4 : (W3.alloc (.cells #[.slice aq N cq] 32)).heap.size = W3.heap.size + 1 := by simp
  have hq4 := (hq.below ((Below.refl W3.heap.size W3).alloc (Nat.le_refl _) (.cells #[.slice aq N cq] 32))).mono (show W3.heap.size ≤ (W3.alloc (.cells #[.slice aq N cq] 32)).heap.size by simp)
  have hP4 := (b3'.block W1.heap.size (by omega)).trans hP2
  have hso4 := hso2.same (w' := W3.alloc (.cells #[.slice aq N cq] 32)) fun g hg => b3'.block g hg
  have r1 : (W3.alloc (.cells #[.slice aq N cq] 32)).cell? ⟨W1.heap.size, 0, none⟩ = some (.slice al N cl) := cell_of hP4 rfl
  have r2 : (W3.alloc (.cells #[.slice aq N cq] 32)).cell? ⟨W3.heap.size, 0, none⟩ = some (.slice aq N cq) := cell_of hQ4 rfl
  clear p1 p2 p3 hq
  go_wp2_with fail
  generalize W3.alloc (.cells #[.slice aq N cq] 32) = W4 at *
  have hA := HunksAt.of_owns hso4
  rw [hmapH.out] at hA
  have hcall := lsame_yes (hs := diffR a b n) (a := al) (b := aq) (ca := cl) (cb := cq) (w := W4) (by rw [hqn]; exact hA) (by rw [hqn]; exact hq4) (Nat.le_trans hsm.1 (by decide)) (fun h hh => Nat.le_trans (hsm.2 h hh) (by decide))
  rw [hqn] at hcall
  refine hcall.mono ?_
  rintro e W5 ⟨rfl, b5⟩
  have z5 := b5.size
  clear hcall hA hq4 hQ4 r1 r2
  have hP5 := (b5.block W1.heap.size (by omega)).trans hP4
  have s1 : W5.cell? ⟨W1.heap.size, 0, none⟩ = some (.slice al N cl) := cell_of hP5 rfl
  have hbAll : Below w.heap.size w W5 := b0.trans ((b1'.mono (by omega)).trans ((b3'.mono (by omega)).trans (b5.mono (by omega))))
  have hso5 := hso4.same (w' := W5) fun g hg => b5.block g hg
  have K5 := K.old (W' := W5) fun g hg => hbAll.block g hg
  have hzw := hbAll.size
  have hpc : Hid (Calls Tryz.prog 82 #[.pointer (some ⟨wb, 0, none⟩), .agg #[.slice al N cl]] W5 fun e w' => e = .returned (.tuple #[]) ∧ ∃ (x' : WV) (B' : Bk), Kept base wb x' B' w' ∧ Room (M + 2000) x' B' ∧ Frame base w w' (fun _ => False)) := by
    have hNl : N ≤ 402 := by rw [← hqn]; exact hsm.1
    have hmem : ∀ p ∈ hv, p.1.lines.length ≤ 402 := fun p hp => hsm.2 p.1 (by rw [← hmapH.out]; exact List.mem_map_of_mem hp)
    have hc := patch_ok (bl := W0.heap.size) (al := al) (cl := cl) (hv := hv) K5 (by rw [hNH.out]; exact hso5) (by rw [hNH.out]; omega) (fun p hp => Nat.le_trans (hmem p hp) (by decide)) (fun p hp g e => by have := ((K.l.ok p hp).lt g e).1; omega) (fun p hp g e => by have := ((K.h.ok p hp).lt g e).1; omega) (by omega) (by omega) (by have := R.c; omega) (by have := R.l; omega) (by have := R.h; omega)
    rw [hNH.out] at hc
    refine hc.mono ?_
    rintro e w' ⟨rfl, x', B', k1, k2, k3, k4, k5, k6, k7⟩
    refine ⟨rfl, x', B', k1, ⟨?_, ?_, ?_, ?_, ?_⟩, ⟨?_, fun g hg => ?_, (Outs.of_below hbAll).trans k7.2.2⟩⟩
    · have := R.c; rw [k6]; omega
    · have := R.h; rw [k4]; omega
    · have := R.l; rw [k5]; omega
    · have := R.s; rw [k2]; omega
    · have := R.r; rw [k3]; omega
    · have := k7.1; omega
    · have e1 := hbAll.block g hg
      rcases k7.2.1 g (by omega) with e | e | e
      · exact .inl (e.trans e1)
      · omega
      · rw [e1] at e; exact .inr (.inr e)
  have e0 : ∀ x : Int, (x == x) = true := by simp
  generalize checkB a b n = ck at *
  clear K5 hso5 hso4 hso2 hP5 hP4 hP2 K b0 b1 b1' b3 b3' b5 hO0 hO2 hsm
  go_wp2_with fail
  refine hpc.out.mono ?_
  rintro e W6 ⟨rfl, hR⟩
  have hRH : Hid _ := hR
  clear hR hpc
  go_wp2_with fail
  go_ret
  exact ⟨by first | rfl | simp, hRH.out⟩
end Go.Proofs.YtcclgodahlinbaaGreatDoor

namespace Go.Proofs.YtcclgodahlinbaaGreatDoor
open Go.RowKit Go
set_option maxRecDepth 100000

theorem inl_small (a b : ByteArray) : (inl a b).length ≤ 402 := by
  unfold inl
  by_cases h : checkI a b = 0
  · rw [if_pos h]
    unfold inlineM
    rw [← foldR_all]
    have hsz : a.size ≤ 200 ∧ b.size ≤ 200 := by
      unfold checkI at h
      split at h
      · cases h
      · omega
    have l1 := (letters_ok a).2.2
    have l2 := (letters_ok b).2.2
    have hw := way_len (lettersB a) (lettersB b)
    have := foldR_len (Dn.wayM (lettersB a) (lettersB b)) (Dn.wayM (lettersB a) (lettersB b)).length
    omega
  · rw [if_neg h]
    exact Nat.zero_le _
theorem checkI_range (a b : ByteArray) : checkI a b ≤ 3 := by
  unfold checkI
  repeat' split
  all_goals omega
set_option maxHeartbeats 4000000 in
theorem inlines_ok {base wb M : Nat} {x : WV} {B : Bk} {w : World} {kd n : Int} {a b : ByteArray} {ap : Option Addr} {np cp : Nat} (K : Kept base wb x B w) (R : Room M x B) (hM : M ≤ 600000000000) (hbase : base ≤ w.heap.size)
    (h1 : a.size ≤ 4000000000) (h2 : b.size ≤ 4000000000) :
    Calls Tryz.prog 41 #[.pointer (some ⟨wb, 0, none⟩), .agg #[.int .i64 kd, .int .i64 n, .string a, .string b, .slice ap np cp]] w fun e w' => e = .returned (.bool true) ∧ ∃ (x' : WV) (B' : Bk), Kept base wb x' B' w' ∧ Room (M + 2000) x' B' ∧ Frame base w w' (fun _ => False) := by
  have hck := checkI_range a b
  obtain ⟨W0, hW0⟩ : ∃ W0, w.alloc (.cells #[.int .i64 kd, .int .i64 n, .string a, .string b, .slice ap np cp] 57) = W0 := ⟨_, rfl⟩
  have b0 : Below w.heap.size w W0 := by rw [← hW0]; exact (Below.refl _ _).alloc (Nat.le_refl _) _
  have z0 : W0.heap.size = w.heap.size + 1 := by rw [← hW0]; simp
  have hO0 : W0.heap[w.heap.size]? = some (.cells #[.int .i64 kd, .int .i64 n, .string a, .string b, .slice ap np cp] 57 (0, 0)) := by rw [← hW0]; exact heap_alloc_new w _
  have o2 : W0.cell? ⟨w.heap.size, 2, none⟩ = some (.string a) := cell_of hO0 rfl
  have o3 : W0.cell? ⟨w.heap.size, 3, none⟩ = some (.string b) := cell_of hO0 rfl
  have hsm := inl_small a b
  have hc1 := inline_any a b W0
  have hc2 : Hid (∀ W : World, Calls Tryz.prog 84 #[.string a, .string b] W fun e w' => ∃ al cl, e = .returned (.tuple #[.slice al (inl a b).length cl, .int .i64 (checkI a b : Nat)]) ∧ w'.ownsRow W.heap.size 101 2 (.slice al (inl a b).length cl) (inl a b).length (stepCells (inl a b)) ∧ Below W.heap.size W w') := fun W => refInline_any a b W h1 h2
  generalize checkI a b = ck at *
  generalize inl a b = RS at *
  go_enter Tryz.func41, Tryz.ntmps41
  go_wp2_with fail
  clear hW0
  refine hc1.mono ?_
  rintro e W1 ⟨al, cl, rfl, ow1, b1⟩
  have z1 := b1.size
  have hO1 := (b1.block w.heap.size (by omega)).trans hO0
  have p2 : W1.cell? ⟨w.heap.size, 2, none⟩ = some (.string a) := cell_of hO1 rfl
  have p3 : W1.cell? ⟨w.heap.size, 3, none⟩ = some (.string b) := cell_of hO1 rfl
  clear o2 o3 hO0 hc1
  go_wp2_with fail
  refine (hc2.out W1).mono ?_
  rintro e W2 ⟨am, cm, rfl, ow2, b2⟩
  have z2 := b2.size
  have ow12 := owns_below ow1 b2 (fun k e => (ow1.lt k e).2)
  have hbAll : Below w.heap.size w W2 := b0.trans ((b1.mono (by omega)).trans (b2.mono (by omega)))
  have e0 : ∀ x : Int, (x == x) = true := by simp
  have e1 : ∀ x : ByteArray, (x.toList == x.toList) = true := by simp
  obtain ⟨N, hN⟩ : ∃ N, RS.length = N := ⟨_, rfl⟩
  have hNH : Hid (RS.length = N) := hN
  have hrun1 : Hid (∀ W, Below W2.heap.size W2 W → ∀ i (hi : i < RS.length), ∃ g, al = some ⟨g, 0, none⟩ ∧ g < W2.heap.size ∧ W.cell? ⟨g, i * 2, none⟩ = some (.int .u8 (RS[i].kind : Nat)) ∧ W.cell? ⟨g, i * 2 + 1, none⟩ = some (.string RS[i].text)) := fun W hb i hi => by
    obtain ⟨g, e, hg, q0, q1⟩ := owns_run ow12 hi
    exact ⟨g, e, hg, (hb.cell (p := ⟨g, i * 2, none⟩) hg).trans q0, (hb.cell (p := ⟨g, i * 2 + 1, none⟩) hg).trans q1⟩
  have hrun2 : Hid (∀ W, Below W2.heap.size W2 W → ∀ i (hi : i < RS.length), ∃ g, am = some ⟨g, 0, none⟩ ∧ g < W2.heap.size ∧ W.cell? ⟨g, i * 2, none⟩ = some (.int .u8 (RS[i].kind : Nat)) ∧ W.cell? ⟨g, i * 2 + 1, none⟩ = some (.string RS[i].text)) := fun W hb i hi => by
    obtain ⟨g, e, hg, q0, q1⟩ := owns_run ow2 hi
    exact ⟨g, e, hg, (hb.cell (p := ⟨g, i * 2, none⟩) hg).trans q0, (hb.cell (p := ⟨g, i * 2 + 1, none⟩) hg).trans q1⟩
  rw [hN] at ow12 hsm ⊢
  clear hN p2 p3 ow1 ow2 hO1
  go_wp2_with fail
  go_loopg [9, 10] N (fun g t9 t10 wi => ∃ k : Nat, g = N - k ∧ k ≤ N ∧ t9 = .bool true ∧ t10 = .int .i64 k ∧ Below W2.heap.size W2 wi)
  case atStart => exact ⟨0, by omega, by omega, by first | rfl | simp, rfl, Below.refl _ _⟩
  case round =>
    rename World => wi
    obtain ⟨k, hgk, hkN, rfl, rfl, hbi⟩ := hrel
    have hG : Hid (_ = N - k) := hgk
    clear hgk
    by_cases hk : k < N
    · have hkI : (k : Int) < N := by omega
      have hk' : k < RS.length := by rw [hNH.out]; exact hk
      obtain ⟨g1, rfl, hg1, c0, c1⟩ := hrun1.out wi hbi k hk'
      obtain ⟨g2, rfl, hg2, d0, d1⟩ := hrun2.out wi hbi k hk'
      generalize RS[k].kind = Kk at *
      generalize RS[k].text = Tk at *
      go_wp2_with fail
      go_quiet (fail)
      go_wp2_with fail
      go_roundg (N - (k + 1))
      · exact ⟨k + 1, rfl, by omega, by first | rfl | simp, by push_cast; rfl, Below.drewN' hbi⟩
      · have := hG.out; omega
    · have hkI : ¬ ((k : Int) < N) := by omega
      have hbw : Below w.heap.size w wi := hbAll.trans (hbi.mono (by omega))
      have Ki := K.old (W' := wi) fun g hg => hbw.block g hg
      have hzw := hbw.size
      have hzi := hbi.size
      have hpc : Hid (Calls Tryz.prog 85 #[.pointer (some ⟨wb, 0, none⟩), .slice al N cl] wi fun e w' => e = .returned (.tuple #[]) ∧ ∃ (x' : WV) (B' : Bk), Kept base wb x' B' w' ∧ Room (M + 2000) x' B' ∧ Frame base w w' (fun _ => False)) := by
        have hrow : wi.ownsRow W0.heap.size 101 2 (.slice al N cl) N (stepCells RS) := owns_same ow12 fun g hg => hbi.block g (ow12.lt g hg).2
        refine (runsOf_ok (bl := W0.heap.size) Ki hrow (by omega) (fun p hp => ?_) (by omega) (by omega) (by have := R.c; omega) (by have := R.r; omega)).mono ?_
        · cases hq : p.1.ownBlock with
          | none => exact .inl rfl
          | some g =>
            right
            intro e
            have q1 := ((K.r.ok p hp).lt g hq).1
            have q2 := (hrow.lt g e.symm).1
            omega
        rintro e w' ⟨rfl, x', E, k1, k2, k3, k4, k5⟩
        refine ⟨rfl, x', _, k1, ⟨?_, ?_, ?_, ?_, ?_⟩, ⟨?_, fun g hg => ?_, (Outs.of_below hbw).trans k5.2.2⟩⟩
        · have := R.c; rw [k3]; omega
        · have := R.h; show B.h.length ≤ _; omega
        · have := R.l; show B.l.length ≤ _; omega
        · have := R.s; show B.s.length ≤ _; omega
        · have := R.r; show (B.r ++ E).length ≤ _; rw [List.length_append, k2]; omega
        · have := k5.1; omega
        · have q1 := hbw.block g hg
          rcases k5.2.1 g (by omega) with e | e | e
          · exact .inl (e.trans q1)
          · have := (hrow.lt g e.symm).1; omega
          · rw [q1] at e; exact .inr (.inr e)
      clear Ki K ow12 hrun1 hrun2 b0 b1 b2 hbAll
      go_wp2_with fail
      refine hpc.out.mono ?_
      rintro e W6 ⟨rfl, hR⟩
      have hRH : Hid _ := hR
      clear hR hpc
      go_wp2_with fail
      go_ret
      exact ⟨by first | rfl | simp, hRH.out⟩
end Go.Proofs.YtcclgodahlinbaaGreatDoor

namespace Go.Proofs.YtcclgodahlinbaaGreatDoor
open Go.RowKit Go
set_option maxRecDepth 100000

theorem cell_row {W : World} {g o t : Nat} {cur : Array Value} {fr : Nat × Nat} (h : W.heap[g]? = some (.cells cur t fr)) : W.cell? ⟨g, o, none⟩ = cur[o]? := by
  cases hc : cur[o]? with
  | some v => exact cell_of h hc
  | none => simp [World.cell?, h, hc]
theorem KeptK.look {base rowT markT T k : Nat} {pat : Value → List Value} {v vm : Value} {E : List (Value × Value)} {W : World} (K : KeptK base rowT markT T k pat v vm E W) :
    ∃ a c a' c', v = .slice a E.length c ∧ vm = .slice a' E.length c' ∧ ∀ i, i < E.length → ∃ g g' al n cl mv, a = some ⟨g, 0, none⟩ ∧ a' = some ⟨g', 0, none⟩ ∧ n ≤ 2000 ∧ MarkV markT mv ∧ (∀ W', Below W.heap.size W W' → W'.cell? ⟨g, i, none⟩ = some (.slice al n cl) ∧ W'.cell? ⟨g', i, none⟩ = some mv) ∧
      ∀ j, j < n → ∃ b, al = some ⟨b, 0, none⟩ ∧ b < W.heap.size ∧ ∀ W', Below W.heap.size W W' → ∀ t, t < k → W'.cell? ⟨b, j * k + t, none⟩ = (pat mv)[t]? := by
  obtain ⟨a, c, e1⟩ := owns_isSlice K.row
  obtain ⟨a', c', e2⟩ := owns_isSlice K.marks
  refine ⟨a, c, a', c', e1, e2, fun i hi => ?_⟩
  have r1 := K.row
  have r2 := K.marks
  rw [e1] at r1
  rw [e2] at r2
  obtain ⟨g, _, e3, _, hg, _⟩ := owns_slice r1 (by omega)
  obtain ⟨g', _, e4, _, hg', _⟩ := owns_slice r2 (by omega)
  have hag : a = some ⟨g, 0, none⟩ := by cases e3; rfl
  have hag' : a' = some ⟨g', 0, none⟩ := by cases e4; rfl
  subst hag
  subst hag'
  have c1 := r1.cellAt i (by omega)
  have c2 := r2.cellAt i (by omega)
  have hi1 : i < (E.map (·.1)).length := by simpa using hi
  have hi2 : i < (E.map (·.2)).length := by simpa using hi
  rw [List.getElem?_eq_getElem hi1, List.getElem_map] at c1
  rw [List.getElem?_eq_getElem hi2, List.getElem_map] at c2
  obtain ⟨al, n, cl, e5, hn, hM⟩ := K.ok E[i] (List.getElem_mem hi)
  rw [e5] at c1
  refine ⟨g, g', al, n, cl, E[i].2, rfl, rfl, hn, K.mv E[i] (List.getElem_mem hi), fun W' hb => ⟨(hb.cell (p := ⟨g, i, none⟩) hg).trans c1, (hb.cell (p := ⟨g', i, none⟩) hg').trans c2⟩, fun j hj => ?_⟩
  rcases hM with ⟨h0, _⟩ | ⟨b, cur, fr, rfl, hbb, hc⟩
  · omega
  · have hlt := (Array.getElem?_eq_some_iff.1 hbb).1
    refine ⟨b, rfl, hlt, fun W2 hb2 t ht => ?_⟩
    rw [← hc j hj t ht, hb2.cell (p := ⟨b, j * k + t, none⟩) hlt]
    exact cell_row hbb
set_option maxHeartbeats 16000000 in
theorem still_ok {base wb : Nat} {x : WV} {B : Bk} {w : World} (K : Kept base wb x B w) (lh : B.h.length ≤ 900000000000) (ll : B.l.length ≤ 900000000000) (ls : B.s.length ≤ 900000000000) (lr : B.r.length ≤ 900000000000) :
    Calls Tryz.prog 22 #[.pointer (some ⟨wb, 0, none⟩)] w fun e w' => e = .returned (.bool true) ∧ Below w.heap.size w w' := by
  have hwb : wb < w.heap.size := (Array.getElem?_eq_some_iff.1 K.blk).1
  have hx : Hid (∀ W, Below w.heap.size w W → W.heap[wb]? = some x.obj) := fun W hb => (hb.block wb hwb).trans K.blk
  obtain ⟨ah, ch, ah', ch', eh, ehm, Lh⟩ := K.h.look
  obtain ⟨al, cl, al', cl', el, elm, Ll⟩ := K.l.look
  obtain ⟨aS, cs, aS', cs', es, esm, Ls⟩ := K.s.look
  obtain ⟨ar, cr, ar', cr', er, erm, Lr⟩ := K.r.look
  have Lh : Hid _ := Lh
  have Ll : Hid _ := Ll
  have Ls : Hid _ := Ls
  have Lr : Hid _ := Lr
  have hcell : Hid (∀ W, Below w.heap.size w W → W.cell? ⟨wb, 0, none⟩ = some (.slice ah B.h.length ch) ∧ W.cell? ⟨wb, 1, none⟩ = some (.slice ah' B.h.length ch') ∧ W.cell? ⟨wb, 2, none⟩ = some (.slice al B.l.length cl) ∧ W.cell? ⟨wb, 3, none⟩ = some (.slice al' B.l.length cl') ∧ W.cell? ⟨wb, 4, none⟩ = some (.slice aS B.s.length cs) ∧ W.cell? ⟨wb, 5, none⟩ = some (.slice aS' B.s.length cs') ∧ W.cell? ⟨wb, 6, none⟩ = some (.slice ar B.r.length cr) ∧ W.cell? ⟨wb, 7, none⟩ = some (.slice ar' B.r.length cr')) := by
    intro W hb
    have h := hx.out W hb
    rw [← eh, ← ehm, ← el, ← elm, ← es, ← esm, ← er, ← erm]
    exact ⟨cell_of h rfl, cell_of h rfl, cell_of h rfl, cell_of h rfl, cell_of h rfl, cell_of h rfl, cell_of h rfl, cell_of h rfl⟩
  have nh : Hid (B.h.length = B.h.length) := rfl
  generalize B.h.length = Nh at *
  generalize B.l.length = Nl at *
  generalize B.s.length = Ns at *
  generalize B.r.length = Nr at *
  clear K hx eh ehm el elm es esm er erm nh
  have e0 : ∀ x : Int, (x != x) = false := by simp
  have e1 : ∀ x : ByteArray, (x.toList == x.toList) = true := by simp
  go_enter Tryz.func22, Tryz.ntmps22
  go_wp2_with fail
  go_loopg [3] Nh (fun g t wr => ∃ i : Nat, g = Nh - i ∧ i ≤ Nh ∧ t = .int .i64 i ∧ Below w.heap.size w wr)
  case atStart => exact ⟨0, by omega, by omega, rfl, Below.refl _ _⟩
  case round =>
    rename World => wr
    obtain ⟨i, hgi, hiN, rfl, hbr⟩ := hrel
    have hG : Hid (_ = Nh - i) := hgi
    clear hgi
    have hc := hcell.out wr hbr
    have p0 := hc.1
    clear hc
    by_cases hi : i < Nh
    · have hiI : (i : Int) < Nh := by omega
      obtain ⟨g, g', ae, n, ce, mv, rfl, rfl, hn, hmv, hd, hel⟩ := Lh.out i hi
      have hd : Hid _ := hd
      have hel : Hid _ := hel
      obtain ⟨d0, d1⟩ := hd.out wr hbr
      obtain ⟨c, hcb, rfl⟩ := hmv.1 rfl
      clear hmv
      go_wp2_with fail
      go_loopg [4] n (fun g t wi => ∃ k : Nat, g = n - k ∧ k ≤ n ∧ t = .int .i64 k ∧ Below w.heap.size w wi)
      case atStart => exact ⟨0, by omega, by omega, rfl, hbr⟩
      case round =>
        rename World => wi
        obtain ⟨k, hgk, hkn, rfl, hbi⟩ := hrel
        have hGk : Hid (_ = n - k) := hgk
        clear hgk p0 d0 d1
        have hc := hcell.out wi hbi
        have p0 := hc.1
        have p1 := hc.2.1
        clear hc
        obtain ⟨d0, d1⟩ := hd.out wi hbi
        have hzi := hbi.size
        by_cases hk : k < n
        · have hkI : (k : Int) < n := by omega
          obtain ⟨b, rfl, hb, hcl⟩ := hel.out k hk
          have c0 : wi.cell? ⟨b, k * 5, none⟩ = some (.int .i64 (-(c : Int))) := hcl wi hbi 0 (by decide)
          have c1 : wi.cell? ⟨b, k * 5 + 1, none⟩ = some (.int .i64 0) := hcl wi hbi 1 (by decide)
          have c2 : wi.cell? ⟨b, k * 5 + 2, none⟩ = some (.int .i64 (c : Int)) := hcl wi hbi 2 (by decide)
          have c3 : wi.cell? ⟨b, k * 5 + 3, none⟩ = some (.int .i64 0) := hcl wi hbi 3 (by decide)
          have c4 : wi.cell? ⟨b, k * 5 + 4, none⟩ = some (.slice none 0 0) := hcl wi hbi 4 (by decide)
          clear hcl
          have hbU := hbi.alloc hzi (Obj.cells #[.int .i64 (-(c : Int)), .int .i64 0, .int .i64 (c : Int), .int .i64 0, .slice none 0 0] 61)
          have hX := heap_alloc_new wi (Obj.cells #[.int .i64 (-(c : Int)), .int .i64 0, .int .i64 (c : Int), .int .i64 0, .slice none 0 0] 61)
          have hcU := hcell.out (wi.alloc (Obj.cells #[.int .i64 (-(c : Int)), .int .i64 0, .int .i64 (c : Int), .int .i64 0, .slice none 0 0] 61)) hbU
          have u1 := hcU.2.1
          obtain ⟨_, v1⟩ := hd.out (wi.alloc (Obj.cells #[.int .i64 (-(c : Int)), .int .i64 0, .int .i64 (c : Int), .int .i64 0, .slice none 0 0] 61)) hbU
          have z0 : (wi.alloc (Obj.cells #[.int .i64 (-(c : Int)), .int .i64 0, .int .i64 (c : Int), .int .i64 0, .slice none 0 0] 61)).cell? ⟨wi.heap.size, 0, none⟩ = some (.int .i64 (-(c : Int))) := cell_of hX rfl
          have z1 : (wi.alloc (Obj.cells #[.int .i64 (-(c : Int)), .int .i64 0, .int .i64 (c : Int), .int .i64 0, .slice none 0 0] 61)).cell? ⟨wi.heap.size, 1, none⟩ = some (.int .i64 0) := cell_of hX rfl
          have z2 : (wi.alloc (Obj.cells #[.int .i64 (-(c : Int)), .int .i64 0, .int .i64 (c : Int), .int .i64 0, .slice none 0 0] 61)).cell? ⟨wi.heap.size, 2, none⟩ = some (.int .i64 (c : Int)) := cell_of hX rfl
          have z3 : (wi.alloc (Obj.cells #[.int .i64 (-(c : Int)), .int .i64 0, .int .i64 (c : Int), .int .i64 0, .slice none 0 0] 61)).cell? ⟨wi.heap.size, 3, none⟩ = some (.int .i64 0) := cell_of hX rfl
          have z4 : (wi.alloc (Obj.cells #[.int .i64 (-(c : Int)), .int .i64 0, .int .i64 (c : Int), .int .i64 0, .slice none 0 0] 61)).cell? ⟨wi.heap.size, 4, none⟩ = some (.slice none 0 0) := cell_of hX rfl
          clear hX hcU
          go_wp2_with fail
          generalize wi.alloc (Obj.cells #[.int .i64 (-(c : Int)), .int .i64 0, .int .i64 (c : Int), .int .i64 0, .slice none 0 0] 61) = U at *
          clear p0 p1 d0 d1 c0 c1 c2 c3 c4
          go_quiet (fail)
          go_wp2_with fail
          go_roundg (n - (k + 1))
          · exact ⟨k + 1, rfl, by omega, by push_cast; rfl, Below.drewN' hbU⟩
          · have := hGk.out; omega
        · have hkI : ¬ ((k : Int) < n) := by omega
          go_wp2_with fail
          go_roundg (Nh - (i + 1))
          · exact ⟨i + 1, rfl, by omega, by push_cast; rfl, hbi⟩
          · have := hG.out; omega
    · have hiI : ¬ ((i : Int) < Nh) := by omega
      go_wp2_with fail
      go_loopg [6] Nl (fun g t wr => ∃ i : Nat, g = Nl - i ∧ i ≤ Nl ∧ t = .int .i64 i ∧ Below w.heap.size w wr)
      case atStart => exact ⟨0, by omega, by omega, rfl, hbr⟩
      case round =>
        rename World => wr
        obtain ⟨i, hgi, hiN, rfl, hbr⟩ := hrel
        have hG : Hid (_ = Nl - i) := hgi
        clear hgi
        have hc := hcell.out wr hbr
        have p0 := hc.2.2.1
        clear hc
        by_cases hi : i < Nl
        · have hiI : (i : Int) < Nl := by omega
          obtain ⟨g, g', ae, n, ce, mv, rfl, rfl, hn, hmv, hd, hel⟩ := Ll.out i hi
          have hd : Hid _ := hd
          have hel : Hid _ := hel
          obtain ⟨d0, d1⟩ := hd.out wr hbr
          obtain ⟨t, rfl⟩ := hmv.2 rfl
          clear hmv
          go_wp2_with fail
          go_loopg [7] n (fun g t wi => ∃ k : Nat, g = n - k ∧ k ≤ n ∧ t = .int .i64 k ∧ Below w.heap.size w wi)
          case atStart => exact ⟨0, by omega, by omega, rfl, hbr⟩
          case round =>
            rename World => wi
            obtain ⟨k, hgk, hkn, rfl, hbi⟩ := hrel
            have hGk : Hid (_ = n - k) := hgk
            clear hgk p0 d0 d1
            have hc := hcell.out wi hbi
            have p0 := hc.2.2.1
            have p1 := hc.2.2.2.1
            clear hc
            obtain ⟨d0, d1⟩ := hd.out wi hbi
            have hzi := hbi.size
            by_cases hk : k < n
            · have hkI : (k : Int) < n := by omega
              obtain ⟨b, rfl, hb, hcl⟩ := hel.out k hk
              have c0 : wi.cell? ⟨b, k * 2, none⟩ = some (.int .u8 63) := hcl wi hbi 0 (by decide)
              have c1 : wi.cell? ⟨b, k * 2 + 1, none⟩ = some (.string t) := hcl wi hbi 1 (by decide)
              clear hcl
              go_wp2_with fail
              go_quiet (fail)
              go_wp2_with fail
              go_roundg (n - (k + 1))
              · exact ⟨k + 1, rfl, by omega, by push_cast; rfl, Below.drewN' hbi⟩
              · have := hGk.out; omega
            · have hkI : ¬ ((k : Int) < n) := by omega
              go_wp2_with fail
              go_roundg (Nl - (i + 1))
              · exact ⟨i + 1, rfl, by omega, by push_cast; rfl, hbi⟩
              · have := hG.out; omega
        · have hiI : ¬ ((i : Int) < Nl) := by omega
          go_wp2_with fail
          go_loopg [8] Ns (fun g t wr => ∃ i : Nat, g = Ns - i ∧ i ≤ Ns ∧ t = .int .i64 i ∧ Below w.heap.size w wr)
          case atStart => exact ⟨0, by omega, by omega, rfl, hbr⟩
          case round =>
            rename World => wr
            obtain ⟨i, hgi, hiN, rfl, hbr⟩ := hrel
            have hG : Hid (_ = Ns - i) := hgi
            clear hgi
            have hc := hcell.out wr hbr
            have p0 := hc.2.2.2.2.1
            clear hc
            by_cases hi : i < Ns
            · have hiI : (i : Int) < Ns := by omega
              obtain ⟨g, g', ae, n, ce, mv, rfl, rfl, hn, hmv, hd, hel⟩ := Ls.out i hi
              have hd : Hid _ := hd
              have hel : Hid _ := hel
              obtain ⟨d0, d1⟩ := hd.out wr hbr
              obtain ⟨c, hcb, rfl⟩ := hmv.1 rfl
              clear hmv
              go_wp2_with fail
              go_loopg [9] n (fun g t wi => ∃ k : Nat, g = n - k ∧ k ≤ n ∧ t = .int .i64 k ∧ Below w.heap.size w wi)
              case atStart => exact ⟨0, by omega, by omega, rfl, hbr⟩
              case round =>
                rename World => wi
                obtain ⟨k, hgk, hkn, rfl, hbi⟩ := hrel
                have hGk : Hid (_ = n - k) := hgk
                clear hgk p0 d0 d1
                have hc := hcell.out wi hbi
                have p0 := hc.2.2.2.2.1
                have p1 := hc.2.2.2.2.2.1
                clear hc
                obtain ⟨d0, d1⟩ := hd.out wi hbi
                have hzi := hbi.size
                by_cases hk : k < n
                · have hkI : (k : Int) < n := by omega
                  obtain ⟨b, rfl, hb, hcl⟩ := hel.out k hk
                  have c0 : wi.cell? ⟨b, k * 3, none⟩ = some (.bool false) := hcl wi hbi 0 (by decide)
                  have c1 : wi.cell? ⟨b, k * 3 + 1, none⟩ = some (.int .i64 (c : Int)) := hcl wi hbi 1 (by decide)
                  have c2 : wi.cell? ⟨b, k * 3 + 2, none⟩ = some (.int .i64 (-(c : Int))) := hcl wi hbi 2 (by decide)
                  clear hcl
                  go_wp2_with fail
                  go_quiet (fail)
                  go_wp2_with fail
                  go_roundg (n - (k + 1))
                  · exact ⟨k + 1, rfl, by omega, by push_cast; rfl, Below.drewN' hbi⟩
                  · have := hGk.out; omega
                · have hkI : ¬ ((k : Int) < n) := by omega
                  go_wp2_with fail
                  go_roundg (Ns - (i + 1))
                  · exact ⟨i + 1, rfl, by omega, by push_cast; rfl, hbi⟩
                  · have := hG.out; omega
            · have hiI : ¬ ((i : Int) < Ns) := by omega
              go_wp2_with fail
              go_loopg [10] Nr (fun g t wr => ∃ i : Nat, g = Nr - i ∧ i ≤ Nr ∧ t = .int .i64 i ∧ Below w.heap.size w wr)
              case atStart => exact ⟨0, by omega, by omega, rfl, hbr⟩
              case round =>
                rename World => wr
                obtain ⟨i, hgi, hiN, rfl, hbr⟩ := hrel
                have hG : Hid (_ = Nr - i) := hgi
                clear hgi
                have hc := hcell.out wr hbr
                have p0 := hc.2.2.2.2.2.2.1
                clear hc
                by_cases hi : i < Nr
                · have hiI : (i : Int) < Nr := by omega
                  obtain ⟨g, g', ae, n, ce, mv, rfl, rfl, hn, hmv, hd, hel⟩ := Lr.out i hi
                  have hd : Hid _ := hd
                  have hel : Hid _ := hel
                  obtain ⟨d0, d1⟩ := hd.out wr hbr
                  obtain ⟨t, rfl⟩ := hmv.2 rfl
                  clear hmv
                  go_wp2_with fail
                  go_loopg [11] n (fun g t wi => ∃ k : Nat, g = n - k ∧ k ≤ n ∧ t = .int .i64 k ∧ Below w.heap.size w wi)
                  case atStart => exact ⟨0, by omega, by omega, rfl, hbr⟩
                  case round =>
                    rename World => wi
                    obtain ⟨k, hgk, hkn, rfl, hbi⟩ := hrel
                    have hGk : Hid (_ = n - k) := hgk
                    clear hgk p0 d0 d1
                    have hc := hcell.out wi hbi
                    have p0 := hc.2.2.2.2.2.2.1
                    have p1 := hc.2.2.2.2.2.2.2
                    clear hc
                    obtain ⟨d0, d1⟩ := hd.out wi hbi
                    have hzi := hbi.size
                    by_cases hk : k < n
                    · have hkI : (k : Int) < n := by omega
                      obtain ⟨b, rfl, hb, hcl⟩ := hel.out k hk
                      have c0 : wi.cell? ⟨b, k * 2, none⟩ = some (.int .u8 63) := hcl wi hbi 0 (by decide)
                      have c1 : wi.cell? ⟨b, k * 2 + 1, none⟩ = some (.string t) := hcl wi hbi 1 (by decide)
                      clear hcl
                      go_wp2_with fail
                      go_quiet (fail)
                      go_wp2_with fail
                      go_roundg (n - (k + 1))
                      · exact ⟨k + 1, rfl, by omega, by push_cast; rfl, Below.drewN' hbi⟩
                      · have := hGk.out; omega
                    · have hkI : ¬ ((k : Int) < n) := by omega
                      go_wp2_with fail
                      go_roundg (Nr - (i + 1))
                      · exact ⟨i + 1, rfl, by omega, by push_cast; rfl, hbi⟩
                      · have := hG.out; omega
                · have hiI : ¬ ((i : Int) < Nr) := by omega
                  go_wp2_with fail
                  go_ret
                  exact ⟨rfl, hbr⟩
end Go.Proofs.YtcclgodahlinbaaGreatDoor

namespace Go.Proofs.YtcclgodahlinbaaGreatDoor
open Go.RowKit Go
set_option maxRecDepth 100000

theorem Frame.below {base : Nat} {w w' : World} (h : Frame base w w' (fun _ => False)) (hb : w.heap.size ≤ base) : Below w.heap.size w w' := by
  refine ⟨h.2.2.1, h.2.2.2.1, h.2.2.2.2, h.1, fun g hg => ?_⟩
  exact h.low (fun _ h => h.elim) (by omega) hg
theorem Frame.thenB {base : Nat} {w w1 w2 : World} {s : Nat → Prop} (h : Frame base w w1 s) (hb : Below w1.heap.size w1 w2) : Frame base w w2 s :=
  (h.trans (Frame.of_below (base := base) hb)).mono fun _ _ h => h.elim id False.elim
theorem Frame.then {base : Nat} {w w1 w2 : World} (h : Frame base w w1 (fun _ => False)) (k : Frame base w1 w2 (fun _ => False)) : Frame base w w2 (fun _ => False) :=
  (h.trans k).mono fun _ _ h => h.elim id id
set_option maxHeartbeats 4000000 in
theorem step2_ok {base wb M : Nat} {x : WV} {B : Bk} {w : World} {kd n m : Int} {a b : ByteArray} {ap : Option Addr} {np cp : Nat} (hk : kd ≤ 2) (K : Kept base wb x B w) (R : Room M x B) (hM : M ≤ 600000000000) (hm : w.cell? ⟨0, 0, none⟩ = some (.int .i64 m)) (hbase : base ≤ w.heap.size)
    (h1 : a.size ≤ 4000000000) (h2 : b.size ≤ 4000000000) :
    Calls Tryz.prog 21 #[.pointer (some ⟨wb, 0, none⟩), .agg #[.int .i64 kd, .int .i64 n, .string a, .string b, .slice ap np cp]] w fun e w' => e = .returned (.bool true) ∧ ∃ (x' : WV) (B' : Bk), Kept base wb x' B' w' ∧ Room (M + 2000) x' B' ∧ Frame base w w' (fun _ => False) := by
  have hmlt := World.block_lt_of_cell? _ _ hm
  obtain ⟨W0, hW0⟩ : ∃ W0, w.alloc (.cells #[.int .i64 kd, .int .i64 n, .string a, .string b, .slice ap np cp] 57) = W0 := ⟨_, rfl⟩
  have b0 : Below w.heap.size w W0 := by rw [← hW0]; exact (Below.refl _ _).alloc (Nat.le_refl _) _
  have z0 : W0.heap.size = w.heap.size + 1 := by rw [← hW0]; simp
  have hO0 : W0.heap[w.heap.size]? = some (.cells #[.int .i64 kd, .int .i64 n, .string a, .string b, .slice ap np cp] 57 (0, 0)) := by rw [← hW0]; exact heap_alloc_new w _
  have hm0 : W0.cell? ⟨0, 0, none⟩ = some (.int .i64 m) := (b0.cell (p := ⟨0, 0, none⟩) hmlt).trans hm
  have o0 : W0.cell? ⟨w.heap.size, 0, none⟩ = some (.int .i64 kd) := cell_of hO0 rfl
  have o1 : W0.cell? ⟨w.heap.size, 1, none⟩ = some (.int .i64 n) := cell_of hO0 rfl
  have o2 : W0.cell? ⟨w.heap.size, 2, none⟩ = some (.string a) := cell_of hO0 rfl
  have o3 : W0.cell? ⟨w.heap.size, 3, none⟩ = some (.string b) := cell_of hO0 rfl
  have o4 : W0.cell? ⟨w.heap.size, 4, none⟩ = some (.slice ap np cp) := cell_of hO0 rfl
  have K0 := K.old (W' := W0) fun g hg => b0.block g hg
  have hend : Hid (∀ w', (∃ (x' : WV) (B' : Bk), Kept base wb x' B' w' ∧ Room (M + 2000) x' B' ∧ Frame base W0 w' (fun _ => False)) → ∃ (x' : WV) (B' : Bk), Kept base wb x' B' w' ∧ Room (M + 2000) x' B' ∧ Frame base w w' (fun _ => False)) := by
    rintro w' ⟨x', B', k1, k2, k3⟩
    exact ⟨x', B', k1, k2, ((Frame.of_below (base := base) b0).trans k3).mono fun _ _ h => h.elim id id⟩
  go_enter Tryz.func21, Tryz.ntmps21
  by_cases k1 : kd = 1
  · have hd := diffs_ok (kd := kd) (n := n) (m := m) (a := a) (b := b) (ap := ap) (np := np) (cp := cp) K0 R hM hm0 (by omega) h1 h2
    have q1 : (kd == 1) = true := by simp [k1]
    clear k1 K K0 hO0 hm hm0
    go_wp2_with fail
    clear hW0
    refine hd.mono ?_
    rintro e W1 ⟨rfl, hR⟩
    have hRH := hend.out W1 hR
    have hRH' : Hid _ := hRH
    clear hR hRH hend hd
    go_wp2_with fail
    go_ret
    exact ⟨rfl, hRH'.out⟩
  have q1 : (kd == 1) = false := by simp [k1]
  by_cases k2 : kd = 2
  · have hd := inlines_ok (kd := kd) (n := n) (a := a) (b := b) (ap := ap) (np := np) (cp := cp) K0 R hM (by omega) h1 h2
    have q2 : (kd == 2) = true := by simp [k2]
    clear k1 k2 K K0 hO0 hm hm0
    go_wp2_with fail
    clear hW0
    refine hd.mono ?_
    rintro e W1 ⟨rfl, hR⟩
    have hRH := hend.out W1 hR
    have hRH' : Hid _ := hRH
    clear hR hRH hend hd
    go_wp2_with fail
    go_ret
    exact ⟨rfl, hRH'.out⟩
  have q2 : (kd == 2) = false := by simp [k2]
  have q3 : (kd == 3) = false := by simp; omega
  have q4 : (kd == 4) = false := by simp; omega
  have q5 : (kd == 5) = false := by simp; omega
  have q6 : (kd == 6) = false := by simp; omega
  have q7 : (kd == 7) = false := by simp; omega
  have hRH := hend.out W0 ⟨x, B, K0, ⟨by have := R.c; omega, by have := R.h; omega, by have := R.l; omega, by have := R.s; omega, by have := R.r; omega⟩, Frame.refl base W0⟩
  have hRH' : Hid _ := hRH
  clear hRH hend K K0 hO0 hm hm0 k1 k2
  go_wp2_with fail
  go_ret
  exact ⟨rfl, hRH'.out⟩
end Go.Proofs.YtcclgodahlinbaaGreatDoor

namespace Go.Proofs.YtcclgodahlinbaaGreatDoor
open Go.RowKit Go
set_option maxRecDepth 100000

/-- a script that came in -/
def ScriptAt (w : World) (v : Value) (n : Nat) : Prop :=
  (n = 0 ∧ ∃ a c, v = .slice a 0 c) ∨ ∃ b off cap, v = .slice (some ⟨b, off, none⟩) n cap ∧ b < w.heap.size ∧ ∀ i, i < n → ∃ (kd nn : Int) (x y : ByteArray) (ap : Option Addr) (np cp : Nat), w.cell? ⟨b, off + i * 5, none⟩ = some (.int .i64 kd) ∧ w.cell? ⟨b, off + i * 5 + 1, none⟩ = some (.int .i64 nn) ∧
    w.cell? ⟨b, off + i * 5 + 2, none⟩ = some (.string x) ∧ w.cell? ⟨b, off + i * 5 + 3, none⟩ = some (.string y) ∧ w.cell? ⟨b, off + i * 5 + 4, none⟩ = some (.slice ap np cp) ∧ x.size ≤ 4000000000 ∧ y.size ≤ 4000000000
abbrev tA : ByteArray := ⟨#[97, 10, 98, 10, 99, 10, 100, 10]⟩
abbrev tB : ByteArray := ⟨#[97, 10, 120, 10, 99, 10, 100, 10]⟩
theorem check_t : checkB tA tB 1 = 0 := by decide +kernel
def wv0 : WV := ⟨.slice none 0 0, .slice none 0 0, .slice none 0 0, .slice none 0 0, .slice none 0 0, .slice none 0 0, .slice none 0 0, .slice none 0 0, 0⟩
def bk0 : Bk := ⟨[], [], [], []⟩
theorem Kept.start {W : World} {wb : Nat} (h : W.heap[wb]? = some wv0.obj) : Kept wb wb wv0 bk0 W := by
  have key : ∀ (rowT markT T k : Nat) (pat : Value → List Value), KeptK wb rowT markT T k pat (.slice none 0 0) (.slice none 0 0) [] W := fun rowT markT T k pat =>
    ⟨World.ownsRow_nil _ _ _ _, World.ownsRow_nil _ _ _ _, fun p hp => (by cases hp), fun p hp => (by cases hp)⟩
  exact ⟨h, key _ _ _ _ _, key _ _ _ _ _, key _ _ _ _ _, key _ _ _ _ _, .inl rfl, .inl rfl, Nat.le_refl _⟩
set_option maxHeartbeats 8000000 in
theorem played2_any {w : World} {aS : Option Addr} {n cs : Nat} {m : Int} (hS : ScriptAt w (.slice aS n cs) n) (hn : n ≤ 2000000) (hm : w.cell? ⟨0, 0, none⟩ = some (.int .i64 m)) :
    Calls Tryz.prog 8 #[.slice aS n cs, .int .i64 2] w fun e w' => e = .returned (.bool true) ∧ Below w.heap.size w w' := by
  have hmlt := World.block_lt_of_cell? _ _ hm
  have hwb : Hid (∀ W, Below w.heap.size w W → W.cell? ⟨0, 0, none⟩ = some (.int .i64 m)) := fun W hb => (hb.cell (p := ⟨0, 0, none⟩) hmlt).trans hm
  obtain ⟨W1, hW1⟩ : ∃ W1, w.alloc (.cells #[.slice none 0 0, .slice none 0 0, .slice none 0 0, .slice none 0 0, .slice none 0 0, .slice none 0 0, .slice none 0 0, .slice none 0 0, .int .i64 0] 55) = W1 := ⟨_, rfl⟩
  have b1 : Below w.heap.size w W1 := by rw [← hW1]; exact (Below.refl _ _).alloc (Nat.le_refl _) _
  have z1 : W1.heap.size = w.heap.size + 1 := by rw [← hW1]; simp
  have hk1 : W1.heap[w.heap.size]? = some wv0.obj := by rw [← hW1]; exact heap_alloc_new w _
  have K1 := Kept.start hk1
  have hszA : tA.size ≤ 4000000000 := by decide
  have hszB : tB.size ≤ 4000000000 := by decide
  have hck := check_t
  have hrd := refDiff_any (a := tA) (b := tB) (c := 1) (w := W1) hszA hszB
  rw [hck] at hrd
  generalize (diffR tA tB 1) = DR at hrd
  go_enter Tryz.func8, Tryz.ntmps8
  go_wp2_with fail
  clear hW1
  refine hrd.mono ?_
  rintro e W2 ⟨ap, cp, rfl, _, b2⟩
  generalize DR.length = np at *
  have z2 := b2.size
  obtain ⟨W3, hW3⟩ : ∃ W3, W2.alloc (.cells #[.slice ap np cp] 32) = W3 := ⟨_, rfl⟩
  have b3 : Below W1.heap.size W1 W3 := by rw [← hW3]; exact b2.alloc b2.size _
  have z3 : W3.heap.size = W2.heap.size + 1 := by rw [← hW3]; simp
  have hp3 : W3.heap[W2.heap.size]? = some (.cells #[.slice ap np cp] 32 (0, 0)) := by rw [← hW3]; exact heap_alloc_new W2 _
  have K3 : Kept w.heap.size w.heap.size wv0 bk0 W3 := K1.old fun g hg => b3.block g hg
  have F3 : Frame w.heap.size w W3 (fun _ => False) := Frame.of_below (b1.trans (b3.mono (by omega)))
  have hst : Hid (∃ (x : WV) (B : Bk), Kept w.heap.size w.heap.size x B W3 ∧ Room 0 x B ∧ Frame w.heap.size w W3 (fun _ => False)) := ⟨wv0, bk0, K3, ⟨Nat.le_refl _, Nat.le_refl _, Nat.le_refl _, Nat.le_refl _, Nat.le_refl _⟩, F3⟩
  obtain ⟨pb, hpb⟩ : ∃ pb, W2.heap.size = pb := ⟨_, rfl⟩
  clear hrd K1 hk1 hck
  go_wp2_with fail
  rw [hpb] at hp3
  clear hW3 K3 F3 hpb
  go_loopg [8, 9] 2 (fun g t8 t9 wk => ∃ k : Nat, g = 3 - k ∧ 1 ≤ k ∧ k ≤ 3 ∧ t8 = .bool true ∧ t9 = .int .i64 k ∧ Hid (∃ (x : WV) (B : Bk), Kept w.heap.size w.heap.size x B wk ∧ Room (2000 * (k - 1)) x B ∧ Frame w.heap.size w wk (fun _ => False)) ∧ wk.heap[pb]? = some (.cells #[.slice ap np cp] 32 (0, 0)))
  case atStart => exact ⟨1, rfl, by omega, by omega, by first | rfl | simp, rfl, hst, hp3⟩
  case round =>
    rename World => wk
    obtain ⟨k, hgk, hk1, hk3, rfl, rfl, hI, hpk⟩ := hrel
    have hG : Hid (_ = 3 - k) := hgk
    clear hgk hst hp3
    have pk : wk.cell? ⟨pb, 0, none⟩ = some (.slice ap np cp) := cell_of hpk rfl
    have hpbk : pb < wk.heap.size := (Array.getElem?_eq_some_iff.1 hpk).1
    by_cases hk : k ≤ 2
    · have hkI : (k : Int) ≤ 2 := by omega
      obtain ⟨x, B, Kk, Rk, Fk⟩ := hI.out
      have hbk := Fk.below (Nat.le_refl _)
      have hzk := Fk.1
      by_cases hk1' : k = 1
      · obtain rfl : k = 1 := by omega
        obtain ⟨Wo, hWo⟩ : ∃ Wo, wk.alloc (.cells #[.int .i64 1, .int .i64 1, .string tA, .string tB, .slice ap np cp] 57) = Wo := ⟨_, rfl⟩
        have bo : Below wk.heap.size wk Wo := by rw [← hWo]; exact (Below.refl _ _).alloc (Nat.le_refl _) _
        have zo : Wo.heap.size = wk.heap.size + 1 := by rw [← hWo]; simp
        have hOo : Wo.heap[wk.heap.size]? = some (.cells #[.int .i64 1, .int .i64 1, .string tA, .string tB, .slice ap np cp] 57 (0, 0)) := by rw [← hWo]; exact heap_alloc_new wk _
        have o0 : Wo.cell? ⟨wk.heap.size, 0, none⟩ = some (.int .i64 1) := cell_of hOo rfl
        have o1 : Wo.cell? ⟨wk.heap.size, 1, none⟩ = some (.int .i64 1) := cell_of hOo rfl
        have o2 : Wo.cell? ⟨wk.heap.size, 2, none⟩ = some (.string tA) := cell_of hOo rfl
        have o3 : Wo.cell? ⟨wk.heap.size, 3, none⟩ = some (.string tB) := cell_of hOo rfl
        have o4 : Wo.cell? ⟨wk.heap.size, 4, none⟩ = some (.slice ap np cp) := cell_of hOo rfl
        have hcall : Hid (Calls Tryz.prog 21 #[.pointer (some ⟨w.heap.size, 0, none⟩), .agg #[.int .i64 1, .int .i64 1, .string tA, .string tB, .slice ap np cp]] Wo fun e w' => e = .returned (.bool true) ∧ (∃ (x' : WV) (B' : Bk), Kept w.heap.size w.heap.size x' B' w' ∧ Room (2000 * (1 + 1 - 1)) x' B' ∧ Frame w.heap.size w w' (fun _ => False)) ∧ w'.heap[pb]? = some (.cells #[.slice ap np cp] 32 (0, 0))) := by
          have hbo := hbk.trans (bo.mono hzk)
          refine (step2_ok (kd := 1) (n := 1) (m := m) (a := tA) (b := tB) (ap := ap) (np := np) (cp := cp) (by decide) (Kk.old (W' := Wo) fun g hg => bo.block g hg) Rk (by decide) (hwb.out Wo hbo) (by omega) (by decide) (by decide)).mono ?_
          rintro e w' ⟨rfl, x', B', k1, k2, k3⟩
          have hpo := (bo.block pb hpbk).trans hpk
          exact ⟨rfl, ⟨x', B', k1, k2, (Fk.thenB bo).then k3⟩, (k3.at hpo (by decide) (fun h => h)).trans hpo⟩
        clear Kk Rk Fk hI hOo
        go_wp2_with fail
        clear hWo
        refine hcall.out.mono ?_
        rintro e W5 ⟨rfl, hR, hpk5⟩
        have hRH : Hid _ := hR
        clear hR hcall
        go_wp2_with fail
        go_roundg (3 - (1 + 1))
        · exact ⟨1 + 1, rfl, by omega, by omega, rfl, by push_cast; rfl, hRH, hpk5⟩
        · have := hG.out; omega
      · obtain rfl : k = 2 := by omega
        obtain ⟨Wo, hWo⟩ : ∃ Wo, wk.alloc (.cells #[.int .i64 2, .int .i64 1, .string ⟨#[99, 97, 102, 101]⟩, .string ⟨#[99, 97, 116]⟩, .slice ap np cp] 57) = Wo := ⟨_, rfl⟩
        have bo : Below wk.heap.size wk Wo := by rw [← hWo]; exact (Below.refl _ _).alloc (Nat.le_refl _) _
        have zo : Wo.heap.size = wk.heap.size + 1 := by rw [← hWo]; simp
        have hOo : Wo.heap[wk.heap.size]? = some (.cells #[.int .i64 2, .int .i64 1, .string ⟨#[99, 97, 102, 101]⟩, .string ⟨#[99, 97, 116]⟩, .slice ap np cp] 57 (0, 0)) := by rw [← hWo]; exact heap_alloc_new wk _
        have o0 : Wo.cell? ⟨wk.heap.size, 0, none⟩ = some (.int .i64 2) := cell_of hOo rfl
        have o1 : Wo.cell? ⟨wk.heap.size, 1, none⟩ = some (.int .i64 1) := cell_of hOo rfl
        have o2 : Wo.cell? ⟨wk.heap.size, 2, none⟩ = some (.string ⟨#[99, 97, 102, 101]⟩) := cell_of hOo rfl
        have o3 : Wo.cell? ⟨wk.heap.size, 3, none⟩ = some (.string ⟨#[99, 97, 116]⟩) := cell_of hOo rfl
        have o4 : Wo.cell? ⟨wk.heap.size, 4, none⟩ = some (.slice ap np cp) := cell_of hOo rfl
        have hcall : Hid (Calls Tryz.prog 21 #[.pointer (some ⟨w.heap.size, 0, none⟩), .agg #[.int .i64 2, .int .i64 1, .string ⟨#[99, 97, 102, 101]⟩, .string ⟨#[99, 97, 116]⟩, .slice ap np cp]] Wo fun e w' => e = .returned (.bool true) ∧ (∃ (x' : WV) (B' : Bk), Kept w.heap.size w.heap.size x' B' w' ∧ Room (2000 * (2 + 1 - 1)) x' B' ∧ Frame w.heap.size w w' (fun _ => False)) ∧ w'.heap[pb]? = some (.cells #[.slice ap np cp] 32 (0, 0))) := by
          have hbo := hbk.trans (bo.mono hzk)
          refine (step2_ok (kd := 2) (n := 1) (m := m) (a := ⟨#[99, 97, 102, 101]⟩) (b := ⟨#[99, 97, 116]⟩) (ap := ap) (np := np) (cp := cp) (by decide) (Kk.old (W' := Wo) fun g hg => bo.block g hg) Rk (by decide) (hwb.out Wo hbo) (by omega) (by decide) (by decide)).mono ?_
          rintro e w' ⟨rfl, x', B', k1, k2, k3⟩
          have hpo := (bo.block pb hpbk).trans hpk
          exact ⟨rfl, ⟨x', B', k1, k2, (Fk.thenB bo).then k3⟩, (k3.at hpo (by decide) (fun h => h)).trans hpo⟩
        clear Kk Rk Fk hI hOo
        go_wp2_with fail
        clear hWo
        refine hcall.out.mono ?_
        rintro e W5 ⟨rfl, hR, hpk5⟩
        have hRH : Hid _ := hR
        clear hR hcall
        go_wp2_with fail
        go_roundg (3 - (2 + 1))
        · exact ⟨2 + 1, rfl, by omega, by omega, rfl, by push_cast; rfl, hRH, hpk5⟩
        · have := hG.out; omega
    · obtain rfl : k = 3 := by omega
      clear hk pk
      have hI2 : Hid (∃ (x : WV) (B : Bk), Kept w.heap.size w.heap.size x B wk ∧ Room (4000 + 2000 * 0) x B ∧ Frame w.heap.size w wk (fun _ => False)) := hI.out
      have hSH : Hid (ScriptAt w (.slice aS n cs) n) := hS
      clear hI hpk hpbk hS b1 b2 b3 z1 z2 z3 hszA hszB
      go_wp2_with fail
      go_loopg [8, 11] n (fun g t8 t11 wq => ∃ i : Nat, g = n - i ∧ i ≤ n ∧ t8 = .bool true ∧ t11 = .int .i64 i ∧ Hid (∃ (x : WV) (B : Bk), Kept w.heap.size w.heap.size x B wq ∧ Room (4000 + 2000 * i) x B ∧ Frame w.heap.size w wq (fun _ => False)))
      case atStart => exact ⟨0, by omega, by omega, rfl, rfl, hI2⟩
      case round =>
        rename World => wq
        obtain ⟨i, hgi, hin, rfl, rfl, hI3⟩ := hrel
        have hG2 : Hid (_ = n - i) := hgi
        clear hgi hI2
        by_cases hi : i < n
        · have hiI : (i : Int) < n := by omega
          obtain ⟨x, B, Kq, Rq, Fq⟩ := hI3.out
          have hbq := Fq.below (Nat.le_refl _)
          have hzq := Fq.1
          rcases hSH.out with ⟨h0, _⟩ | ⟨b, off, cap, e, hb, hc⟩
          · omega
          obtain ⟨rfl, rfl⟩ : aS = some ⟨b, off, none⟩ ∧ cs = cap := by cases e; exact ⟨rfl, rfl⟩
          obtain ⟨kd, nn, X, Y, ap2, np2, cp2, c0, c1, c2, c3, c4, hx, hy⟩ := hc i hi
          have d0 := (hbq.cell (p := ⟨b, off + i * 5, none⟩) hb).trans c0
          have d1 := (hbq.cell (p := ⟨b, off + i * 5 + 1, none⟩) hb).trans c1
          have d2 := (hbq.cell (p := ⟨b, off + i * 5 + 2, none⟩) hb).trans c2
          have d3 := (hbq.cell (p := ⟨b, off + i * 5 + 3, none⟩) hb).trans c3
          have d4 := (hbq.cell (p := ⟨b, off + i * 5 + 4, none⟩) hb).trans c4
          clear c0 c1 c2 c3 c4 hc e
          by_cases hkd : kd ≤ 2
          · have hkI : ¬ 2 < kd := by omega
            have hcall : Hid (Calls Tryz.prog 21 #[.pointer (some ⟨w.heap.size, 0, none⟩), .agg #[.int .i64 kd, .int .i64 nn, .string X, .string Y, .slice ap2 np2 cp2]] wq fun e w' => e = .returned (.bool true) ∧ (Calls Tryz.prog 22 #[.pointer (some ⟨w.heap.size, 0, none⟩)] w' fun e w'' => e = .returned (.bool true) ∧ ∃ (x : WV) (B : Bk), Kept w.heap.size w.heap.size x B w'' ∧ Room (4000 + 2000 * (i + 1)) x B ∧ Frame w.heap.size w w'' (fun _ => False))) := by
              refine (step2_ok (kd := kd) (n := nn) (m := m) (a := X) (b := Y) (ap := ap2) (np := np2) (cp := cp2) hkd Kq Rq (by omega) (hwb.out wq hbq) hzq hx hy).mono ?_
              rintro e w' ⟨rfl, x', B', k1, k2, k3⟩
              refine ⟨rfl, (still_ok k1 (by have := k2.h; omega) (by have := k2.l; omega) (by have := k2.s; omega) (by have := k2.r; omega)).mono ?_⟩
              rintro e w'' ⟨rfl, hb2⟩
              exact ⟨rfl, x', B', k1.old fun g hg => hb2.block g hg, ⟨by have := k2.c; omega, by have := k2.h; omega, by have := k2.l; omega, by have := k2.s; omega, by have := k2.r; omega⟩, (Fq.then k3).thenB hb2⟩
            clear Kq Rq Fq hI3
            go_wp2_with fail
            refine hcall.out.mono ?_
            rintro e W5 ⟨rfl, hst⟩
            clear hcall
            go_wp2_with fail
            refine hst.mono ?_
            rintro e W6 ⟨rfl, hR⟩
            have hRH : Hid _ := hR
            clear hR hst
            go_wp2_with fail
            go_roundg (n - (i + 1))
            · exact ⟨i + 1, rfl, by omega, rfl, by push_cast; rfl, hRH⟩
            · have := hG2.out; omega
          · have hkI : 2 < kd := by omega
            have hRH : Hid (∃ (x : WV) (B : Bk), Kept w.heap.size w.heap.size x B wq ∧ Room (4000 + 2000 * (i + 1)) x B ∧ Frame w.heap.size w wq (fun _ => False)) := ⟨x, B, Kq, ⟨by have := Rq.c; omega, by have := Rq.h; omega, by have := Rq.l; omega, by have := Rq.s; omega, by have := Rq.r; omega⟩, Fq⟩
            clear Kq Rq Fq hI3
            go_wp2_with fail
            go_roundg (n - (i + 1))
            · exact ⟨i + 1, rfl, by omega, rfl, by push_cast; rfl, hRH⟩
            · have := hG2.out; omega
        · have hiI : ¬ ((i : Int) < n) := by omega
          obtain ⟨x, B, _, _, Fq⟩ := hI3.out
          have hfin : Hid (Below w.heap.size w wq) := Fq.below (Nat.le_refl _)
          clear Fq hI3
          go_wp2_with fail
          go_ret
          exact ⟨rfl, hfin.out⟩
theorem diffs_any {w : World} {aS : Option Addr} {n cs : Nat} {m : Int} (hS : ScriptAt w (.slice aS n cs) n) (hn : n ≤ 2000000) (hm : w.cell? ⟨0, 0, none⟩ = some (.int .i64 m)) :
    Calls Tryz.prog 3 #[.slice aS n cs] w fun e w' => e = .returned (.bool true) ∧ Below w.heap.size w w' := by
  have hp := played2_any hS hn hm
  go_enter Tryz.func3, Tryz.ntmps3
  go_wp2_with fail
  refine hp.mono ?_
  rintro e w' ⟨rfl, hb⟩
  go_wp2_with fail
  go_ret
  exact ⟨rfl, hb⟩
end Go.Proofs.YtcclgodahlinbaaGreatDoor

namespace Go.Proofs.YtcclgodahlinbaaGreatDoor
open Go.RowKit Go
set_option maxRecDepth 100000

/-- the cells of a table as a row's datum tells it -/
def cellOfD (d : DataW Unit) : List Value := match d with
  | .lit (.int k n) => [.int k n]
  | _ => []
def cellsOfD (d : DataW Unit) : List Value := match d with
  | .agg l => l.flatMap fun x => match x with
    | .agg m => m.flatMap cellOfD
    | y => cellOfD y
  | _ => []
abbrev synS : ByteArray := { data := #[105, 110, 118, 97, 108, 105, 100, 32, 115, 121, 110, 116, 97, 120] }
abbrev rngS : ByteArray := { data := #[118, 97, 108, 117, 101, 32, 111, 117, 116, 32, 111, 102, 32, 114, 97, 110, 103, 101] }
def heldZ : Input := ⟨#[.cells #[.string synS] 240, .cells #[.string rngS] 240], #[], []⟩
/-- a world that bears the tables and the two errors -/
def withTables (w0 : World) : World :=
  let put (h : Array Obj) (g : Nat) (cs : Array Value) : Array Obj := h.modify g fun
    | .cells _ t frozen => .cells cs t frozen
    | o => o
  let h1 := put w0.heap 1 (Lib.firstTab.map fun z => Value.int .u8 z).toArray
  let h2 := put h1 2 (cellsOfD Rows.laid_unicode_utf8_acceptRanges).toArray
  let h3 := put h2 3 (cellsOfD Rows.laid_internal_strconv_uint64pow10).toArray
  let h4 := put h3 4 #[.iface 238 (.pointer (some ⟨w0.heap.size - 2, 0, none⟩))]
  let h5 := put h4 5 #[.iface 238 (.pointer (some ⟨w0.heap.size - 1, 0, none⟩))]
  let h6 := put h5 6 (cellsOfD Rows.laid_math_bits_deBruijn32tab).toArray
  let h7 := put h6 7 (cellsOfD Rows.laid_math_bits_deBruijn64tab).toArray
  { w0 with heap := h7 }
theorem laid_met (os : Os) (args : Array Value) : laidMetH Tryz.prog Rows.strictRow.laid ((withTables (World.holding Tryz.prog os heldZ)).forCall (fun _ _ => 0) ⟨#[], args, []⟩).memory :=
  laidMetH_of_parts (laidMet_of_run' 8 (by kernel_rfl) (by kernel_rfl)) (by kernel_rfl)

theorem ownK : ownKnob Tryz.prog.godebug = none := by kernel_rfl
theorem maxlen_of {W : World} (h : W.ShapedOpen Tryz.prog) : ∃ m, W.cell? ⟨0, 0, none⟩ = some (.int .i64 m) :=
  cell_of_shapedOpen_int (P := Tryz.prog) (g := 0) (t := 3) (zero := #[.int .i64 0]) h (of_decide_eq_true (by kernel_rfl)) (by kernel_rfl) rfl (by kernel_rfl) (by kernel_rfl) Tryz.underlying3
theorem cell_lt {w : World} {a : Addr} {v : Value} (h : w.cell? a = some v) : a.block < w.heap.size := by
  by_cases hb : a.block < w.heap.size
  · exact hb
  · unfold World.cell? at h
    rw [Array.getElem?_eq_none (by omega)] at h
    cases h
theorem i64_bounds {n : Int} (h : (Lit.int .i64 n).wf = true) : -9223372036854775808 ≤ n ∧ n ≤ 9223372036854775807 := by
  simp only [Lit.wf, Bool.and_eq_true, decide_eq_true_eq] at h
  exact ⟨h.1, h.2⟩
theorem wants_int : Tryz.prog.wantsStandIn 3 = false := by kernel_rfl
end Go.Proofs.YtcclgodahlinbaaGreatDoor

namespace Go.Proofs.YtcclgodahlinbaaGreatDoor
open Go.ChangeShapes Go.WideShapes Go.ChangeAt Go.RowKit Go
set_option maxRecDepth 100000

theorem laidOutD : laidOutB Tryz.prog = true := by kernel_rfl
theorem wants_ops : Tryz.prog.wantsStandIn 22 = false := by kernel_rfl
theorem cellsI : Tryz.prog.cellsOf 3 = 1 := by kernel_rfl
theorem cellsS : Tryz.prog.cellsOf 9 = 1 := by kernel_rfl
theorem cellsP : Tryz.prog.cellsOf 32 = 1 := by kernel_rfl
theorem cellsH : Tryz.prog.cellsOf 30 = 1 := by kernel_rfl
theorem cellsO : Tryz.prog.cellsOf 57 = 5 := by kernel_rfl
/-- what the bound gives -/
theorem bulk_pos {H : Type} (d : DataW H) : 0 < Rows.uptoBulk d := by
  cases d with
  | lit l => cases l <;> simp [Rows.uptoBulk]
  | nil => simp [Rows.uptoBulk]
  | ptr d => simp [Rows.uptoBulk]
  | slice a b => simp [Rows.uptoBulk]
  | agg a => simp [Rows.uptoBulk]
  | iface t d => simp [Rows.uptoBulk]
  | map a => simp [Rows.uptoBulk]
  | held h => simp [Rows.uptoBulk]
theorem bulk_mem {H : Type} {d : DataW H} : ∀ {l : List (DataW H)}, d ∈ l → Rows.uptoBulk d ≤ Rows.uptoBulkAll l
  | [], h => by cases h
  | y :: r, h => by
    simp only [Rows.uptoBulkAll]
    rcases List.mem_cons.1 h with e | e
    · rw [e]; omega
    · have := bulk_mem e; omega
theorem bulk_count {H : Type} : ∀ l : List (DataW H), l.length ≤ Rows.uptoBulkAll l
  | [] => by simp
  | y :: r => by
    have h1 := bulk_pos y
    have h2 := bulk_count r
    simp only [Rows.uptoBulkAll, List.length_cons]
    omega
theorem five_of {α : Type} {l : List α} (h : l.length = 5) : ∃ a b c d e, l = [a, b, c, d, e] := by
  match l, h with
  | [a, b, c, d, e], _ => exact ⟨a, b, c, d, e, rfl⟩
theorem add_none (b off i : Nat) : (⟨b, off, none⟩ : Addr).add i = ⟨b, off + i, none⟩ := by unfold Addr.add; split <;> simp_all
/-- a script that came in, opened -/
theorem open_script {H : Type} {enc : TypeId × Value → H} {W : World} {a0 : Option Addr} {len cap fuel : Nat} {x : DataW H × List MemPlace}
    (hf : DataW.trod enc Tryz.prog W 0 (fun _ => true) true fuel 22 [.slice a0 len cap] = some x) (hb : Rows.uptoBulk x.1 ≤ 1048576) : len ≤ 1048576 ∧ ScriptAt W (.slice a0 len cap) len := by
  rcases DataW.trod_slice Tryz.underlying22 hf with ⟨hcs, _⟩ | ⟨a, len', cap', elems, rest, n, _, hcs, rfl, _, hl, hm, hlen, hel, _, _⟩
  · simp at hcs
    obtain ⟨rfl, rfl, rfl⟩ := hcs
    exact ⟨Nat.zero_le _, .inl ⟨rfl, _, _, rfl⟩⟩
  · simp at hcs
    obtain ⟨rfl, rfl, rfl⟩ := hcs
    have hbl : Rows.uptoBulkAll (elems.map (·.1)) ≤ 1048576 := by
      simp only [Rows.uptoBulk] at hb
      omega
    have hle : len ≤ 1048576 := by
      have := bulk_count (elems.map (·.1))
      rw [List.length_map, hlen] at this
      omega
    refine ⟨hle, ?_⟩
    have key : ∀ i, i < len → ∃ (kd nn : Int) (X Y : ByteArray) (ap : Option Addr) (np cp : Nat), W.cell? ((a.add (i * 5)).add 0) = some (.int .i64 kd) ∧ W.cell? ((a.add (i * 5)).add 1) = some (.int .i64 nn) ∧ W.cell? ((a.add (i * 5)).add 2) = some (.string X) ∧ W.cell? ((a.add (i * 5)).add 3) = some (.string Y) ∧ W.cell? ((a.add (i * 5)).add 4) = some (.slice ap np cp) ∧ X.size ≤ 4000000000 ∧ Y.size ≤ 4000000000 := by
      intro i hi
      have h1 := hel i hi
      have hie : i < elems.length := by omega
      rw [cellsO, List.getElem?_eq_getElem hie, Option.bind_eq_some_iff] at h1
      obtain ⟨cs, hcs, hy⟩ := h1
      obtain ⟨_, hl5, hc⟩ := World.cells?_some hcs
      have hmem : Rows.uptoBulk elems[i].1 ≤ 1048576 := Nat.le_trans (bulk_mem (List.mem_map.2 ⟨elems[i], List.getElem_mem hie, rfl⟩)) hbl
      generalize elems[i] = y at hy hmem
      obtain ⟨xs, m, _, rfl, _, hx5, hfd⟩ := DataW.trod_struct Tryz.underlying57 hy
      obtain ⟨c0, c1, c2, c3, c4, rfl⟩ := five_of hl5
      obtain ⟨x0, x1, x2, x3, x4, rfl⟩ := five_of (show xs.length = 5 from hx5)
      have f0 : DataW.trod enc Tryz.prog W 0 (fun _ => true) true m 3 ((([c0, c1, c2, c3, c4] : List Value).drop 0).take (Tryz.prog.cellsOf 3)) = [x0, x1, x2, x3, x4][0]? := hfd 0 _ rfl
      rw [cellsI] at f0
      have f0 : DataW.trod enc Tryz.prog W 0 (fun _ => true) true m 3 [c0] = some x0 := f0
      have f1 : DataW.trod enc Tryz.prog W 0 (fun _ => true) true m 3 ((([c0, c1, c2, c3, c4] : List Value).drop 1).take (Tryz.prog.cellsOf 3)) = [x0, x1, x2, x3, x4][1]? := hfd 1 _ rfl
      rw [cellsI] at f1
      have f1 : DataW.trod enc Tryz.prog W 0 (fun _ => true) true m 3 [c1] = some x1 := f1
      have f2 : DataW.trod enc Tryz.prog W 0 (fun _ => true) true m 9 ((([c0, c1, c2, c3, c4] : List Value).drop 2).take (Tryz.prog.cellsOf 9)) = [x0, x1, x2, x3, x4][2]? := hfd 2 _ rfl
      rw [cellsS] at f2
      have f2 : DataW.trod enc Tryz.prog W 0 (fun _ => true) true m 9 [c2] = some x2 := f2
      have f3 : DataW.trod enc Tryz.prog W 0 (fun _ => true) true m 9 ((([c0, c1, c2, c3, c4] : List Value).drop 3).take (Tryz.prog.cellsOf 9)) = [x0, x1, x2, x3, x4][3]? := hfd 3 _ rfl
      rw [cellsS] at f3
      have f3 : DataW.trod enc Tryz.prog W 0 (fun _ => true) true m 9 [c3] = some x3 := f3
      have f4 : DataW.trod enc Tryz.prog W 0 (fun _ => true) true m 32 ((([c0, c1, c2, c3, c4] : List Value).drop 4).take (Tryz.prog.cellsOf 32)) = [x0, x1, x2, x3, x4][4]? := hfd 4 _ rfl
      rw [cellsP] at f4
      have f4 : DataW.trod enc Tryz.prog W 0 (fun _ => true) true m 32 [c4] = some x4 := f4
      obtain ⟨kd, e0, r0, _⟩ := DataW.trod_int Tryz.underlying3 f0
      obtain ⟨nn, e1, r1, _⟩ := DataW.trod_int Tryz.underlying3 f1
      obtain ⟨X, e2, r2, _⟩ := DataW.trod_string Tryz.underlying9 f2
      obtain ⟨Y, e3, r3, _⟩ := DataW.trod_string Tryz.underlying9 f3
      obtain ⟨ys, m2, _, _, _, hy1, hfp⟩ := DataW.trod_struct Tryz.underlying32 f4
      have g0 : DataW.trod enc Tryz.prog W 0 (fun _ => true) true m2 30 ((([c4] : List Value).drop 0).take (Tryz.prog.cellsOf 30)) = ys[0]? := hfp 0 _ rfl
      have hy1' : ys.length = 1 := hy1
      rw [cellsH, List.getElem?_eq_getElem (show 0 < ys.length by omega)] at g0
      have g0 : DataW.trod enc Tryz.prog W 0 (fun _ => true) true m2 30 [c4] = some (ys[0]'(by omega)) := g0
      have e4 : ∃ ap np cp, c4 = .slice ap np cp := by
        rcases DataW.trod_slice Tryz.underlying30 g0 with ⟨e, _⟩ | ⟨aa, ll, cc, _, _, _, _, e, _⟩
        · simp at e; exact ⟨_, _, _, e⟩
        · simp at e; exact ⟨_, _, _, e⟩
      obtain ⟨ap, np, cp, e4⟩ := e4
      have z0 := hc 0 (by omega)
      have z1 := hc 1 (by omega)
      have z2 := hc 2 (by omega)
      have z3 := hc 3 (by omega)
      have z4 := hc 4 (by omega)
      simp at e0 e1 e2 e3 z0 z1 z2 z3 z4
      have hbb : Rows.uptoBulkAll ([x0, x1, x2, x3, x4].map (·.1)) ≤ 1048576 := by
        simp only [Rows.uptoBulk] at hmem
        omega
      have hX := Nat.le_trans (bulk_mem (d := x2.1) (l := [x0, x1, x2, x3, x4].map (·.1)) (by simp)) hbb
      have hY := Nat.le_trans (bulk_mem (d := x3.1) (l := [x0, x1, x2, x3, x4].map (·.1)) (by simp)) hbb
      rw [r2] at hX
      rw [r3] at hY
      simp only [Rows.uptoBulk] at hX hY
      have sX : X.data.toList.length = X.size := rfl
      have sY : Y.data.toList.length = Y.size := rfl
      exact ⟨kd, nn, X, Y, ap, np, cp, by rw [z0, e0], by rw [z1, e1], by rw [z2, e2], by rw [z3, e3], by rw [z4, e4], by omega, by omega⟩
    by_cases h0 : len = 0
    · subst h0
      exact .inl ⟨rfl, _, _, rfl⟩
    · right
      obtain ⟨b, off, spot⟩ := a
      obtain ⟨_, _, _, _, _, _, _, k0, _⟩ := key 0 (by omega)
      have hspot : spot = none := by simpa [Addr.add] using World.cell?_spot k0
      subst hspot
      refine ⟨b, off, cap, rfl, ?_, fun i hi => ?_⟩
      · have := cell_lt k0
        rw [add_none, add_none] at this
        exact this
      · obtain ⟨kd, nn, X, Y, ap, np, cp, k0, k1, k2, k3, k4, k5, k6⟩ := key i hi
        refine ⟨kd, nn, X, Y, ap, np, cp, ?_, ?_, ?_, ?_, ?_, k5, k6⟩
        · rw [add_none, add_none] at k0; exact k0
        · rw [add_none, add_none] at k1; exact k1
        · rw [add_none, add_none] at k2; exact k2
        · rw [add_none, add_none] at k3; exact k3
        · rw [add_none, add_none] at k4; exact k4

theorem diffs_witness (os : Os) {H : Type} (enc : TypeId × Value → H) :
    (Rows.OpenSpec.upto Rows.diffsSpec).preRow enc Tryz.prog Tryz.f3 Rows.diffsUptoRow.domain false Rows.diffsUptoRow.laid ((withTables (World.holding Tryz.prog os heldZ)).forCall (fun _ _ => 0) ⟨#[], #[.slice none 0 0], []⟩).memory #[.slice none 0 0] := by
  have hw : (DataW.whole enc Tryz.prog ((withTables (World.holding Tryz.prog os heldZ)).forCall (fun _ _ => 0) ⟨#[], #[.slice none 0 0], []⟩).memory Tryz.f3.params.toList (Rows.OpenSpec.upto Rows.diffsSpec).vars false (#[.slice none 0 0] : Array Value).toList 8).map (fun x => (x.1, x.2.1)) =
      some ([.nil], []) := by kernel_rfl
  obtain ⟨⟨x1, x2, x3⟩, hx, hx1⟩ := Option.map_eq_some_iff.1 hw
  simp only [Prod.mk.injEq] at hx1
  obtain ⟨rfl, rfl⟩ := hx1
  exact OpenSpec.preRow_of_cond 8 hx (by kernel_rfl) (fun k hk => by cases hk; kernel_rfl) (by kernel_rfl) (laid_met os _)

theorem diffs_lifted (os : Os) (started : os.Started) (H : Type) (enc : TypeId × Value → H) (F : Stop.Interp) :
    ReturnsInHanded {} Tryz.checked os 3 .any ((Rows.OpenSpec.upto Rows.diffsSpec).preRow enc Tryz.prog Tryz.f3 Rows.diffsUptoRow.domain false Rows.diffsUptoRow.laid) (((Rows.OpenSpec.upto Rows.diffsSpec).at F).post enc Tryz.prog Tryz.f3 false true false false) := by
  refine returnsInHanded_of_row (C := Tryz.checked) (s := Rows.OpenSpec.upto Rows.diffsSpec) ownK started (by kernel_rfl) Tryz.func3
    (witness_row_atRef (enc := enc) (C := Tryz.checked) false (withTables (World.holding Tryz.prog os heldZ)) #[.slice none 0 0] rfl (by kernel_rfl) (by kernel_rfl) (by kernel_rfl) (diffs_witness os enc)) ?_
  intro W base args ds gs before hval0 hW _ hcond _ _ hsh _
  have hval : ∀ (j : Nat) t v, Tryz.f3.params[j]? = some t → args[j]? = some v → Value.okWide Tryz.prog W .any base t v := hval0
  have hW' := hW
  obtain ⟨p, q, hA0, hV, rfl, _, _⟩ := hW
  have hA : DataW.TrodAll enc Tryz.prog W 0 (fun _ => true) true Tryz.f3.params.toList args.toList ds p := hA0
  rw [Tryz.params3] at hA hval
  obtain ⟨v0, vs0, d0, ds0, p0, q0, hargs, rfl, rfl, h0, r0⟩ := trodAll_cons hA
  obtain ⟨rfl, rfl, rfl⟩ := trodAll_nil r0
  obtain rfl : args = #[v0] := by cases args; simp_all
  obtain ⟨rfl, rfl⟩ := trodVars_none hV
  obtain ⟨a0, l0, c0, rfl⟩ := okWide_slice Tryz.underlying22 (hval 0 22 v0 rfl rfl)
  have h0k := h0
  obtain ⟨fuel0, hf0⟩ := h0
  clear hA0 hval0
  simp only [List.append_nil] at hW'
  have hk := hcond _ rfl
  have hb0 : Rows.uptoBulk d0 ≤ 1048576 := by
    have h := of_decide_eq_true hk
    simp only [List.append_nil, Rows.uptoBulkAll] at h
    omega
  have hlt : ∀ x ∈ p0, x.block < W.heap.size := fun x hx => by simpa using hW'.lt x hx
  obtain ⟨hle, hS⟩ := open_script hf0 hb0
  obtain ⟨m, hm⟩ := maxlen_of hsh
  refine (diffs_any (m := m) hS (Nat.le_trans hle (by decide)) hm).mono fun e W' ⟨he, hb⟩ => ?_
  subst he
  refine ⟨_, rfl, _, _, _, [], p0, [], hW', ?_, ?_, ?_, hb.frame _, fun h => by cases h⟩
  · exact trodAll_mk1 (shut_bool Tryz.underlying4 true)
  · have t0 := Below.trod laidOutD (by kernel_rfl) (of_decide_eq_true (by kernel_rfl)) h0k hb (fun x hx => hlt x hx)
    have := trodAll_cons_mk t0 trodAll_mk0
    simp only [List.append_nil] at this
    exact this
  · exact rfl

theorem diffs_row : Rows.DiffsUptoSaid :=
  OpenClaim.holds_of_cond 3 Tryz.f3 rfl rfl rfl rfl rfl rfl rfl ⟨rfl, rfl, rfl, rfl, rfl⟩ rfl rfl rfl rfl rfl (by kernel_rfl) Tryz.func3 (by kernel_rfl)
    (of_decide_eq_true (by kernel_rfl)) (by unfold Func.isWrapper; rw [if_neg (of_decide_eq_false (by kernel_rfl))]; exact ⟨rfl, rfl⟩)
    (fun os started H enc _ F0 => by rw [OpenClaim.pre_eq_preRow]; exact diffs_lifted os started H enc F0)

theorem diffs_card : Rows.DiffsUptoCardSaid :=
  Claim7.holds_tied_plain_at .later [] [.data, .data, .data, .data, .sentinel, .sentinel, .pinned] true (true, "7161e2264f3eed6547cfefa7174f8f11a68028a5e43b3bef197380733a8fa1fb") true
    diffs_row (fun _ h => by cases h) (by kernel_rfl) (fun _ h => by cases h) diffsUpto_row_tie rfl ⟨rfl, rfl⟩ (by kernel_rfl) rfl
    (fun f fn hf hfn => by
      obtain rfl : f = 3 := Option.some.inj ((show Tryz.prog.funcNamed Tryz.f3.name = some 3 by kernel_rfl).symm.trans hf) |>.symm
      obtain rfl : fn = Tryz.f3 := (Option.some.inj (Tryz.func3.symm.trans hfn)).symm
      exact ⟨by kernel_rfl, fun j t ht => by
        rw [Tryz.params3] at ht
        rcases j with _ | j
        · obtain rfl : t = 22 := by simpa using ht.symm
          exact wants_ops
        · simp at ht⟩)
    (by kernel_rfl)
#print axioms diffs_card
end Go.Proofs.YtcclgodahlinbaaGreatDoor
