import Derived.Test.YtcclgodahlinbaaGreatDoorWHunksMem
namespace Go.Proofs.YtcclgodahlinbaaGreatDoor
open Go.RowKit Go
set_option maxRecDepth 100000

/-- the first j of them numbered -/
def numJ (l : List HunkM) (j : Nat) : List HunkM := (l.take j).map numL ++ l.drop j
theorem numJ_zero (l : List HunkM) : numJ l 0 = l := by simp [numJ]
theorem numJ_all (l : List HunkM) : numJ l l.length = l.map numL := by simp [numJ]
theorem numJ_length (l : List HunkM) (j : Nat) : (numJ l j).length = l.length := by simp [numJ]; omega
theorem numJ_get (l : List HunkM) (j : Nat) (h : j < l.length) : (numJ l j)[j]'(by rw [numJ_length]; exact h) = l[j] := by
  simp [numJ, Nat.min_eq_left (Nat.le_of_lt h)]
theorem numJ_succ (l : List HunkM) (j : Nat) (h : j < l.length) : (numJ l j).set j (numL l[j]) = numJ l (j + 1) := by
  apply List.ext_getElem?
  intro t
  unfold numJ
  rw [List.getElem?_set]
  by_cases e : j = t
  · subst e
    rw [if_pos rfl, if_pos (by simp; omega), List.getElem?_append_left (by simp; omega)]
    simp [h]
  · rw [if_neg e]
    by_cases c : t < j
    · rw [List.getElem?_append_left (by simp; omega), List.getElem?_append_left (by simp; omega)]
      simp [c, show t < j + 1 by omega]
    · rw [List.getElem?_append_right (by simp; omega), List.getElem?_append_right (by simp; omega)]
      simp only [List.length_map, List.length_take, List.getElem?_drop, Nat.min_eq_left (Nat.le_of_lt h), Nat.min_eq_left (show j + 1 ≤ l.length from h)]
      congr 1; omega

set_option maxHeartbeats 2000000 in
theorem hunksOf_row {cap : Nat} {a : Option Addr} {L : List StepB} {w : World} (c : Nat) (hS : StepsAt w.heap.size w (.slice a L.length cap) L) (hc : c ≤ 10) (hL : L.length ≤ 1000) (hk : ∀ s ∈ L, s.kind = 32 ∨ s.kind = 45 ∨ s.kind = 43) (hT : ∀ s ∈ L, s.text.size ≤ 281474976710656) :
    Calls Tryz.prog 27 #[.slice a L.length cap, .int .i64 c] w fun e w' =>
      ∃ v, e = .returned v ∧ ∃ hv, HSo w.heap.size v hv w' ∧ hv.map (·.1) = hunksM L c ∧ Below w.heap.size w w' := by
  obtain ⟨i0, hi, hz0, hz1, hz2⟩ := info_parts info_hunk
  have hnr := near_row (w := w) c hS hc hL
  generalize hNB : nearB L c = NB at hnr
  have hNl : NB.length = L.length := by rw [← hNB]; simp [nearB]
  have hM : Hid (hunksM L c = (foldH L NB L.length).hs.map numL) := by unfold Hid hunksM; rw [hNB]
  have hNl' : Hid (NB.length = L.length) := hNl
  clear hNB hNl
  go_enter Tryz.func27, Tryz.ntmps27
  go_wp2_with (go_at_call 56; refine hnr.mono ?_; rintro e w1 ⟨rfl, hrow1, hb1⟩)
  have hsz1 : w.heap.size < w1.heap.size := (hrow1.lt _ rfl).2
  have hS1 := hS.below hb1
  go_loopg [5, 7, 8, 17] L.length (fun g v t7 t8 t wr => ∃ (k : Nat) (hv : List HV), g = L.length - k ∧ k ≤ L.length ∧ t = .int .i64 k ∧ t7 = .int .i64 (foldH L NB k).og ∧ t8 = .int .i64 (foldH L NB k).fg ∧ HSo w1.heap.size v hv wr ∧ hv.map (·.1) = (foldH L NB k).hs ∧ Below w1.heap.size w1 wr)
  case atStart => exact ⟨0, [], by omega, by omega, rfl, rfl, rfl, .inl ⟨rfl, rfl⟩, rfl, Below.refl _ _⟩
  case round =>
    obtain ⟨k, hv, hgk, hkl, rfl, rfl, rfl, hso, hmap, hbel⟩ := hrel
    obtain ⟨q1, q2, q3, q4, q5⟩ := foldH_bounds L NB k
    have hsz := hbel.size
    by_cases hlt : k < L.length
    · have hltI : (k : Int) < L.length := by omega
      obtain ⟨b, rfl, hbB, r0, r1⟩ := (hS1.below (hbel.mono (by omega))).at hlt
      have hbc := (hbel.cell (p := ⟨w.heap.size, k, none⟩) hsz1).trans (owns_bool hrow1 (i := k) (by have := hNl'.out; omega))
      have hkk := hk _ (List.getElem_mem hlt)
      have hTT := hT _ (List.getElem_mem hlt)
      have hfold := foldH_succ (nb := NB) hlt
      obtain ⟨s, hs⟩ : ∃ s, L[k] = s := ⟨_, rfl⟩
      rw [hs] at r0 r1 hkk hTT hfold
      clear hs
      have hmap' : Hid (hv.map (·.1) = (foldH L NB k).hs) := hmap
      clear hmap
      generalize hF : foldH L NB k = F at *
      have hq5 : Hid (0 < k → NB.getD (k - 1) false = true → hv ≠ []) := fun h1 h2 h3 => by
        subst h3
        exact q5 h1 (by omega) h2 (by have := hmap'.out; simpa using this.symm)
      have hq4 : Hid (∀ p ∈ hv, p.1.fc ≤ 1000 ∧ p.1.tc ≤ 1000 ∧ p.1.lines.length ≤ 1000) := by
        intro p hp
        have := q4 p.1 (by rw [← hmap'.out]; exact List.mem_map_of_mem hp)
        omega
      have hvl : hv.length ≤ 1000 := by
        have := hmap'.out
        have e : (hv.map (·.1)).length = F.hs.length := by rw [this]
        rw [List.length_map] at e; omega
      generalize hnb : NB.getD k false = nb at hbc hfold
      have hfold' : Hid (foldH L NB (k + 1) = _) := hfold
      clear hF hfold hnb q4 q5
      obtain ⟨og, hog⟩ : ∃ og, F.og = og := ⟨_, rfl⟩
      obtain ⟨fg, hfg⟩ : ∃ fg, F.fg = fg := ⟨_, rfl⟩
      have hog' : Hid (F.og = og ∧ F.fg = fg) := ⟨hog, hfg⟩
      rw [hog] at q1
      rw [hfg] at q2
      rw [hog, hfg]
      clear hog hfg
      have hwr : w.heap.size < wr.heap.size := by omega
      go_upto_if 25 with fail
      have hso1 := hso.alloc (.cells #[.int .u8 (s.kind : Int), .string s.text] 120)
      have hbel1 := hbel.alloc hsz (.cells #[.int .u8 (s.kind : Int), .string s.text] 120)
      have hBx := heap_alloc_new wr (.cells #[.int .u8 (s.kind : Int), .string s.text] 120)
      have hzz : (wr.alloc (.cells #[.int .u8 (s.kind : Int), .string s.text] 120)).heap.size = wr.heap.size + 1 := by simp
      generalize hB : wr.heap.size = B at *
      generalize wr.alloc (.cells #[.int .u8 (s.kind : Int), .string s.text] 120) = wa at *
      clear hso hbel hB r0 r1 hbc
      go_cut [5, 17] from 18 to 59 (fun v' t wc => ∃ hv', t = .int .i64 k ∧ HSo w1.heap.size v' hv' wc ∧ hv'.map (·.1) = stepHs nb (decide (0 < k) && NB.getD (k - 1) false) s F ∧ Below w1.heap.size w1 wc ∧ wc.heap[B]? = some (.cells #[.int .u8 (s.kind : Int), .string s.text] 120 (0, 0)))
      case first =>
        cases nb with
        | false =>
          go_wp2
          go_meet
          case rel => exact ⟨hv, rfl, hso1, by rw [hmap'.out]; simp [stepHs], hbel1, hBx⟩
        | true =>
          have hbase1 : w1.heap.size ≤ wa.heap.size := hbel1.size
          have hadd : Hid (∀ (wx : World) (g n cap : Nat) (init : List HV) (h : HunkM) (vl : Value), HSv w1.heap.size g n cap (init ++ [(h, vl)]) wx → w1.heap.size ≤ g → h.fc ≤ 1000 → h.tc ≤ 1000 → h.lines.length ≤ 1000 → Below w1.heap.size w1 wx → wx.heap[B]? = some (.cells #[.int .u8 (s.kind : Int), .string s.text] 120 (0, 0)) →
              Calls Tryz.prog 57 #[.pointer (some ⟨g, init.length * 5, none⟩), .agg #[.int .u8 (s.kind : Int), .string s.text]] wx.drew fun e w' => e = .returned (.tuple #[]) ∧ ∃ hv', HSo w1.heap.size (.slice (some ⟨g, 0, none⟩) n cap) hv' w' ∧ hv'.map (·.1) = init.map (·.1) ++ [addL h s] ∧ Below w1.heap.size w1 w' ∧ w'.heap[B]? = some (.cells #[.int .u8 (s.kind : Int), .string s.text] 120 (0, 0))) := by
            intro wx g n cap init h vl hsv hg f1 f2 f3 hb hB
            refine (addLine_sm s (w := wx.drew) ⟨hsv.len, hsv.row, hsv.lines, hsv.apart⟩ hb.size hg hkk f1 f2 f3 hTT).mono ?_
            rintro e w' ⟨rfl, vl', hs', hb', hk'⟩
            refine ⟨rfl, init ++ [(addL h s, vl')], .inr ⟨g, cap, ?_, hg, ?_⟩, by simp, hb.trans (Below.of_drew hb'), ?_⟩
            · rw [← hs'.len]
            · rw [← hs'.len]; exact hs'
            · rw [← hB]
              have hlB : B < wx.heap.size := (Array.getElem?_eq_some_iff.1 hB).1
              refine hk' B hlB ?_ ?_
              · intro e
                obtain ⟨c1, h1⟩ := owns_block hsv.row (g := g) rfl
                rw [← e, hB] at h1
                cases h1
              · intro e
                obtain ⟨c1, h1⟩ := owns_block (hsv.lines (h, vl) (by simp)) e.symm
                rw [hB] at h1
                cases h1
          have hnew : Hid (∀ (wx : World) (g' cap' : Nat) (ob : Obj), wx.ownsRow w1.heap.size 61 5 (.slice (some ⟨g', 0, none⟩) (hv.length + 1) cap') (hv.length + 1) (hunkCells hv ++ [.int .i64 (og : Int), .int .i64 0, .int .i64 (fg : Int), .int .i64 0, .slice none 0 0]) → (wa.alloc ob).grownBy wx u5.ownBlock → w1.heap.size ≤ g' →
              HSv w1.heap.size g' (hv.length + 1) cap' (hv ++ [(newHunk og fg, .slice none 0 0)]) wx ∧ Below w1.heap.size w1 wx ∧ wx.heap[B]? = some (.cells #[.int .u8 (s.kind : Int), .string s.text] 120 (0, 0))) := by
            intro wx g' cap' ob h1 h2 h3
            have hp := hso1.push (newHunk og fg) rfl h2 h1
            have hlB : B < wa.heap.size := by omega
            refine ⟨by simpa using hp, (hbel1.alloc hbase1 ob).grown h2 (by simp; omega) (fun j e => (hso1.owns.lt j e).1), ?_⟩
            rw [h2.block B (by simp; omega) ?_]
            · exact (Below.heap_alloc wa ob B hlB).trans hBx
            · intro e
              obtain ⟨c1, h1⟩ := owns_block hso1.owns e.symm
              rw [hBx] at h1
              cases h1
          have hone : ∀ u ∈ [Value.int .i64 (og : Int), .int .i64 0, .int .i64 (fg : Int), .int .i64 0, .slice none 0 0], u.oneCell' = true := by intro u hu; simp at hu; rcases hu with rfl | rfl | rfl | rfl | rfl <;> rfl
          have hm1 : hv.length + 1 ≤ maxLen := by unfold maxLen; omega
          have hm2 : (hv.length + 1) * 56 ≤ 140737488355328 := by omega
          have hbs : ∀ ob, w1.heap.size ≤ (wa.alloc ob).heap.size := by intro ob; simp; omega
          have hwv : IntKind.i64.wrap (hv.length : Int) = hv.length := by rw [IntKind.wrap_i64]; omega
          have hix : (hv.length : Int) < ((hv.length + 1 : Nat) : Int) := by omega
          have hix2 : (hv.length : Int) < (hv.length : Int) + 1 := by omega
          have hzz' : Hid (wa.heap.size = B + 1) := hzz
          have hso2 := hso1.owns
          clear hzz
          by_cases hk0 : k = 0
          · subst hk0
            have hst : Hid (stepHs true (decide (0 < 0) && NB.getD (0 - 1) false) s F = hv.map (·.1) ++ [addL (newHunk og fg) s]) := by
              unfold Hid stepHs; rw [hmap'.out, hog'.out.1, hog'.out.2]; simp [lastAdd_append]
            go_wp2_with (at_builtin; refine wpList_append_own _ rfl (.tmp 36) (.tmp 40) 30 rfl w1.heap.size 61 i0 _ 5 56 Tryz.underlying30 hi hz0 hz1 hz2 rfl (by decide) u5 hv.length (hunkCells hv) rfl (hso2.alloc _) ⟨wa.heap.size, 0, none⟩ 1 1 [.int .i64 (og : Int), .int .i64 0, .int .i64 (fg : Int), .int .i64 0, .slice none 0 0] rfl rfl (cells_new wa _ _) hone hm1 hm2 (hbs _) ?_; intro v' w2 hown' hgrow _; obtain ⟨g', cap', rfl, hg', _⟩ := owns_slice hown' (Nat.succ_pos _))
            obtain ⟨hs2, hb2, hBx2⟩ := hnew.out w2 g' cap' _ hown' hgrow hg'
            have z0 : w2.cell? ⟨B, 0, none⟩ = some (.int .u8 (s.kind : Int)) := cell_of hBx2 rfl
            have z1 : w2.cell? ⟨B, 1, none⟩ = some (.string s.text) := cell_of hBx2 rfl
            have hA := hadd.out w2 g' (hv.length + 1) cap' hv (newHunk og fg) _ hs2 hg' (by simp [newHunk]) (by simp [newHunk]) (by simp [newHunk]) hb2 hBx2
            refine wp_still_tail 6 mixed (by kernel_rfl) ?_
            simp only [List.take_succ_cons, List.take_zero, List.drop_succ_cons, List.drop_zero]
            repeat still_step
            refine wpStill_nil ?_
            go_wp2_with (go_at_call 57; refine hA.mono ?_; rintro e w3 ⟨rfl, hv3, ho3, hmm3, hb3, hx3⟩)
            go_meet
            case rel => exact ⟨hv3, rfl, ho3, by rw [hmm3]; exact hst.out.symm, hb3, hx3⟩
          · have hkI : (((k : Nat) : Int) == 0) = false := by rw [beq_eq_false_iff_ne]; omega
            have hpc := (hbel1.cell (p := ⟨w.heap.size, k - 1, none⟩) hsz1).trans (owns_bool hrow1 (i := k - 1) (by have := hNl'.out; omega))
            generalize hpb : NB.getD (k - 1) false = pb at hpc
            have hk1 : ((k : Int) - 1) = ((k - 1 : Nat) : Int) := by omega
            have hk1b : ((k - 1 : Nat) : Int) < L.length := by omega
            have hk1c : ((k : Int) - 1).toNat = k - 1 := by omega
            have hk1d : ((k : Int) - 1) < L.length := by omega
            have hk1e : 0 ≤ ((k : Int) - 1) := by omega
            cases pb with
            | false =>
              have hst : Hid (stepHs true (decide (0 < k) && NB.getD (k - 1) false) s F = hv.map (·.1) ++ [addL (newHunk og fg) s]) := by
                unfold Hid stepHs; rw [hpb, hmap'.out, hog'.out.1, hog'.out.2]; simp [lastAdd_append]
              clear hpb
              go_wp2_with (at_builtin; refine wpList_append_own _ rfl (.tmp 36) (.tmp 40) 30 rfl w1.heap.size 61 i0 _ 5 56 Tryz.underlying30 hi hz0 hz1 hz2 rfl (by decide) u5 hv.length (hunkCells hv) rfl (hso2.alloc _) ⟨wa.heap.size, 0, none⟩ 1 1 [.int .i64 (og : Int), .int .i64 0, .int .i64 (fg : Int), .int .i64 0, .slice none 0 0] rfl rfl (cells_new wa _ _) hone hm1 hm2 (hbs _) ?_; intro v' w2 hown' hgrow _; obtain ⟨g', cap', rfl, hg', _⟩ := owns_slice hown' (Nat.succ_pos _))
              obtain ⟨hs2, hb2, hBx2⟩ := hnew.out w2 g' cap' _ hown' hgrow hg'
              have z0 : w2.cell? ⟨B, 0, none⟩ = some (.int .u8 (s.kind : Int)) := cell_of hBx2 rfl
              have z1 : w2.cell? ⟨B, 1, none⟩ = some (.string s.text) := cell_of hBx2 rfl
              have hA := hadd.out w2 g' (hv.length + 1) cap' hv (newHunk og fg) _ hs2 hg' (by simp [newHunk]) (by simp [newHunk]) (by simp [newHunk]) hb2 hBx2
              refine wp_still_tail 6 mixed (by kernel_rfl) ?_
              simp only [List.take_succ_cons, List.take_zero, List.drop_succ_cons, List.drop_zero]
              repeat still_step
              refine wpStill_nil ?_
              go_wp2_with (go_at_call 57; refine hA.mono ?_; rintro e w3 ⟨rfl, hv3, ho3, hmm3, hb3, hx3⟩)
              go_meet
              case rel => exact ⟨hv3, rfl, ho3, by rw [hmm3]; exact hst.out.symm, hb3, hx3⟩
            | true =>
              have hne := hq5.out (by omega) hpb
              have hin : ∃ init h vl, hv = init ++ [(h, vl)] := ⟨hv.dropLast, (hv.getLast hne).1, (hv.getLast hne).2, (List.dropLast_concat_getLast hne).symm⟩
              obtain ⟨init, h, vl, rfl⟩ := hin
              have hst : Hid (stepHs true (decide (0 < k) && NB.getD (k - 1) false) s F = init.map (·.1) ++ [addL h s]) := by
                unfold Hid stepHs
                rw [hpb, ← hmap'.out]
                have : decide (0 < k) = true := by simp; omega
                simp [this, lastAdd_append]
              have hq := hq4.out (h, vl) (by simp)
              rcases hso1 with ⟨e, _⟩ | ⟨g, cap1, rfl, hg, hsv⟩
              · simp at e
              · have hA := hadd.out wa g _ cap1 init h vl hsv hg hq.1 hq.2.1 hq.2.2 hbel1 hBx
                have z0 : wa.cell? ⟨B, 0, none⟩ = some (.int .u8 (s.kind : Int)) := cell_of hBx rfl
                have z1 : wa.cell? ⟨B, 1, none⟩ = some (.string s.text) := cell_of hBx rfl
                have hil : (init ++ [(h, vl)]).length = init.length + 1 := by simp
                rw [hil] at hA hvl
                have hwv2 : IntKind.i64.wrap (init.length : Int) = init.length := by rw [IntKind.wrap_i64]; omega
                have hix3 : (init.length : Int) < ((init.length + 1 : Nat) : Int) := by omega
                have hix4 : (init.length : Int) < (init.length : Int) + 1 := by omega
                clear hwv hix hix2
                clear hpb hq hmap' hq4 hq5 hnew hso2 hsv
                rw [hil]
                go_wp2_with fail
                refine wp_still_tail 6 mixed (by kernel_rfl) ?_
                simp only [List.take_succ_cons, List.take_zero, List.drop_succ_cons, List.drop_zero]
                repeat still_step
                refine wpStill_nil ?_
                go_wp2_with (go_at_call 57; refine hA.mono ?_; rintro e w3 ⟨rfl, hv3, ho3, hmm3, hb3, hx3⟩)
                go_meet
                case rel => exact ⟨hv3, rfl, ho3, by rw [hmm3]; exact hst.out.symm, hb3, hx3⟩
      case rest =>
        obtain ⟨hv', rfl, ho2, hm2, hb2, hx2⟩ := hcut
        have z0 : wc.cell? ⟨B, 0, none⟩ = some (.int .u8 (s.kind : Int)) := cell_of hx2 rfl
        have hfin : Hid (∀ (o1 f1 : Nat), o1 = og + (if s.kind = 43 then 0 else 1) → f1 = fg + (if s.kind = 45 then 0 else 1) → (foldH L NB (k + 1)).og = o1 ∧ (foldH L NB (k + 1)).fg = f1 ∧ hv'.map (·.1) = (foldH L NB (k + 1)).hs) := by
          intro o1 f1 h1 h2
          rw [hfold'.out]
          simp only
          rw [hog'.out.1, hog'.out.2]
          exact ⟨h1.symm, h2.symm, hm2⟩
        clear hso1 hbel1 hBx hm2 hmap' hq4 hq5 hfold'
        rcases hkk with hkk | hkk | hkk
        · have z1 : wc.cell? ⟨B, 0, none⟩ = some (.int .u8 32) := by rw [z0, hkk]; rfl
          clear z0
          have hF := hfin.out (og + 1) (fg + 1) (by simp [hkk]) (by simp [hkk])
          have hF' : Hid _ := hF
          clear hF hkk hfin
          go_wp2
          go_roundg (L.length - (k + 1))
          case measure => omega
          case rel => exact ⟨k + 1, hv', rfl, by omega, by go_num, by rw [hF'.out.1]; go_num, by rw [hF'.out.2.1]; go_num, ho2, hF'.out.2.2, hb2⟩
        · have z1 : wc.cell? ⟨B, 0, none⟩ = some (.int .u8 45) := by rw [z0, hkk]; rfl
          clear z0
          have hF := hfin.out (og + 1) fg (by simp [hkk]) (by simp [hkk])
          have hF' : Hid _ := hF
          clear hF hkk hfin
          go_wp2
          go_roundg (L.length - (k + 1))
          case measure => omega
          case rel => exact ⟨k + 1, hv', rfl, by omega, by go_num, by rw [hF'.out.1]; go_num, by rw [hF'.out.2.1], ho2, hF'.out.2.2, hb2⟩
        · have z1 : wc.cell? ⟨B, 0, none⟩ = some (.int .u8 43) := by rw [z0, hkk]; rfl
          clear z0
          have hF := hfin.out og (fg + 1) (by simp [hkk]) (by simp [hkk])
          have hF' : Hid _ := hF
          clear hF hkk hfin
          go_wp2
          go_roundg (L.length - (k + 1))
          case measure => omega
          case rel => exact ⟨k + 1, hv', rfl, by omega, by go_num, by rw [hF'.out.1], by rw [hF'.out.2.1]; go_num, ho2, hF'.out.2.2, hb2⟩
    · have hltI : ¬ ((k : Int) < L.length) := by omega
      have hkn : k = L.length := by omega
      have hF : Hid (hunksM L c = (foldH L NB k).hs.map numL) := by unfold Hid; rw [hkn]; exact hM.out
      clear hkn
      generalize foldH L NB k = F at *
      obtain ⟨og, hog⟩ : ∃ og, F.og = og := ⟨_, rfl⟩
      obtain ⟨fg, hfg⟩ : ∃ fg, F.fg = fg := ⟨_, rfl⟩
      rw [hog, hfg]
      clear hog hfg hM
      have hq4 : Hid (∀ h ∈ F.hs, h.fr ≤ 100000 ∧ h.tr ≤ 100000) := fun h hh => by have := q4 h hh; omega
      have hmap' : Hid (hv.map (·.1) = F.hs) := hmap
      have hvl : hv.length = F.hs.length := by rw [← hmap, List.length_map]
      have hvl' : Hid (hv.length = F.hs.length) := hvl
      have hvb : hv.length ≤ 1000 := by omega
      have hsl : ∃ a1 c1, u5 = .slice a1 hv.length c1 := by
        rcases hso with ⟨rfl, rfl⟩ | ⟨g, c1, rfl, _⟩
        · exact ⟨_, _, rfl⟩
        · exact ⟨_, _, rfl⟩
      obtain ⟨a1, c1, rfl⟩ := hsl
      obtain ⟨n, hn⟩ : ∃ n, hv.length = n := ⟨_, rfl⟩
      rw [hn] at hso hvb hvl' ⊢
      have hn' : Hid (hv.length = n) := hn
      clear hmap hvl hn q1 q2 q3 q4 q5
      go_wp2
      go_loopg [62] n (fun g t wr => ∃ (j : Nat) (hv' : List HV), g = n - j ∧ j ≤ n ∧ t = .int .i64 j ∧ HSo w1.heap.size (.slice a1 n c1) hv' wr ∧ hv'.map (·.1) = numJ F.hs j ∧ Below w1.heap.size w1 wr)
      case atStart => exact ⟨0, hv, by omega, by omega, rfl, hso, by rw [numJ_zero]; exact hmap'.out, hbel⟩
      case round =>
        obtain ⟨j, hv', hgj, hjn, rfl, hso', hmm, hbel'⟩ := hrel
        have hl' : hv'.length = n := by
          have e : (hv'.map (·.1)).length = (numJ F.hs j).length := by rw [hmm]
          rw [List.length_map, numJ_length] at e
          have := hvl'.out; omega
        have hA : Hid (hv'.map (·.1) = numJ F.hs j ∧ hv'.length = n ∧ gk = n - j) := ⟨hmm, hl', hgj⟩
        clear hmm hgj
        by_cases hlt2 : j < n
        · have hltI2 : (j : Int) < n := by omega
          rcases hso' with ⟨e, _⟩ | ⟨g, cap1, e, hg, hsv⟩
          · subst e; simp at hl'; omega
          · obtain ⟨rfl, hnn, rfl⟩ : a1 = some ⟨g, 0, none⟩ ∧ n = hv'.length ∧ c1 = cap1 := by cases e; exact ⟨rfl, rfl, rfl⟩
            rw [← hnn] at hsv
            clear e hnn
            have hj' : j < hv'.length := by omega
            have hx : hv'[j].1 = F.hs[j]'(by have := hvl'.out; omega) := by
              have e1 : (hv'.map (·.1))[j]'(by simpa using hj') = (numJ F.hs j)[j]'(by rw [numJ_length]; have := hvl'.out; omega) := by simp only [hA.out.1]
              rw [numJ_get _ _ (by have := hvl'.out; omega)] at e1
              simpa using e1
            have hbd := hq4.out hv'[j].1 (by rw [hx]; exact List.getElem_mem _)
            have hC := number_sm hsv (by have := hbel'.size; omega) hg hj' hbd.1 hbd.2
            have hm2 : Hid ((hv'.set j (numL hv'[j].1, hv'[j].2)).map (·.1) = numJ F.hs (j + 1)) := by
              unfold Hid
              rw [List.map_set, hA.out.1]
              simp only
              rw [hx, numJ_succ]
            have hl2 : Hid ((hv'.set j (numL hv'[j].1, hv'[j].2)).length = n) := by unfold Hid; rw [List.length_set]; exact hA.out.2.1
            generalize hv'.set j (numL hv'[j].1, hv'[j].2) = hv2 at hC hm2 hl2
            clear hx hbd hsv hl'
            go_wp2_with (go_at_call 58; refine hC.mono ?_; rintro e w3 ⟨rfl, hs3, hb3⟩)
            go_roundg (n - (j + 1))
            case measure => have := hA.out.2.2; omega
            case rel =>
              refine ⟨j + 1, hv2, rfl, by omega, by go_num, .inr ⟨g, c1, ?_, hg, ?_⟩, hm2, hbel'.trans hb3⟩
              · rw [hl2.out]
              · rw [hl2.out]; exact hs3
        · have hltI2 : ¬ ((j : Int) < n) := by omega
          have hjn2 : j = n := by omega
          have hfin : Hid (hv'.map (·.1) = hunksM L c) := by
            unfold Hid
            rw [hA.out.1, hF.out, hjn2, hvl'.out, numJ_all]
          clear hjn2
          go_wp2
          go_ret
          exact ⟨_, rfl, hv', hso'.mono (Nat.le_of_lt hsz1), hfin.out, hb1.trans (hbel'.mono (Nat.le_of_lt hsz1))⟩
end Go.Proofs.YtcclgodahlinbaaGreatDoor
