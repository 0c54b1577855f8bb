import Derived.Test.YtcclgodahlinbaaGreatDoorWBuild1
import Derived.Test.YtcclgodahlinbaaGreatDoorWReadN
namespace Go.Proofs.YtcclgodahlinbaaGreatDoor
open Go.RowKit Go
set_option maxRecDepth 100000

set_option maxHeartbeats 2000000 in
theorem writeByte_bld {S : Nat} {ad vb : Value} {bs : List Value} {w : World} (c : Int) (h : BldM S ad vb bs w) (hlen : bs.length + 1 ≤ 140737488355328) :
    Calls Tryz.prog 74 #[.pointer (some ⟨S, 0, none⟩), .int .u8 c] w fun e w' => e = .returned .nilIface ∧ ∃ vb', BldM S (.pointer (some ⟨S, 0, none⟩)) vb' (bs ++ [.int .u8 c]) w' ∧ Below S w w' ∧ Lib.OthersKept 5 (some S) w w' := by
  obtain ⟨i0, hi, hz0, hz1, hz2⟩ := info_parts info_byte
  have hlt := h.lt
  have hone : ∀ u ∈ [Value.int .u8 c], u.oneCell' = true := by intro u hu; simp at hu; subst hu; rfl
  go_enter Tryz.func74, Tryz.ntmps74
  go_wp2_with (go_at_call 108; refine (copyCheck_bld h).mono ?_)
  rintro e w1 ⟨rfl, h1, hb1, hk1⟩
  have hz := hb1.size
  have hlt1 := h1.lt
  have c2 : w1.cell? ⟨S, 1, none⟩ = some vb := cell_of h1.blk rfl
  obtain ⟨ab0, cb0, rfl⟩ := owns_isSlice h1.own
  go_wp2_with (at_builtin; refine wpList_append_own _ rfl (.tmp 11) (.tmp 13) 72 rfl (S + 1) 5 i0 _ 1 1 Tryz.underlying72 hi hz0 hz1 hz2 rfl (by decide) (.slice ab0 bs.length cb0) bs.length bs rfl (h1.own.alloc _) ⟨w1.heap.size, 0, none⟩ 1 1 [.int .u8 c] rfl rfl (cells_new w1 _ _) hone (by unfold maxLen; omega) (by omega) (by simp; omega) ?_)
  intro vb' w2 hown' hgrow _
  have hb2 : w2.heap[S]? = w1.heap[S]? := (hgrow.block S (by simp; omega) (fun e => h1.ne e.symm)).trans (Below.heap_alloc _ _ _ hlt1)
  have d2 := (World.cell?_of_block (a := ⟨S, 1, none⟩) hb2).trans c2
  have f2 : w2.frozen? ⟨S, 1, none⟩ = false := frozen_of (hb2.trans h1.blk)
  obtain ⟨ab, cb, rfl⟩ := owns_isSlice hown'
  go_wp2
  go_ret
  refine ⟨rfl, _, h1.put2 hb2 (bs' := bs ++ [.int .u8 c]) (by simpa using hown'), ?_, ((hk1.alloc _).grown hgrow (owns_kind (h1.own.alloc _))).setCell ⟨S, 1, none⟩ rfl _⟩
  exact ((hb1.alloc (by omega) _).grown hgrow (by simp; omega) (fun k hk => by have := (h1.own.lt k hk).1; omega)).setCell (p := ⟨S, 1, none⟩) (Nat.le_refl _) _
set_option maxHeartbeats 1000000 in
theorem bstring_kept {S : Nat} {t : List UInt8} {w : World} (h : ∃ ad vb, BldM S ad vb (Lib.byteCells t) w) :
    Calls Tryz.prog 67 #[.pointer (some ⟨S, 0, none⟩)] w fun e w' => e = .returned (.string ⟨t.toArray⟩) ∧ Below (S + 1) w w' := by
  obtain ⟨ad, vb, h⟩ := h
  have hlt := h.lt
  have hUN := fun (W : World) (q : Option Addr) => Lib.run_unsafeString_none (P := Tryz.prog) W 172 3 9 q
  have c2 : w.drew.cell? ⟨S, 1, none⟩ = some vb := cell_of (w := w.drew) h.blk rfl
  have hown := h.own
  rw [Lib.byteCells_length] at hown
  rcases hown.2 with ⟨rfl, h0⟩ | ⟨g, cap, cur, rfl, hbg, hg, hnc, hcm, hcs, htake⟩
  · obtain rfl : t = [] := List.eq_nil_of_length_eq_zero h0
    have hSD : (Builtin.unsafeSliceData_ #[72] 172 #[.slice none 0 0]).run Tryz.prog w.drew = .ok (.pointer none) w.drew := rfl
    go_enter Tryz.func67, Tryz.ntmps67
    go_wp2
    go_region
    all_goals (go_wp2; go_ret; exact ⟨rfl, Below.drew (Below.refl (S + 1) w)⟩)
  · by_cases ht0 : t = []
    · subst ht0
      by_cases hc0 : cap = 0
      · subst hc0
        have hSD : (Builtin.unsafeSliceData_ #[72] 172 #[.slice (some ⟨g, 0, none⟩) 0 0]).run Tryz.prog w.drew = .ok (.pointer (some ⟨w.heap.size, 0, none⟩)) (w.drew.alloc (.view ⟨g, 0, none⟩ 5)) :=
          Lib.run_unsafeSliceData_zero w.drew _ _ _ Tryz.underlying172 _ _ (5, cur.size) (by have hg' : w.drew.heap[g]? = some (.cells cur 5 (0, 0)) := hg; simp [World.shape?, hg'])
        have c2w : w.cell? ⟨S, 1, none⟩ = some (.slice (some ⟨g, 0, none⟩) 0 0) := c2
        have c2' : (w.drew.alloc (.view ⟨g, 0, none⟩ 5)).cell? ⟨S, 1, none⟩ = some (.slice (some ⟨g, 0, none⟩) 0 0) := (World.cell?_of_block (Below.heap_alloc w.drew _ S hlt)).trans c2
        go_enter Tryz.func67, Tryz.ntmps67
        go_wp2
        go_region
        all_goals (go_wp2; go_ret; exact ⟨rfl, ((Below.refl (S + 1) w).drew).alloc (by show S + 1 ≤ w.heap.size; omega) _⟩)
      · have hSD : (Builtin.unsafeSliceData_ #[72] 172 #[.slice (some ⟨g, 0, none⟩) 0 cap]).run Tryz.prog w.drew = .ok (.pointer (some ⟨g, 0, none⟩)) w.drew := Lib.run_unsafeSliceData_row _ _ _ _ _ _ (by omega)
        go_enter Tryz.func67, Tryz.ntmps67
        go_wp2
        go_region
        all_goals (go_wp2; go_ret; exact ⟨rfl, (Below.refl (S + 1) w).drew⟩)
    · have hl0 : t.length ≠ 0 := by simpa using ht0
      have hSD : (Builtin.unsafeSliceData_ #[72] 172 #[.slice (some ⟨g, 0, none⟩) t.length cap]).run Tryz.prog w.drew = .ok (.pointer (some ⟨g, 0, none⟩)) w.drew :=
        Lib.run_unsafeSliceData_row _ _ _ _ _ _ (by omega)
      have hUS : (Builtin.unsafeString_ #[172, 3] 9 #[.pointer (some ⟨g, 0, none⟩), .int .i64 t.length]).run Tryz.prog w.drew = .ok (.string ⟨t.toArray⟩) (w.drew.freeze ⟨g, 0, none⟩ t.length) := by
        refine Lib.run_unsafeString_row w.drew 172 3 9 5 Tryz.underlying172 (by kernel_rfl) g cur.size (by have hg' : w.drew.heap[g]? = some (.cells cur 5 (0, 0)) := hg; simp [World.shape?, hg']) t ht0 (by omega) (by unfold maxLen at hcm; omega) ?_
        intro j x hx
        have := hown.cells (g := g) rfl j (.int .u8 x.toNat) (by simp [Lib.byteCells, hx])
        exact this
      go_enter Tryz.func67, Tryz.ntmps67
      go_wp2
      go_region
      all_goals (go_wp2; go_ret; exact ⟨rfl, Lib.below_freeze (Below.drew (Below.refl (S + 1) w)) (p := ⟨g, 0, none⟩) (by show S + 1 ≤ g; omega) _⟩)
theorem blen_bld {S : Nat} {ad vb : Value} {bs : List Value} {w : World} (h : BldM S ad vb bs w) :
    Calls Tryz.prog 73 #[.pointer (some ⟨S, 0, none⟩)] w fun e w' => e = .returned (.int .i64 (bs.length : Int)) ∧ w = w' := by
  have c2 : w.cell? ⟨S, 1, none⟩ = some vb := cell_of h.blk rfl
  obtain ⟨ab0, cb0, rfl⟩ := owns_isSlice h.own
  go_enter Tryz.func73, Tryz.ntmps73
  go_wp2
  go_ret
  exact ⟨rfl, rfl⟩

theorem BldM.alloc {S : Nat} {ad vb : Value} {bs : List Value} {w : World} (h : BldM S ad vb bs w) (o : Obj) : BldM S ad vb bs (w.alloc o) :=
  ⟨(Below.heap_alloc w o S h.lt).trans h.blk, h.adr, h.own.alloc o⟩
theorem BldM.below {S : Nat} {ad vb : Value} {bs : List Value} {w w' : World} (h : BldM S ad vb bs w) (hb : Below w.heap.size w w') : BldM S ad vb bs w' :=
  ⟨(hb.block S h.lt).trans h.blk, h.adr, owns_below h.own hb (fun k e => (h.own.lt k e).2)⟩
theorem writeM_take {hs : List HunkM} {k : Nat} (h : k < hs.length) : writeM (hs.take (k + 1)) = writeM (hs.take k) ++ writeM [hs[k]] := by
  rw [List.take_succ_eq_append_getElem h, writeM_append]
theorem writeM_one (h : HunkM) : writeM [h] = headM h ++ [10] ++ toksL (h.lines.map .inr) := by
  unfold writeM
  rw [toksM_one]
  unfold toksH
  rw [toksL_cons]
  rfl
theorem lines_take {L : List StepB} {k : Nat} (h : k < L.length) : toksL ((L.take (k + 1)).map .inr) = toksL ((L.take k).map .inr) ++ (UInt8.ofNat L[k].kind :: (L[k].text.data.toList ++ [10])) := by
  rw [List.take_succ_eq_append_getElem h, List.map_append, toksL_append, List.map_cons, List.map_nil, toksL_one]
  rfl
theorem byteCells_snoc (l : List UInt8) (k : Nat) (h : k < 256) : Lib.byteCells (l ++ [UInt8.ofNat k]) = Lib.byteCells l ++ [.int .u8 (k : Int)] := by
  rw [Lib.byteCells_append]
  have : (UInt8.ofNat k).toNat = k := by simp; omega
  simp [Lib.byteCells, this]
theorem drewN_bld {S n : Nat} {ad vb : Value} {bs : List Value} {w : World} (h : BldM S ad vb bs w) : BldM S ad vb bs (w.drewN n) := ⟨h.blk, h.adr, h.own⟩
set_option maxHeartbeats 4000000 in
theorem written_ok {hs : List HunkM} {a : Option Addr} {cap : Nat} {w : World} (hH : HunksAt w.heap.size w (.slice a hs.length cap) hs) (hL : hs.length ≤ 1000) (hsm : ∀ h ∈ hs, Small h ∧ ∀ s ∈ h.lines, Fine s) (hT : (writeM hs).length ≤ 20000) :
    Calls Tryz.prog 33 #[.agg #[.slice a hs.length cap]] w fun e w' => e = .returned (.tuple #[.string ⟨(writeM hs).toArray⟩, .bool true]) ∧ Below w.heap.size w w' := by
  have hb := ((Below.refl w.heap.size w).alloc (Nat.le_refl _) (.cells #[.slice a hs.length cap] 32)).alloc (by simp) (.cells #[.pointer none, .slice none 0 0] 74)
  have hU := heap_alloc_new (w.alloc (.cells #[.slice a hs.length cap] 32)) (.cells #[.pointer none, .slice none 0 0] 74)
  rw [World.size_alloc] at hU
  have hB0 : ∃ ad vb, BldM (w.heap.size + 1) ad vb (Lib.byteCells (writeM (hs.take 0))) ((w.alloc (.cells #[.slice a hs.length cap] 32)).alloc (.cells #[.pointer none, .slice none 0 0] 74)) := ⟨_, _, ⟨hU, .inl rfl, World.ownsRow_nil _ _ _ _⟩⟩
  have hmono : ∀ k, k ≤ hs.length → (writeM (hs.take k)).length ≤ 20000 := by
    intro k hk
    have : writeM hs = writeM (hs.take k) ++ writeM (hs.drop k) := by rw [← writeM_append, List.take_append_drop]
    rw [this, List.length_append] at hT
    omega
  go_enter Tryz.func33, Tryz.ntmps33
  go_wp2_with fail
  generalize (w.alloc (.cells #[.slice a hs.length cap] 32)).alloc (.cells #[.pointer none, .slice none 0 0] 74) = W at *
  go_loopg [12] hs.length (fun g t wr => ∃ k : Nat, g = hs.length - k ∧ k ≤ hs.length ∧ t = .int .i64 k ∧ (∃ ad vb, BldM (w.heap.size + 1) ad vb (Lib.byteCells (writeM (hs.take k))) wr) ∧ Below w.heap.size w wr)
  case atStart => exact ⟨0, by omega, by omega, rfl, hB0, hb⟩
  case round =>
    obtain ⟨k, hgk, hkl, rfl, ⟨ad, vb, hbm⟩, hbel⟩ := hrel
    have hG : Hid (gk = hs.length - k) := hgk
    clear hgk hB0 hU hb
    have hlt := hbm.lt
    by_cases hk : k < hs.length
    · have hkI : (k : Int) < hs.length := by omega
      obtain ⟨b, a', c', rfl, hbB, r0, r1, r2, r3, r4, hst⟩ := (hH.below hbel).at hk
      obtain ⟨l1, l2⟩ := hsm _ (List.getElem_mem hk)
      have hwt := writeM_take hk
      rw [writeM_one] at hwt
      have hm2 := hmono (k + 1) (by omega)
      rw [hwt] at hm2
      have hK : Hid (writeM (hs.take (k + 1)) = writeM (hs.take k) ++ (headM hs[k] ++ [10] ++ toksL (hs[k].lines.map .inr))) := hwt
      clear hwt
      generalize hs[k] = h at *
      generalize writeM (hs.take k) = T at *
      have hhl := head_len l1
      have hm3 : T.length + (headM h ++ [10]).length + (toksL (h.lines.map .inr)).length ≤ 20000 := by simp only [List.length_append] at hm2 ⊢; omega
      clear hm2
      have hob : Hid (∀ ob : Obj, Below wr.heap.size wr (wr.alloc ob)) := fun ob => (Below.refl _ _).alloc (Nat.le_refl _) ob
      have hh1 := header_any l1 a' h.lines.length c' (wr.alloc (.cells #[.int .i64 (h.fr : Int), .int .i64 (h.fc : Int), .int .i64 (h.tr : Int), .int .i64 (h.tc : Int), .slice a' h.lines.length c'] 61))
      have hB1 := heap_alloc_new wr (.cells #[.int .i64 (h.fr : Int), .int .i64 (h.fc : Int), .int .i64 (h.tr : Int), .int .i64 (h.tc : Int), .slice a' h.lines.length c'] 61)
      have hbm1 := hbm.alloc (.cells #[.int .i64 (h.fr : Int), .int .i64 (h.fc : Int), .int .i64 (h.tr : Int), .int .i64 (h.tc : Int), .slice a' h.lines.length c'] 61)
      have hz1 : (wr.alloc (.cells #[.int .i64 (h.fr : Int), .int .i64 (h.fc : Int), .int .i64 (h.tr : Int), .int .i64 (h.tc : Int), .slice a' h.lines.length c'] 61)).heap.size = wr.heap.size + 1 := by simp
      have hbel1 := hbel.alloc (by have := hbel.size; omega) (.cells #[.int .i64 (h.fr : Int), .int .i64 (h.fc : Int), .int .i64 (h.tr : Int), .int .i64 (h.tc : Int), .slice a' h.lines.length c'] 61)
      have hsz := hbel.size
      have hbr1 := (Below.refl w.heap.size wr).alloc (by omega) (.cells #[.int .i64 (h.fr : Int), .int .i64 (h.fc : Int), .int .i64 (h.tr : Int), .int .i64 (h.tc : Int), .slice a' h.lines.length c'] 61)
      have hszH : (headM h ++ [10]).length ≤ 20 := by simp; omega
      have y0 := cell_of (k := 0) hB1 rfl
      have y1 := cell_of (k := 1) hB1 rfl
      have y2 := cell_of (k := 2) hB1 rfl
      have y3 := cell_of (k := 3) hB1 rfl
      have y4 := cell_of (k := 4) hB1 rfl
      clear hob
      unfold hunkVal at hh1
      go_wp2_with fail
      generalize wr.alloc (.cells #[.int .i64 (h.fr : Int), .int .i64 (h.fc : Int), .int .i64 (h.tr : Int), .int .i64 (h.tc : Int), .slice a' h.lines.length c'] 61) = W1 at *
      refine hh1.mono ?_
      rintro e W2 ⟨rfl, hb2⟩
      have hbm2 := hbm1.below hb2
      have hB2 := (hb2.block wr.heap.size (by omega)).trans hB1
      have hws := writeString_bld ⟨(headM h ++ [10]).toArray⟩ hbm2 (by rw [size_mk, Lib.byteCells_length]; omega)
      have hbel2 := hbel1.trans (hb2.mono (by omega))
      have hcat : Hid (Lib.byteCells T ++ Lib.strCells ⟨(headM h ++ [10]).toArray⟩ = Lib.byteCells (T ++ (headM h ++ [10]) ++ toksL ((h.lines.take 0).map .inr))) := by
        unfold Hid
        rw [Lib.strCells_eq]
        simp [Lib.byteCells_append, toksL]
      generalize hs0 : (⟨(headM h ++ [10]).toArray⟩ : ByteArray) = s0 at *
      clear y0 y1 y2 y3 y4 hh1 hbm1 hB1
      go_wp2_with fail
      refine hws.mono ?_
      rintro e W3 ⟨rfl, vb3, hbm3, hb3, hk3⟩
      rw [hcat.out] at hbm3
      have hB3 := hk3 _ _ hB2 (by intro e; have := Option.some.inj e; omega) (by intro c z e; injection e with _ e; exact absurd e (by decide))
      have y4 := cell_of (k := 4) hB3 rfl
      have hbel3 := hbel2.trans (hb3.mono (by omega))
      have hst3 : StepsAt w.heap.size W3 (.slice a' h.lines.length c') h.lines := hst.below ((hbr1.trans (hb2.mono (by omega))).trans (hb3.mono (by omega)))
      have hll : h.lines.length ≤ 20000 := by
        have hx : ∀ M : List StepB, M.length ≤ (toksL (M.map .inr)).length := by
          intro M
          induction M with
          | nil => simp
          | cons x M ih => rw [List.map_cons, toksL_cons]; simp only [List.length_append, List.length_cons, List.length_nil]; omega
        have := hx h.lines
        omega
      have hm4 : (T ++ (headM h ++ [10])).length + (toksL (h.lines.map .inr)).length ≤ 20000 := by rw [List.length_append]; omega
      have hK2 : Hid (writeM (hs.take (k + 1)) = T ++ (headM h ++ [10]) ++ toksL (h.lines.map .inr)) := by unfold Hid; rw [hK.out]; simp
      clear hws hcat hbm2 hbm hB2 hB3 hK hm3 hbr1 hst hbel1 hbel2 hk3 hs0 hszH hhl r0 r1 r2 r3 r4
      generalize T ++ (headM h ++ [10]) = T2 at *
      generalize h.lines = M at *
      go_wp2_with fail
      go_loopg [22] M.length (fun g t wi => ∃ j : Nat, g = M.length - j ∧ j ≤ M.length ∧ t = .int .i64 j ∧ (∃ ad vb, BldM (w.heap.size + 1) ad vb (Lib.byteCells (T2 ++ toksL ((M.take j).map .inr))) wi) ∧ Below w.heap.size W3 wi)
      case atStart => exact ⟨0, by omega, by omega, rfl, ⟨_, _, hbm3⟩, Below.refl _ _⟩
      case round =>
        rename World => wi
        obtain ⟨j, hgj, hjl, rfl, ⟨ad', vb', hbi⟩, hbe⟩ := hrel
        have hGj : Hid (_ = M.length - j) := hgj
        clear hgj hbm3
        have hlti := hbi.lt
        have hszi := (hbel3.trans hbe).size
        by_cases hj : j < M.length
        · have hjI : (j : Int) < M.length := by omega
          obtain ⟨b2, rfl, hb2', s0', s1'⟩ := (hst3.below hbe).at hj
          have hF := l2 _ (List.getElem_mem hj)
          have hlt2 := lines_take hj
          have hle : (toksL ((M.take (j + 1)).map .inr)).length ≤ (toksL (M.map .inr)).length := by
            conv => rhs; rw [← List.take_append_drop (j + 1) M, List.map_append, toksL_append, List.length_append]
            omega
          rw [hlt2] at hle
          have hJ : Hid (toksL ((M.take (j + 1)).map .inr) = toksL ((M.take j).map .inr) ++ (UInt8.ofNat M[j].kind :: (M[j].text.data.toList ++ [10]))) := hlt2
          clear hlt2
          generalize M[j] = sx at *
          generalize toksL ((M.take j).map .inr) = T3 at *
          have hsx : sx.text.data.toList.length = sx.text.size := rfl
          simp only [List.length_append, List.length_cons, List.length_nil] at hle
          have hkd : sx.kind < 256 := by rcases hF.1 with e | e | e <;> omega
          have hbl : (Lib.byteCells (T2 ++ T3)).length = (T2 ++ T3).length := Lib.byteCells_length _
          have hq : (T2 ++ T3).length + sx.text.size + 2 ≤ 20000 := by rw [List.length_append]; omega
          have hbi1 := hbi.alloc (.cells #[.int .u8 (sx.kind : Int), .string sx.text] 93)
          have hBl := heap_alloc_new wi (.cells #[.int .u8 (sx.kind : Int), .string sx.text] 93)
          have hzl : (wi.alloc (.cells #[.int .u8 (sx.kind : Int), .string sx.text] 93)).heap.size = wi.heap.size + 1 := by simp
          have hbe1 := hbe.alloc (by omega) (.cells #[.int .u8 (sx.kind : Int), .string sx.text] 93)
          go_wp2_with fail
          generalize wi.alloc (.cells #[.int .u8 (sx.kind : Int), .string sx.text] 93) = V1 at *
          have hpL : Hid (∀ n, Calls Tryz.prog 73 #[.pointer (some ⟨w.heap.size + 1, 0, none⟩)] (V1.drewN n) fun e w'' => e = .returned (.int .i64 ((T2 ++ T3).length : Int)) ∧ ∃ k, w'' = V1.drewN k) :=
            fun n => (blen_bld (drewN_bld hbi1)).mono fun _ _ ⟨he, hm⟩ => ⟨by rw [he, hbl], n, hm.symm⟩
          have z0 := cell_of (k := 0) hBl rfl
          have z1 := cell_of (k := 1) hBl rfl
          generalize hTT : T2 ++ T3 = T4 at *
          have hng : ¬ (20000 : Int) < (T4.length : Int) + (sx.text.size : Int) := by omega
          have hng2 : decide ((20000 : Int) < (T4.length : Int) + (sx.text.size : Int)) = false := decide_eq_false hng
          have hwr : IntKind.i64.wrap ((T4.length : Int) + (sx.text.size : Int)) = (T4.length : Int) + (sx.text.size : Int) := by rw [IntKind.wrap_i64]; omega
          go_quiet ((go_at_call 73; exact hpL.out _))
          have hWB1 := writeByte_bld (sx.kind : Int) (drewN_bld (n := nq) hbi1) (by rw [hbl]; omega)
          have hne1 : some wi.heap.size ≠ some (w.heap.size + 1) := by intro e; have := Option.some.inj e; omega
          have hfin : Hid (Lib.byteCells (T2 ++ toksL ((M.take (j + 1)).map .inr)) = Lib.byteCells T4 ++ [.int .u8 (sx.kind : Int)] ++ Lib.strCells sx.text ++ [.int .u8 10]) := by
            unfold Hid
            rw [hJ.out, ← hTT, Lib.strCells_eq, ← byteCells_snoc _ _ hkd, ← Lib.byteCells_append]
            have : [Value.int .u8 10] = Lib.byteCells [10] := rfl
            rw [this, ← Lib.byteCells_append]
            congr 1
            simp
          have hbe2 : Below w.heap.size W3 (V1.drewN nq) := Below.drewN' hbe1
          go_wp2_with (first | (go_at_call 74; refine hWB1.mono ?_; clear hWB1; rintro e V2 ⟨rfl, vb2, m2, c2, k2⟩; have hBl2 := k2 _ _ (show (V1.drewN nq).heap[wi.heap.size]? = _ from hBl) hne1 (by intro c z e; injection e with _ e; exact absurd e (by decide)); have z1' := cell_of (k := 1) hBl2 rfl; have hWS := writeString_bld sx.text m2 (by rw [List.length_append, hbl]; simp; omega)) | (go_at_call 71; refine hWS.mono ?_; clear hWS; rintro e V3 ⟨rfl, vb3', m3, c3, k3⟩; have hWB2 := writeByte_bld 10 m3 (by rw [List.length_append, List.length_append, hbl, Lib.strCells_length]; simp; omega)) | (go_at_call 74; refine hWB2.mono ?_; rintro e V4 ⟨rfl, vb4, m4, c4, k4⟩))
          go_roundg (M.length - (j + 1))
          · exact ⟨j + 1, rfl, by omega, by push_cast; rfl, ⟨_, _, by rw [hfin.out]; exact m4⟩, ((hbe2.trans (c2.mono (by omega))).trans (c3.mono (by omega))).trans (c4.mono (by omega))⟩
          · have := hGj.out; omega
        · obtain rfl : j = M.length := by omega
          rw [List.take_length] at hbi
          go_wp2_with fail
          go_roundg (hs.length - (k + 1))
          · exact ⟨k + 1, rfl, by omega, by push_cast; rfl, ⟨_, _, by rw [hK2.out]; exact hbi⟩, hbel3.trans hbe⟩
          · have := hG.out; omega
    · obtain rfl : k = hs.length := by omega
      rw [List.take_length] at hbm
      have hbl : (Lib.byteCells (writeM hs)).length = (writeM hs).length := Lib.byteCells_length _
      have hstr := bstring_kept ⟨ad, vb, hbm⟩
      generalize hTX : writeM hs = T at *
      have hTH : Hid (writeM hs = T) := hTX
      clear hTX
      have hle : ((T.length : Nat) : Int) ≤ 20000 := by omega
      have hle2 : decide (((T.length : Nat) : Int) ≤ 20000) = true := decide_eq_true hle
      have hLn : Hid (∀ w', Below (w.heap.size + 1 + 1) wr w' → Calls Tryz.prog 73 #[.pointer (some ⟨w.heap.size + 1, 0, none⟩)] w' fun e w'' => e = .returned (.int .i64 (T.length : Int)) ∧ w' = w'') := by
        intro w' hb'
        have c2 : w'.cell? ⟨w.heap.size + 1, 1, none⟩ = some vb := (hb'.cell (p := ⟨w.heap.size + 1, 1, none⟩) (by show w.heap.size + 1 < _; omega)).trans (cell_of hbm.blk rfl)
        have hn := hbl
        obtain ⟨ab0, cb0, rfl⟩ := owns_isSlice hbm.own
        rw [hn] at c2
        go_enter Tryz.func73, Tryz.ntmps73
        go_wp2
        go_ret
        exact ⟨rfl, rfl⟩
      go_wp2_with (first | (go_at_call 67; refine hstr.mono ?_; rintro e w' ⟨rfl, hb'⟩; have hLn2 := hLn.out _ hb') | (go_at_call 73; refine hLn2.mono ?_; rintro e w'' ⟨rfl, rfl⟩))
      go_ret2
      exact ⟨by rw [hTH.out]; rfl, hbel.trans (hb'.mono (by omega))⟩
set_option maxHeartbeats 1000000 in
/-- Write, of a right patch whose numbers are small -/
theorem write_ok {hs : List HunkM} {a : Option Addr} {cap : Nat} {w : World} (hH : HunksAt w.heap.size w (.slice a hs.length cap) hs) (hok : rightM 0 0 hs = true) (hL : hs.length ≤ 1000) (hsm : ∀ h ∈ hs, Small h ∧ ∀ s ∈ h.lines, Fine s) (hT : (writeM hs).length ≤ 20000) :
    Calls Tryz.prog 16 #[.agg #[.slice a hs.length cap]] w fun e w' => e = .returned (.tuple #[.string ⟨(writeM hs).toArray⟩, .int .i64 0]) ∧ Below w.heap.size w w' := by
  have hb0 := (Below.refl w.heap.size w).alloc (Nat.le_refl _) (.cells #[.slice a hs.length cap] 32)
  have hB0 := heap_alloc_new w (.cells #[.slice a hs.length cap] 32)
  have hz0 : (w.alloc (.cells #[.slice a hs.length cap] 32)).heap.size = w.heap.size + 1 := by simp
  have y0 := cell_of (k := 0) hB0 rfl
  have hir := isRight_yes ((hH.below hb0).mono (by omega : w.heap.size ≤ (w.alloc (.cells #[.slice a hs.length cap] 32)).heap.size)) hok hL
  have hwr : Hid (∀ w1, Below (w.alloc (.cells #[.slice a hs.length cap] 32)).heap.size (w.alloc (.cells #[.slice a hs.length cap] 32)) w1 → w1.cell? ⟨w.heap.size, 0, none⟩ = some (.slice a hs.length cap) ∧ Calls Tryz.prog 33 #[.agg #[.slice a hs.length cap]] w1 fun e w' => e = .returned (.tuple #[.string ⟨(writeM hs).toArray⟩, .bool true]) ∧ Below w1.heap.size w1 w') := by
    intro w1 hb1
    have hb01 := hb0.trans (hb1.mono (by omega))
    exact ⟨(hb1.cell (p := ⟨w.heap.size, 0, none⟩) (by show w.heap.size < _; omega)).trans y0, written_ok ((hH.below hb01).mono hb01.size) hL hsm hT⟩
  generalize (⟨(writeM hs).toArray⟩ : ByteArray) = s0 at *
  go_enter Tryz.func16, Tryz.ntmps16
  go_wp2_with fail
  generalize w.alloc (.cells #[.slice a hs.length cap] 32) = W0 at *
  go_wp2_with (first | (go_at_call 31; refine hir.mono ?_; rintro e w1 ⟨rfl, hb1⟩; obtain ⟨y1, hw1⟩ := hwr.out w1 hb1) | (go_at_call 33; refine hw1.mono ?_; rintro e w2 ⟨rfl, hb2⟩))
  go_ret2
  exact ⟨rfl, hb0.trans ((hb1.mono (by omega)).trans (hb2.mono (by have := hb1.size; omega)))⟩
end Go.Proofs.YtcclgodahlinbaaGreatDoor
