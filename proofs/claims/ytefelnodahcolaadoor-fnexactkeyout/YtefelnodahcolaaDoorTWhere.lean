/-
  Contract of the model's l3Where. Conditions: as the theorem says.
-/
import Derived.Test.YtefelnodahcolaaDoorTPut
import Derived.Test.YtefelnodahcolaaDoorMarks2
namespace Go.Proofs.YtefelnodahcolaaDoor
open Go.ChangeShapes Go.WideShapes Go.ChangeAt Go.RowKit Go.Joins

theorem there_no {rs : List RowD} {id : Int} (h : thereB rs id = false) : atI rs id = -1 := by
  simp only [thereB, decide_eq_false_iff_not] at h
  exact atI_neg (by have := atN_le rs id; omega)
theorem there_yes {rs : List RowD} {id : Int} (h : thereB rs id = true) : atI rs id = (atN rs id : Int) := by
  simp only [thereB, decide_eq_true_eq] at h
  exact atI_pos h
theorem kidsL_len {rs : List RowD} {id : Int} (hl : rs.length ≤ 1048576) : (kidsL rs id).length ≤ 1048576 := by
  unfold kidsL
  split
  · rename_i h
    have h1 := kidsOf_len rs (atN rs id) (enR rs (atN rs id) - (atN rs id + 1)) (atN rs id + 1)
    have h2 : enR rs (atN rs id) ≤ rs.length := (en_spec (D := rdep rs) h).2.1
    unfold kidsAt
    omega
  · simp
theorem atOfL_step (ks : List Int) (k : Nat) (o : OpD) (h : k < ks.length) : atOfL (ks.take (k + 1)) o = if (ks.getD k 0 == o.at_) && (o.at_ != o.id) then o.at_ else atOfL (ks.take k) o := by
  unfold atOfL
  rw [List.take_succ_eq_append_getElem h, List.any_append]
  have : ks.getD k 0 = ks[k] := by simp [List.getD_eq_getElem?_getD, h]
  rw [this]
  cases h1 : (List.take k ks).any (fun x => (x == o.at_) && (o.at_ != o.id)) <;> cases h2 : ((ks[k] == o.at_) && (o.at_ != o.id)) <;> simp_all
def opV (o : OpD) : Value := .agg #[.int .i64 o.kind, .int .i64 o.id, .int .i64 o.up, .int .i64 o.at_, .string o.txt]
def OpBox (w : World) (b : Nat) (o : OpD) : Prop := w.cell? ⟨b, 0, none⟩ = some (.int .i64 o.kind) ∧ w.cell? ⟨b, 1, none⟩ = some (.int .i64 o.id) ∧ w.cell? ⟨b, 2, none⟩ = some (.int .i64 o.up) ∧ w.cell? ⟨b, 3, none⟩ = some (.int .i64 o.at_)
theorem opbox_new (w : World) (o : OpD) (t : TypeId) : OpBox (w.alloc (.cells #[.int .i64 o.kind, .int .i64 o.id, .int .i64 o.up, .int .i64 o.at_, .string o.txt] t)) w.heap.size o := by
  refine ⟨?_, ?_, ?_, ?_⟩ <;> simp [go_sem]
theorem opbox_below {w w' : World} {b B : Nat} {o : OpD} (h : OpBox w b o) (hb : Below B w w') (hlt : b < B) : OpBox w' b o := by
  unfold OpBox
  rw [hb.cell (p := ⟨b, 0, none⟩) hlt, hb.cell (p := ⟨b, 1, none⟩) hlt, hb.cell (p := ⟨b, 2, none⟩) hlt, hb.cell (p := ⟨b, 3, none⟩) hlt]; exact h
set_option maxRecDepth 100000 in
set_option maxHeartbeats 2000000 in
theorem l3Where_any (B : Nat) (a : Option Addr) (cap : Nat) (rs : List RowD) (o : OpD) (w : World) (hB : B ≤ w.heap.size) (h : RowsAt B w a rs) (hf : Fit rs) (hs : SmallDep rs) :
    Calls Tryd.prog 34 #[.slice a rs.length cap, .agg #[.int .i64 o.kind, .int .i64 o.id, .int .i64 o.up, .int .i64 o.at_, .string o.txt]] w (RetBelow (.tuple #[.int .i64 (whereU rs o), .int .i64 (whereA rs o), .bool (!noWhereB rs o)]) w) := by
  have hl := hf.1
  have hb0 : Below w.heap.size w (w.alloc (.cells #[.int .i64 o.kind, .int .i64 o.id, .int .i64 o.up, .int .i64 o.at_, .string o.txt] 25)) := (Below.refl _ _).alloc (Nat.le_refl _) _
  have h0 := h.below (hb0.mono hB)
  have hx0 := opbox_new w o 25
  have hsz0 : (w.alloc (.cells #[.int .i64 o.kind, .int .i64 o.id, .int .i64 o.up, .int .i64 o.at_, .string o.txt] 25)).heap.size = w.heap.size + 1 := by simp
  have hB0 : B ≤ (w.alloc (.cells #[.int .i64 o.kind, .int .i64 o.id, .int .i64 o.up, .int .i64 o.at_, .string o.txt] 25)).heap.size := by omega
  have HSZ := Lib.hid hsz0
  clear hsz0
  cases hth : thereB rs o.id
  · have HTI := Lib.hid (there_no hth)
    cases hk2 : (o.kind == 2)
    · cases hk3 : (o.kind == 3)
      · have hno : noWhereB rs o = false := by simp [noWhereB, hth, hk2, hk3]
        go_enter Tryd.func34, Tryd.ntmps34
        go_wp2_with fail
        refine (l2At_any B _ _ _ _ _ h0 hf).mono ?_
        rintro e w' ⟨rfl, rfl⟩
        rw [HTI.out]
        obtain ⟨x0, x1, x2, x3⟩ := hx0
        have hbox : OpBox (w.alloc (.cells #[.int .i64 o.kind, .int .i64 o.id, .int .i64 o.up, .int .i64 o.at_, .string o.txt] 25)) w.heap.size o := ⟨x0, x1, x2, x3⟩
        have hbx : w.heap.size < (w.alloc (.cells #[.int .i64 o.kind, .int .i64 o.id, .int .i64 o.up, .int .i64 o.at_, .string o.txt] 25)).heap.size := by rw [HSZ.out]; omega
        have hWb := hb0
        have HRW := h0
        clear hb0 h0 HSZ
        generalize w.alloc (.cells #[.int .i64 o.kind, .int .i64 o.id, .int .i64 o.up, .int .i64 o.at_, .string o.txt] 25) = W at *
        have HN := Lib.hid hno
        cases hut : thereB rs o.up
        · have HU : Hid (whereU rs o = 3) := by unfold Hid whereU; rw [HN.out, hut]; rfl
          have HA : Hid (whereA rs o = 0) := by unfold Hid whereA; rw [HN.out, hut]; rfl
          have HT := Lib.hid (there_no hut)
          clear hut hno
          go_wp2_with fail
          refine (l2At_any B _ _ _ _ _ HRW hf).mono ?_
          rintro e w' ⟨rfl, rfl⟩
          rw [HT.out]
          go_wp2
          go_ret3
          exact ⟨by rw [HU.out, HA.out, HN.out]; rfl, hWb⟩
        · have HU : Hid (whereU rs o = o.up) := by unfold Hid whereU; rw [HN.out, hut]; rfl
          have HA : Hid (whereA rs o = atOfL (kidsL rs o.up) o) := by unfold Hid whereA; rw [HN.out, hut]; rfl
          have HT := Lib.hid (there_yes hut)
          have ht0 : ¬ ((atN rs o.up : Nat) : Int) < 0 := by omega
          clear hut hno
          go_wp2_with fail
          refine (l2At_any B _ _ _ _ _ HRW hf).mono ?_
          rintro e w' ⟨rfl, rfl⟩
          rw [HT.out]
          generalize atN rs o.up = x at *
          go_wp2_with fail
          refine (l2Kids_any B _ _ _ _ _ (Nat.le_trans hB hWb.size) HRW hf hs).mono ?_
          rintro e W1 ⟨v1, rfl, own1, hb1⟩
          obtain ⟨ka, kc, rfl, _⟩ := own_slice own1
          have hk := (ints_of_own own1).low
          have hW1 : Below w.heap.size w W1 := hWb.trans (hb1.mono hWb.size)
          have kl := kidsL_len (rs := rs) (id := o.up) hl
          obtain ⟨y0, y1, y2, y3⟩ := opbox_below hbox hb1 hbx
          generalize kidsL rs o.up = ks at *
          clear own1
          go_wp2_with fail
          go_loopw [9, 11] (fun v t wr => ∃ k : Nat, k ≤ ks.length ∧ t = .int .i64 k ∧ v = .int .i64 (atOfL (ks.take k) o) ∧ Below W1.heap.size W1 wr) (fun _ t _ => ks.length - (intOf t).toNat)
          case atStart => exact ⟨0, Nat.zero_le _, rfl, by simp [atOfL], Below.refl _ _⟩
          case round =>
            obtain ⟨k, hk1, rfl, rfl, hbr⟩ := hrel
            have hkr := hk.below hbr
            have hbx1 : w.heap.size < W1.heap.size := by have := hb1.size; omega
            have z1 := (hbr.cell (p := ⟨w.heap.size, 1, none⟩) hbx1).trans y1
            have z3 := (hbr.cell (p := ⟨w.heap.size, 3, none⟩) hbx1).trans y3
            by_cases hlt : k < ks.length
            · obtain ⟨g, rfl, hg, c0⟩ := hkr.at_ hlt
              have i1 : (k : Int) < (ks.length : Int) := by omega
              have hst := atOfL_step ks k o hlt
              generalize ks.getD k 0 = q at *
              cases hq : (q == o.at_)
              · have HS : Hid (atOfL (ks.take (k + 1)) o = atOfL (ks.take k) o) := by unfold Hid; rw [hst, hq]; rfl
                clear hst
                generalize atOfL (ks.take k) o = cur at *
                go_wp2
                go_quiet (fail)
                go_wp2
                go_roundw
                case rel => exact ⟨k + 1, by omega, by go_num, by rw [HS.out], below_drewN _ hbr⟩
                case measure => simp [intOf]; omega
              · cases hd : (o.at_ != o.id)
                · have HS : Hid (atOfL (ks.take (k + 1)) o = atOfL (ks.take k) o) := by unfold Hid; rw [hst, hq, hd]; rfl
                  clear hst
                  generalize atOfL (ks.take k) o = cur at *
                  go_wp2
                  go_quiet (fail)
                  go_wp2
                  go_roundw
                  case rel => exact ⟨k + 1, by omega, by go_num, by rw [HS.out], below_drewN _ hbr⟩
                  case measure => simp [intOf]; omega
                · have HS : Hid (atOfL (ks.take (k + 1)) o = o.at_) := by unfold Hid; rw [hst, hq, hd]; rfl
                  clear hst
                  generalize atOfL (ks.take k) o = cur at *
                  go_wp2
                  go_quiet (fail)
                  go_wp2
                  go_roundw
                  case rel => exact ⟨k + 1, by omega, by go_num, by rw [HS.out], below_drewN _ hbr⟩
                  case measure => simp [intOf]; omega
            · obtain rfl : k = ks.length := by omega
              go_wp2
              go_ret3
              exact ⟨by rw [HU.out, HA.out, HN.out, List.take_length]; rfl, hW1.trans (hbr.mono hW1.size)⟩
      · have hno : noWhereB rs o = true := by simp [noWhereB, hth, hk2, hk3]
        have HU : Hid (whereU rs o = 0) := by unfold Hid whereU; rw [hno]; rfl
        have HA : Hid (whereA rs o = 0) := by unfold Hid whereA; rw [hno]; rfl
        have HN := Lib.hid hno
        clear hno
        go_enter Tryd.func34, Tryd.ntmps34
        go_wp2_with fail
        refine (l2At_any B _ _ _ _ _ h0 hf).mono ?_
        rintro e w' ⟨rfl, rfl⟩
        rw [HTI.out]
        obtain ⟨x0, x1, x2, x3⟩ := hx0
        have hbox : OpBox (w.alloc (.cells #[.int .i64 o.kind, .int .i64 o.id, .int .i64 o.up, .int .i64 o.at_, .string o.txt] 25)) w.heap.size o := ⟨x0, x1, x2, x3⟩
        have hbx : w.heap.size < (w.alloc (.cells #[.int .i64 o.kind, .int .i64 o.id, .int .i64 o.up, .int .i64 o.at_, .string o.txt] 25)).heap.size := by rw [HSZ.out]; omega
        have hWb := hb0
        have HRW := h0
        clear hb0 h0 HSZ
        generalize w.alloc (.cells #[.int .i64 o.kind, .int .i64 o.id, .int .i64 o.up, .int .i64 o.at_, .string o.txt] 25) = W at *
        go_wp2
        go_ret3
        exact ⟨by rw [HU.out, HA.out, HN.out]; rfl, hWb⟩
    · have hno : noWhereB rs o = true := by simp [noWhereB, hk2]
      have HU : Hid (whereU rs o = 0) := by unfold Hid whereU; rw [hno]; rfl
      have HA : Hid (whereA rs o = 0) := by unfold Hid whereA; rw [hno]; rfl
      have HN := Lib.hid hno
      clear hno
      go_enter Tryd.func34, Tryd.ntmps34
      go_wp2_with fail
      refine (l2At_any B _ _ _ _ _ h0 hf).mono ?_
      rintro e w' ⟨rfl, rfl⟩
      rw [HTI.out]
      obtain ⟨x0, x1, x2, x3⟩ := hx0
      have hbox : OpBox (w.alloc (.cells #[.int .i64 o.kind, .int .i64 o.id, .int .i64 o.up, .int .i64 o.at_, .string o.txt] 25)) w.heap.size o := ⟨x0, x1, x2, x3⟩
      have hbx : w.heap.size < (w.alloc (.cells #[.int .i64 o.kind, .int .i64 o.id, .int .i64 o.up, .int .i64 o.at_, .string o.txt] 25)).heap.size := by rw [HSZ.out]; omega
      have hWb := hb0
      have HRW := h0
      clear hb0 h0 HSZ
      generalize w.alloc (.cells #[.int .i64 o.kind, .int .i64 o.id, .int .i64 o.up, .int .i64 o.at_, .string o.txt] 25) = W at *
      go_wp2
      go_ret3
      exact ⟨by rw [HU.out, HA.out, HN.out]; rfl, hWb⟩
  · have HTI := Lib.hid (there_yes hth)
    have hge : 0 ≤ ((atN rs o.id : Nat) : Int) := by omega
    cases hk2 : (o.kind == 2)
    · cases hk3 : (o.kind == 3)
      · have hno : noWhereB rs o = true := by simp [noWhereB, hth, hk2, hk3]
        have HU : Hid (whereU rs o = 0) := by unfold Hid whereU; rw [hno]; rfl
        have HA : Hid (whereA rs o = 0) := by unfold Hid whereA; rw [hno]; rfl
        have HN := Lib.hid hno
        clear hno
        go_enter Tryd.func34, Tryd.ntmps34
        go_wp2_with fail
        refine (l2At_any B _ _ _ _ _ h0 hf).mono ?_
        rintro e w' ⟨rfl, rfl⟩
        rw [HTI.out]
        obtain ⟨x0, x1, x2, x3⟩ := hx0
        have hbox : OpBox (w.alloc (.cells #[.int .i64 o.kind, .int .i64 o.id, .int .i64 o.up, .int .i64 o.at_, .string o.txt] 25)) w.heap.size o := ⟨x0, x1, x2, x3⟩
        have hbx : w.heap.size < (w.alloc (.cells #[.int .i64 o.kind, .int .i64 o.id, .int .i64 o.up, .int .i64 o.at_, .string o.txt] 25)).heap.size := by rw [HSZ.out]; omega
        have hWb := hb0
        have HRW := h0
        clear hb0 h0 HSZ
        generalize w.alloc (.cells #[.int .i64 o.kind, .int .i64 o.id, .int .i64 o.up, .int .i64 o.at_, .string o.txt] 25) = W at *
        go_wp2
        go_ret3
        exact ⟨by rw [HU.out, HA.out, HN.out]; rfl, hWb⟩
      · cases hu : undB rs o.up o.id
        · have hno : noWhereB rs o = false := by simp [noWhereB, hth, hk2, hk3, hu]
          go_enter Tryd.func34, Tryd.ntmps34
          go_wp2_with fail
          refine (l2At_any B _ _ _ _ _ h0 hf).mono ?_
          rintro e w' ⟨rfl, rfl⟩
          rw [HTI.out]
          obtain ⟨x0, x1, x2, x3⟩ := hx0
          have hbox : OpBox (w.alloc (.cells #[.int .i64 o.kind, .int .i64 o.id, .int .i64 o.up, .int .i64 o.at_, .string o.txt] 25)) w.heap.size o := ⟨x0, x1, x2, x3⟩
          have hbx : w.heap.size < (w.alloc (.cells #[.int .i64 o.kind, .int .i64 o.id, .int .i64 o.up, .int .i64 o.at_, .string o.txt] 25)).heap.size := by rw [HSZ.out]; omega
          have hWb := hb0
          have HRW := h0
          clear hb0 h0 HSZ
          generalize w.alloc (.cells #[.int .i64 o.kind, .int .i64 o.id, .int .i64 o.up, .int .i64 o.at_, .string o.txt] 25) = W at *
          go_wp2_with fail
          refine (l2Under_any B _ _ _ _ _ _ (Nat.le_trans hB hWb.size) HRW hf).mono ?_
          rintro e W2 ⟨rfl, hbu⟩
          rw [hu]
          have hbox2 := opbox_below hbox hbu hbx
          have hWb2 := hWb.trans (hbu.mono hWb.size)
          have hbx2 : w.heap.size < W2.heap.size := by have := hbu.size; omega
          have HRW2 := h.below (hWb2.mono hB)
          clear hbox hWb hbx HRW x0 x1 x2 x3
          obtain ⟨x0, x1, x2, x3⟩ := hbox2
          have hbox : OpBox W2 w.heap.size o := ⟨x0, x1, x2, x3⟩
          have hWb := hWb2
          have hbx := hbx2
          have HRW := HRW2
          clear hWb2 hbx2 HRW2 hbu
          have HN := Lib.hid hno
          cases hut : thereB rs o.up
          · have HU : Hid (whereU rs o = 3) := by unfold Hid whereU; rw [HN.out, hut]; rfl
            have HA : Hid (whereA rs o = 0) := by unfold Hid whereA; rw [HN.out, hut]; rfl
            have HT := Lib.hid (there_no hut)
            clear hut hno
            go_wp2_with fail
            refine (l2At_any B _ _ _ _ _ HRW hf).mono ?_
            rintro e w' ⟨rfl, rfl⟩
            rw [HT.out]
            go_wp2
            go_ret3
            exact ⟨by rw [HU.out, HA.out, HN.out]; rfl, hWb⟩
          · have HU : Hid (whereU rs o = o.up) := by unfold Hid whereU; rw [HN.out, hut]; rfl
            have HA : Hid (whereA rs o = atOfL (kidsL rs o.up) o) := by unfold Hid whereA; rw [HN.out, hut]; rfl
            have HT := Lib.hid (there_yes hut)
            have ht0 : ¬ ((atN rs o.up : Nat) : Int) < 0 := by omega
            clear hut hno
            go_wp2_with fail
            refine (l2At_any B _ _ _ _ _ HRW hf).mono ?_
            rintro e w' ⟨rfl, rfl⟩
            rw [HT.out]
            generalize atN rs o.up = x at *
            go_wp2_with fail
            refine (l2Kids_any B _ _ _ _ _ (Nat.le_trans hB hWb.size) HRW hf hs).mono ?_
            rintro e W1 ⟨v1, rfl, own1, hb1⟩
            obtain ⟨ka, kc, rfl, _⟩ := own_slice own1
            have hk := (ints_of_own own1).low
            have hW1 : Below w.heap.size w W1 := hWb.trans (hb1.mono hWb.size)
            have kl := kidsL_len (rs := rs) (id := o.up) hl
            obtain ⟨y0, y1, y2, y3⟩ := opbox_below hbox hb1 hbx
            generalize kidsL rs o.up = ks at *
            clear own1
            go_wp2_with fail
            go_loopw [9, 11] (fun v t wr => ∃ k : Nat, k ≤ ks.length ∧ t = .int .i64 k ∧ v = .int .i64 (atOfL (ks.take k) o) ∧ Below W1.heap.size W1 wr) (fun _ t _ => ks.length - (intOf t).toNat)
            case atStart => exact ⟨0, Nat.zero_le _, rfl, by simp [atOfL], Below.refl _ _⟩
            case round =>
              obtain ⟨k, hk1, rfl, rfl, hbr⟩ := hrel
              have hkr := hk.below hbr
              have hbx1 : w.heap.size < W1.heap.size := by have := hb1.size; omega
              have z1 := (hbr.cell (p := ⟨w.heap.size, 1, none⟩) hbx1).trans y1
              have z3 := (hbr.cell (p := ⟨w.heap.size, 3, none⟩) hbx1).trans y3
              by_cases hlt : k < ks.length
              · obtain ⟨g, rfl, hg, c0⟩ := hkr.at_ hlt
                have i1 : (k : Int) < (ks.length : Int) := by omega
                have hst := atOfL_step ks k o hlt
                generalize ks.getD k 0 = q at *
                cases hq : (q == o.at_)
                · have HS : Hid (atOfL (ks.take (k + 1)) o = atOfL (ks.take k) o) := by unfold Hid; rw [hst, hq]; rfl
                  clear hst
                  generalize atOfL (ks.take k) o = cur at *
                  go_wp2
                  go_quiet (fail)
                  go_wp2
                  go_roundw
                  case rel => exact ⟨k + 1, by omega, by go_num, by rw [HS.out], below_drewN _ hbr⟩
                  case measure => simp [intOf]; omega
                · cases hd : (o.at_ != o.id)
                  · have HS : Hid (atOfL (ks.take (k + 1)) o = atOfL (ks.take k) o) := by unfold Hid; rw [hst, hq, hd]; rfl
                    clear hst
                    generalize atOfL (ks.take k) o = cur at *
                    go_wp2
                    go_quiet (fail)
                    go_wp2
                    go_roundw
                    case rel => exact ⟨k + 1, by omega, by go_num, by rw [HS.out], below_drewN _ hbr⟩
                    case measure => simp [intOf]; omega
                  · have HS : Hid (atOfL (ks.take (k + 1)) o = o.at_) := by unfold Hid; rw [hst, hq, hd]; rfl
                    clear hst
                    generalize atOfL (ks.take k) o = cur at *
                    go_wp2
                    go_quiet (fail)
                    go_wp2
                    go_roundw
                    case rel => exact ⟨k + 1, by omega, by go_num, by rw [HS.out], below_drewN _ hbr⟩
                    case measure => simp [intOf]; omega
              · obtain rfl : k = ks.length := by omega
                go_wp2
                go_ret3
                exact ⟨by rw [HU.out, HA.out, HN.out, List.take_length]; rfl, hW1.trans (hbr.mono hW1.size)⟩
        · have hno : noWhereB rs o = true := by simp [noWhereB, hth, hu]
          have HU : Hid (whereU rs o = 0) := by unfold Hid whereU; rw [hno]; rfl
          have HA : Hid (whereA rs o = 0) := by unfold Hid whereA; rw [hno]; rfl
          have HN := Lib.hid hno
          clear hno
          go_enter Tryd.func34, Tryd.ntmps34
          go_wp2_with fail
          refine (l2At_any B _ _ _ _ _ h0 hf).mono ?_
          rintro e w' ⟨rfl, rfl⟩
          rw [HTI.out]
          obtain ⟨x0, x1, x2, x3⟩ := hx0
          have hbox : OpBox (w.alloc (.cells #[.int .i64 o.kind, .int .i64 o.id, .int .i64 o.up, .int .i64 o.at_, .string o.txt] 25)) w.heap.size o := ⟨x0, x1, x2, x3⟩
          have hbx : w.heap.size < (w.alloc (.cells #[.int .i64 o.kind, .int .i64 o.id, .int .i64 o.up, .int .i64 o.at_, .string o.txt] 25)).heap.size := by rw [HSZ.out]; omega
          have hWb := hb0
          have HRW := h0
          clear hb0 h0 HSZ
          generalize w.alloc (.cells #[.int .i64 o.kind, .int .i64 o.id, .int .i64 o.up, .int .i64 o.at_, .string o.txt] 25) = W at *
          go_wp2_with fail
          refine (l2Under_any B _ _ _ _ _ _ (Nat.le_trans hB hWb.size) HRW hf).mono ?_
          rintro e W2 ⟨rfl, hbu⟩
          rw [hu]
          go_wp2
          go_ret3
          exact ⟨by rw [HU.out, HA.out, HN.out]; rfl, hWb.trans (hbu.mono hWb.size)⟩
    · have hno : noWhereB rs o = true := by simp [noWhereB, hk2]
      have HU : Hid (whereU rs o = 0) := by unfold Hid whereU; rw [hno]; rfl
      have HA : Hid (whereA rs o = 0) := by unfold Hid whereA; rw [hno]; rfl
      have HN := Lib.hid hno
      clear hno
      go_enter Tryd.func34, Tryd.ntmps34
      go_wp2_with fail
      refine (l2At_any B _ _ _ _ _ h0 hf).mono ?_
      rintro e w' ⟨rfl, rfl⟩
      rw [HTI.out]
      obtain ⟨x0, x1, x2, x3⟩ := hx0
      have hbox : OpBox (w.alloc (.cells #[.int .i64 o.kind, .int .i64 o.id, .int .i64 o.up, .int .i64 o.at_, .string o.txt] 25)) w.heap.size o := ⟨x0, x1, x2, x3⟩
      have hbx : w.heap.size < (w.alloc (.cells #[.int .i64 o.kind, .int .i64 o.id, .int .i64 o.up, .int .i64 o.at_, .string o.txt] 25)).heap.size := by rw [HSZ.out]; omega
      have hWb := hb0
      have HRW := h0
      clear hb0 h0 HSZ
      generalize w.alloc (.cells #[.int .i64 o.kind, .int .i64 o.id, .int .i64 o.up, .int .i64 o.at_, .string o.txt] 25) = W at *
      go_wp2
      go_ret3
      exact ⟨by rw [HU.out, HA.out, HN.out]; rfl, hWb⟩
end Go.Proofs.YtefelnodahcolaaDoor
