/-
  Contract of the model's ClientOk. Conditions: as each theorem says.
-/
import Derived.Test.YtogafpfgdonlmaaDoorJCliA
import Derived.Test.YtogafpfgdonlmaaDoorGM
namespace Go.Proofs.YtogafpfgdonlmaaDoor
open Go.ChangeShapes Go.WideShapes Go.ChangeAt Go.RowKit Go.Joins

set_option maxRecDepth 100000 in
set_option maxHeartbeats 4000000 in
theorem specClientOk_any (B : Nat) (c : CliD) (ba wa : Option Addr) (bc wc : Nat) (w : World) (hB : B ≤ w.heap.size) (h : CliAt B w c ba bc wa wc) (hf : CliFit c) :
    Calls Tryd.prog 21 #[.agg #[.int .i64 c.who, .int .i64 c.seen, .slice ba c.base.length bc, .slice wa c.wait.length wc, .int .i64 c.done, .int .i64 c.made]] w (RetBelow (.bool (cliB c)) w) := by
  have hb0 : Below w.heap.size w (w.alloc (.cells #[.int .i64 c.who, .int .i64 c.seen, .slice ba c.base.length bc, .slice wa c.wait.length wc, .int .i64 c.done, .int .i64 c.made] 33)) := (Below.refl _ _).alloc (Nat.le_refl _) _
  have X0 := Bx.new w 33 #[.int .i64 c.who, .int .i64 c.seen, .slice ba c.base.length bc, .slice wa c.wait.length wc, .int .i64 c.done, .int .i64 c.made]
  have hwl := h.wl
  have hl := hf.wait.1
  go_enter Tryd.func21, Tryd.ntmps21
  go_upto_region 1 with fail
  generalize w.alloc (.cells #[.int .i64 c.who, .int .i64 c.seen, .slice ba c.base.length bc, .slice wa c.wait.length wc, .int .i64 c.done, .int .i64 c.made] 33) = w1 at *
  obtain ⟨x0, x1, x2, x3, x4, x5⟩ := X0.cli
  go_wp2_with fail
  refine (l6In_any _ _ _ _).mono ?_
  rintro _ _ ⟨rfl, rfl⟩
  cases h1 : inB c.who 1 3
  · have HN : Hid (cliB c = false) := by unfold Hid cliB headB; simp [h1]
    go_wp2
    go_ret
    exact ⟨by rw [HN.out] <;> rfl, hb0⟩
  · go_wp2_with fail
    refine (l6In_any _ _ _ _).mono ?_
    rintro _ _ ⟨rfl, rfl⟩
    cases h2 : inB c.seen 0 40
    · have HN : Hid (cliB c = false) := by unfold Hid cliB headB; simp [h2]
      go_wp2
      go_ret
      exact ⟨by rw [HN.out] <;> rfl, hb0⟩
    · go_wp2_with fail
      refine (specTreeOk_any B ba bc c.base _ (Nat.le_trans hB hb0.size) (h.rows.below (hb0.mono hB)) hf.base).mono ?_
      rintro _ w2 ⟨rfl, b2⟩
      have L2 := hb0.trans (b2.mono hb0.size)
      have X2 := X0.below b2 X0.lt
      clear X0 hb0 b2 x0 x1 x2 x3 x4 x5
      obtain ⟨x0, x1, x2, x3, x4, x5⟩ := X2.cli
      cases h3 : treeB c.base
      · have HN : Hid (cliB c = false) := by unfold Hid cliB headB; simp [h3]
        go_wp2
        go_ret
        exact ⟨by rw [HN.out] <;> rfl, L2⟩
      · go_wp2_with fail
        refine (l6In_any _ _ _ _).mono ?_
        rintro _ _ ⟨rfl, rfl⟩
        cases h4 : inB c.done 0 c.seen
        · have HN : Hid (cliB c = false) := by unfold Hid cliB headB; simp [h4]
          go_wp2
          go_ret
          exact ⟨by rw [HN.out] <;> rfl, L2⟩
        · have e2 := (inB_iff _ _ _).1 h2
          have e4 := (inB_iff _ _ _).1 h4
          by_cases h5 : c.done + c.wait.length ≤ 40
          · go_wp2_with fail
            refine (l6In_any _ _ _ _).mono ?_
            rintro _ _ ⟨rfl, rfl⟩
            cases h6 : inB c.made 0 6
            · have HN : Hid (cliB c = false) := by unfold Hid cliB headB; simp [h6]
              go_wp2
              go_ret
              exact ⟨by rw [HN.out] <;> rfl, L2⟩
            · have HC : Hid (cliB c = waitB c) := by unfold Hid cliB headB; simp [h1, h2, h3, h4, h5, h6]
              have e1 := (inB_iff _ _ _).1 h1
              have e6 := (inB_iff _ _ _).1 h6
              clear h1 h2 h3 h4 h6
              go_wp2_with fail
              go_loopw [3, 4] (fun t _ wr => ∃ k : Nat, k ≤ c.wait.length ∧ t = .int .i64 k ∧ Hid (waitTo c.who c.done c.made c.wait k = true) ∧ Bx wr w.heap.size 33 #[.int .i64 c.who, .int .i64 c.seen, .slice ba c.base.length bc, .slice wa c.wait.length wc, .int .i64 c.done, .int .i64 c.made] ∧ Below w.heap.size w wr) (fun t _ _ => c.wait.length - (intOf t).toNat)
              case atStart => exact ⟨0, Nat.zero_le _, rfl, waitTo_zero _ _ _ _, X2, L2⟩
              case round =>
                obtain ⟨k, hk, rfl, hp, X, hb⟩ := hrel
                clear X2 L2 x0 x1 x2 x3 x4 x5
                have hr := h.ents.below (hb.mono hB)
                obtain ⟨x0, x1, x2, x3, x4, x5⟩ := X.cli
                by_cases hlt : k < c.wait.length
                · have HE : Hid (∀ x, Calls Tryd.prog 34 #[.agg #[.int .i64 (eat c.wait k).who, .int .i64 (eat c.wait k).seq, .int .i64 (eat c.wait k).op.kind, .int .i64 (eat c.wait k).op.id, .int .i64 (eat c.wait k).op.up, .int .i64 (eat c.wait k).op.at_, .string (eat c.wait k).op.txt]] x (RetBelow (.bool (entB (eat c.wait k))) x)) := fun x => specEntryOk_any (eat c.wait k) x (hf.wait.2 k hlt)
                  have HB : Hid (wstepB c.who c.done c.made c.wait k = false → cliB c = false) := fun q => by rw [HC.out]; exact waitB_bad hlt q
                  have HG : Hid (wstepB c.who c.done c.made c.wait k = true → waitTo c.who c.done c.made c.wait (k + 1) = true) := fun q => by rw [waitTo_succ, hp.out, q]; rfl
                  have HS : Hid (wstepB c.who c.done c.made c.wait k = (entB (eat c.wait k) && ((eat c.wait k).who == c.who) && ((eat c.wait k).seq == c.done + k + 1) && !overB c.who c.made (eat c.wait k))) := rfl
                  obtain ⟨b, off, hwa, hbB, c0, c1, c2, c3, c4, c5, c6⟩ := hr.at_ hlt
                  have i1 : (k : Int) < (c.wait.length : Int) := by omega
                  have E0 := Bx.new wr 55 #[.int .i64 (eat c.wait k).who, .int .i64 (eat c.wait k).seq, .int .i64 (eat c.wait k).op.kind, .int .i64 (eat c.wait k).op.id, .int .i64 (eat c.wait k).op.up, .int .i64 (eat c.wait k).op.at_, .string (eat c.wait k).op.txt]
                  have al := hb.alloc hb.size (.cells #[.int .i64 (eat c.wait k).who, .int .i64 (eat c.wait k).seq, .int .i64 (eat c.wait k).op.kind, .int .i64 (eat c.wait k).op.id, .int .i64 (eat c.wait k).op.up, .int .i64 (eat c.wait k).op.at_, .string (eat c.wait k).op.txt] 55)
                  have X1 := X.alloc (.cells #[.int .i64 (eat c.wait k).who, .int .i64 (eat c.wait k).seq, .int .i64 (eat c.wait k).op.kind, .int .i64 (eat c.wait k).op.id, .int .i64 (eat c.wait k).op.up, .int .i64 (eat c.wait k).op.at_, .string (eat c.wait k).op.txt] 55)
                  generalize wstepB c.who c.done c.made c.wait k = ws at *
                  generalize hee : entB (eat c.wait k) = eb at *
                  generalize eat c.wait k = e at *
                  subst hwa
                  go_upto_region 7 with fail
                  generalize wr.alloc (.cells #[.int .i64 e.who, .int .i64 e.seq, .int .i64 e.op.kind, .int .i64 e.op.id, .int .i64 e.op.up, .int .i64 e.op.at_, .string e.op.txt] 55) = w3 at *
                  generalize wr.heap.size = B3 at *
                  clear hr c0 c1 c2 c3 c4 c5 c6 X hb hp x0 x1 x2 x3 x4 x5 hee
                  obtain ⟨x0, x1, x2, x3, x4, x5⟩ := X1.cli
                  have f0 := E0.cell 0 rfl
                  have f1 := E0.cell 1 rfl
                  have f2 := E0.cell 2 rfl
                  have f3 := E0.cell 3 rfl
                  have f4 := E0.cell 4 rfl
                  have f5 := E0.cell 5 rfl
                  have f6 := E0.cell 6 rfl
                  go_wp2_with fail
                  refine (HE.out _).mono ?_
                  rintro _ w4 ⟨rfl, b4⟩
                  have L4 := al.trans (b4.mono al.size)
                  have X4 := X1.below b4 X1.lt
                  have E4 := E0.below b4 E0.lt
                  clear X1 E0 al b4 x0 x1 x2 x3 x4 x5 f0 f1 f2 f3 f4 f5 f6
                  obtain ⟨x0, x1, x2, x3, x4, x5⟩ := X4.cli
                  have f0 := E4.cell 0 rfl
                  have f1 := E4.cell 1 rfl
                  have f2 := E4.cell 2 rfl
                  have f3 := E4.cell 3 rfl
                  cases eb
                  · have HN := Lib.hid (HB.out (by rw [HS.out]; simp []))
                    clear HB HG HS X4 E4
                    go_wp2
                    go_ret
                    exact ⟨by rw [HN.out] <;> rfl, L4⟩
                  · by_cases q1 : e.who = c.who
                    · by_cases q2 : e.seq = c.done + k + 1
                      · by_cases q3 : e.op.kind = 1
                        · by_cases q4 : 10 * c.who + c.made < e.op.id
                          · have HN := Lib.hid (HB.out (by rw [HS.out]; simp [overB, q3, q4]))
                            clear HB HG HS X4 E4
                            go_wp2
                            go_ret
                            exact ⟨by rw [HN.out] <;> rfl, L4⟩
                          · have HP := Lib.hid (HG.out (by rw [HS.out]; simp [overB, q1, q2, q3, q4]))
                            clear HB HG HS E4
                            go_wp2
                            go_roundw
                            case rel => exact ⟨k + 1, by omega, by go_num, HP, X4, L4⟩
                            case measure => simp [intOf]; omega
                        · have HP := Lib.hid (HG.out (by rw [HS.out]; simp [overB, q1, q2, q3]))
                          clear HB HG HS E4
                          go_wp2
                          go_roundw
                          case rel => exact ⟨k + 1, by omega, by go_num, HP, X4, L4⟩
                          case measure => simp [intOf]; omega
                      · have HN := Lib.hid (HB.out (by rw [HS.out]; simp [q2]))
                        clear HB HG HS X4 E4
                        go_wp2
                        go_ret
                        exact ⟨by rw [HN.out] <;> rfl, L4⟩
                    · have HN := Lib.hid (HB.out (by rw [HS.out]; simp [q1]))
                      clear HB HG HS X4 E4
                      go_wp2
                      go_ret
                      exact ⟨by rw [HN.out] <;> rfl, L4⟩
                · obtain rfl : k = c.wait.length := by omega
                  have HN : Hid (cliB c = true) := by unfold Hid; rw [HC.out]; exact hp.out
                  go_wp2
                  go_ret
                  exact ⟨by rw [HN.out] <;> rfl, hb⟩
          · have HN : Hid (cliB c = false) := by unfold Hid cliB headB; simp [h5]
            go_wp2
            go_ret
            exact ⟨by rw [HN.out] <;> rfl, L2⟩
end Go.Proofs.YtogafpfgdonlmaaDoor
