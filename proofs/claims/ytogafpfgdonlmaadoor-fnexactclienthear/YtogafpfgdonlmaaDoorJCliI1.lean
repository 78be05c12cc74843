/-
  Contracts of the program's waitOk and ClientOk. Conditions: as each theorem says.
-/
import Derived.Test.YtogafpfgdonlmaaDoorJCliA
import Derived.Test.YtogafpfgdonlmaaDoorGM
namespace Go.Proofs.YtogafpfgdonlmaaDoor
open Go.ChangeShapes Go.WideShapes Go.ChangeAt Go.RowKit Go.Joins

theorem over_made {who made : Int} {e : EntD} (h1 : 1 ≤ who ∧ who ≤ 3) (h6 : 0 ≤ made ∧ made ≤ 6) (he : entB e = true) (hw : e.who = who) (hk : e.op.kind = 1) : (madeI who made < e.op.id) ↔ (10 * who + made < e.op.id) := by
  obtain ⟨q1, q2, q3⟩ := id_div (ent_opok he)
  have q5 := (madeB_iff _).1 (opok_made (ent_opok he))
  simp only [entB, mineB, Bool.and_eq_true, hk] at he
  have q4 : whoI e.op.id = e.who := by have := he.2; simpa using this
  unfold madeI
  by_cases h : made = 0
  · subst h; simp [inB]; omega
  · rw [(inB_iff who 1 3).2 h1, (inB_iff made 1 6).2 (by omega)]; simp
theorem seq_long {c : CliD} (hw : waitB c = true) (hd : c.done ≤ 40) : c.done + c.wait.length ≤ 40 := by
  by_cases h : c.wait.length = 0
  · rw [h]; omega
  · obtain ⟨h1, _, h3, _⟩ := wstep_iff.1 (waitTo_at hw (show c.wait.length - 1 < c.wait.length by omega))
    simp only [entB, Bool.and_eq_true] at h1
    have := (inB_iff _ _ _).1 h1.1.1.2
    omega
/-- What is asked of a client before its waiting entries are. -/
def frontB (c : CliD) : Bool := inB c.who 1 3 && (treeB c.base && (inB c.seen 0 40 && (inB c.done 0 c.seen && inB c.made 0 6)))
theorem cli_front (c : CliD) : cliB c = (frontB c && waitB c) := by
  rw [Bool.eq_iff_iff, cli_iff, Bool.and_eq_true, head_iff]
  unfold frontB
  simp only [Bool.and_eq_true, inB_iff]
  constructor
  · rintro ⟨⟨h1, h2, h3, h4, h5, h6⟩, h7⟩; exact ⟨⟨h1, h3, h2, h4, h6⟩, h7⟩
  · rintro ⟨⟨h1, h3, h2, h4, h6⟩, h7⟩; exact ⟨⟨h1, h2, h3, h4, seq_long h7 (by omega), h6⟩, h7⟩
set_option maxRecDepth 100000 in
set_option maxHeartbeats 4000000 in
theorem waitOk_any (B : Nat) (c : CliD) (ba wa : Option Addr) (bc wc : Nat) (w : World) (hB : B ≤ w.heap.size) (h : CliAt B w c ba bc wa wc) (hf : CliFit c) (ht : Tab w) (e1 : 1 ≤ c.who ∧ c.who ≤ 3) (e4 : 0 ≤ c.done ∧ c.done ≤ 40) (e6 : 0 ≤ c.made ∧ c.made ≤ 6) :
    Calls Tryd.prog 60 #[.agg #[.int .i64 c.who, .int .i64 c.seen, .slice ba c.base.length bc, .slice wa c.wait.length wc, .int .i64 c.done, .int .i64 c.made]] w (RetBelow (.bool (waitB c)) w) := by
  have hz := ht.pos
  have hb0 : Below w.heap.size w (w.alloc (.cells #[.int .i64 c.who, .int .i64 c.seen, .slice ba c.base.length bc, .slice wa c.wait.length wc, .int .i64 c.done, .int .i64 c.made] 33)) := (Below.refl _ _).alloc (Nat.le_refl _) _
  have X0 := Bx.new w 33 #[.int .i64 c.who, .int .i64 c.seen, .slice ba c.base.length bc, .slice wa c.wait.length wc, .int .i64 c.done, .int .i64 c.made]
  have hwl := h.wl
  have hl := hf.wait.1
  have HQ : Hid (∀ e : EntD, entB e = true → e.who = c.who → e.op.kind = 1 → ((madeI c.who c.made < e.op.id) ↔ (10 * c.who + c.made < e.op.id))) := fun e => over_made e1 e6
  generalize hm : madeI c.who c.made = mm at *
  have HM : Hid (madeI c.who c.made = mm) := hm
  clear hm
  go_enter Tryd.func60, Tryd.ntmps60
  go_upto_region 1 with fail
  generalize w.alloc (.cells #[.int .i64 c.who, .int .i64 c.seen, .slice ba c.base.length bc, .slice wa c.wait.length wc, .int .i64 c.done, .int .i64 c.made] 33) = w1 at *
  obtain ⟨x0, x1, x2, x3, x4, x5⟩ := X0.cli
  go_wp2_with fail
  refine (implRowMade_any _ _ _).mono ?_
  rintro _ _ ⟨rfl, rfl⟩
  rw [HM.out]
  go_upto_region 3 with fail
  go_loopw [14] (fun t wr => ∃ k : Nat, k ≤ c.wait.length ∧ t = .int .i64 k ∧ Hid (waitTo c.who c.done c.made c.wait k = true) ∧ Bx wr w.heap.size 33 #[.int .i64 c.who, .int .i64 c.seen, .slice ba c.base.length bc, .slice wa c.wait.length wc, .int .i64 c.done, .int .i64 c.made] ∧ Below w.heap.size w wr) (fun t _ => c.wait.length - (intOf t).toNat)
  case atStart => exact ⟨0, Nat.zero_le _, rfl, waitTo_zero _ _ _ _, X0, hb0⟩
  case round =>
    obtain ⟨k, hk, rfl, hp, X, hb⟩ := hrel
    clear X0 hb0 x0 x1 x2 x3 x4 x5
    have hr := h.ents.below (hb.mono hB)
    obtain ⟨x0, x1, x2, x3, x4, x5⟩ := X.cli
    by_cases hlt : k < c.wait.length
    · have HE : Hid (∀ x, Below w.heap.size w x → Calls Tryd.prog 48 #[.agg #[.int .i64 (eat c.wait k).who, .int .i64 (eat c.wait k).seq, .int .i64 (eat c.wait k).op.kind, .int .i64 (eat c.wait k).op.id, .int .i64 (eat c.wait k).op.up, .int .i64 (eat c.wait k).op.at_, .string (eat c.wait k).op.txt]] x (RetBelow (.bool (entB (eat c.wait k))) x)) := fun x hx => implEntryOk_any (eat c.wait k) x (ht.below hx hz) (hf.wait.2 k hlt)
      have HB : Hid (wstepB c.who c.done c.made c.wait k = false → waitB c = false) := fun q => waitB_bad hlt q
      have HG : Hid (wstepB c.who c.done c.made c.wait k = true → waitTo c.who c.done c.made c.wait (k + 1) = true) := fun q => by rw [waitTo_succ, hp.out, q]; rfl
      have HS : Hid (wstepB c.who c.done c.made c.wait k = (entB (eat c.wait k) && ((eat c.wait k).who == c.who) && ((eat c.wait k).seq == c.done + k + 1) && !overB c.who c.made (eat c.wait k))) := rfl
      obtain ⟨b, off, hwa, hbB, c0, c1, c2, c3, c4, c5, c6⟩ := hr.at_ hlt
      have i1 : (k : Int) < (c.wait.length : Int) := by omega
      have E0 := Bx.new wr 55 #[.int .i64 (eat c.wait k).who, .int .i64 (eat c.wait k).seq, .int .i64 (eat c.wait k).op.kind, .int .i64 (eat c.wait k).op.id, .int .i64 (eat c.wait k).op.up, .int .i64 (eat c.wait k).op.at_, .string (eat c.wait k).op.txt]
      have al := hb.alloc hb.size (.cells #[.int .i64 (eat c.wait k).who, .int .i64 (eat c.wait k).seq, .int .i64 (eat c.wait k).op.kind, .int .i64 (eat c.wait k).op.id, .int .i64 (eat c.wait k).op.up, .int .i64 (eat c.wait k).op.at_, .string (eat c.wait k).op.txt] 55)
      have X1 := X.alloc (.cells #[.int .i64 (eat c.wait k).who, .int .i64 (eat c.wait k).seq, .int .i64 (eat c.wait k).op.kind, .int .i64 (eat c.wait k).op.id, .int .i64 (eat c.wait k).op.up, .int .i64 (eat c.wait k).op.at_, .string (eat c.wait k).op.txt] 55)
      generalize wstepB c.who c.done c.made c.wait k = ws at *
      generalize hee : entB (eat c.wait k) = eb at *
      have HEE := Lib.hid hee
      clear hee
      generalize eat c.wait k = e at *
      subst hwa
      go_upto_region 5 with fail
      generalize wr.alloc (.cells #[.int .i64 e.who, .int .i64 e.seq, .int .i64 e.op.kind, .int .i64 e.op.id, .int .i64 e.op.up, .int .i64 e.op.at_, .string e.op.txt] 55) = w3 at *
      generalize wr.heap.size = B3 at *
      clear hr c0 c1 c2 c3 c4 c5 c6 X hb hp x0 x1 x2 x3 x4 x5
      have f0 := E0.cell 0 rfl
      have f1 := E0.cell 1 rfl
      have f2 := E0.cell 2 rfl
      have f3 := E0.cell 3 rfl
      have f4 := E0.cell 4 rfl
      have f5 := E0.cell 5 rfl
      have f6 := E0.cell 6 rfl
      go_wp2_with fail
      refine (HE.out _ al).mono ?_
      rintro _ w4 ⟨rfl, b4⟩
      have L4 := al.trans (b4.mono al.size)
      have X4 := X1.below b4 X1.lt
      have E4 := E0.below b4 E0.lt
      clear X1 E0 al b4 f0 f1 f2 f3 f4 f5 f6
      obtain ⟨x0, x1, x2, x3, x4, x5⟩ := X4.cli
      have f0 := E4.cell 0 rfl
      have f1 := E4.cell 1 rfl
      have f2 := E4.cell 2 rfl
      have f3 := E4.cell 3 rfl
      cases eb
      · have HN := Lib.hid (HB.out (by rw [HS.out]; simp []))
        clear HB HG HS X4 E4
        go_wp2
        go_ret
        exact ⟨by rw [HN.out] <;> rfl, L4⟩
      · by_cases q1 : e.who = c.who
        · have q2f : c.done + 1 + k = c.done + k + 1 := by omega
          have Q2F := Lib.hid q2f
          clear q2f
          by_cases q2 : e.seq = c.done + 1 + k
          · by_cases q3 : e.op.kind = 1
            · have hq := HQ.out e HEE.out q1 q3
              have HQ2 := Lib.hid hq
              clear hq
              by_cases q4 : mm < e.op.id
              · have q4s := HQ2.out.1 q4
                have HN := Lib.hid (HB.out (by rw [HS.out]; simp [overB, q3, q4s]))
                clear HB HG HS X4 E4
                go_wp2
                go_ret
                exact ⟨by rw [HN.out] <;> rfl, L4⟩
              · have q4s : ¬ (10 * c.who + c.made < e.op.id) := fun g => q4 (HQ2.out.2 g)
                have q2s : e.seq = c.done + k + 1 := by rw [q2]; exact Q2F.out
                have HP := Lib.hid (HG.out (by rw [HS.out]; simp [overB, q1, q2s, q3, q4s]))
                clear HB HG HS E4 q2s
                go_wp2
                go_roundw
                case rel => exact ⟨k + 1, by omega, by go_num, HP, X4, L4⟩
                case measure => simp [intOf]; omega
            · have q2s : e.seq = c.done + k + 1 := by rw [q2]; exact Q2F.out
              have HP := Lib.hid (HG.out (by rw [HS.out]; simp [overB, q1, q2s, q3]))
              clear HB HG HS E4 q2s
              go_wp2
              go_roundw
              case rel => exact ⟨k + 1, by omega, by go_num, HP, X4, L4⟩
              case measure => simp [intOf]; omega
          · have q2s : ¬ e.seq = c.done + k + 1 := by rw [← Q2F.out]; exact q2
            have HN := Lib.hid (HB.out (by rw [HS.out]; simp [q2s]))
            clear HB HG HS X4 E4
            go_wp2
            go_ret
            exact ⟨by rw [HN.out] <;> rfl, L4⟩
        · have HN := Lib.hid (HB.out (by rw [HS.out]; simp [q1]))
          clear HB HG HS X4 E4
          go_wp2
          go_ret
          exact ⟨by rw [HN.out] <;> rfl, L4⟩
    · obtain rfl : k = c.wait.length := by omega
      have HN : Hid (waitB c = true) := hp.out
      go_wp2
      go_ret
      exact ⟨by rw [HN.out] <;> rfl, hb⟩
set_option maxRecDepth 100000 in
set_option maxHeartbeats 4000000 in
theorem implClientOk_any (B : Nat) (c : CliD) (ba wa : Option Addr) (bc wc : Nat) (w : World) (hB : B ≤ w.heap.size) (h : CliAt B w c ba bc wa wc) (hf : CliFit c) (ht : Tab w) :
    Calls Tryd.prog 45 #[.agg #[.int .i64 c.who, .int .i64 c.seen, .slice ba c.base.length bc, .slice wa c.wait.length wc, .int .i64 c.done, .int .i64 c.made]] w (RetBelow (.bool (cliB c)) w) := by
  have hz := ht.pos
  have hb0 : Below w.heap.size w (w.alloc (.cells #[.int .i64 c.who, .int .i64 c.seen, .slice ba c.base.length bc, .slice wa c.wait.length wc, .int .i64 c.done, .int .i64 c.made] 33)) := (Below.refl _ _).alloc (Nat.le_refl _) _
  have X0 := Bx.new w 33 #[.int .i64 c.who, .int .i64 c.seen, .slice ba c.base.length bc, .slice wa c.wait.length wc, .int .i64 c.done, .int .i64 c.made]
  have HC : Hid (cliB c = (frontB c && waitB c)) := cli_front c
  go_enter Tryd.func45, Tryd.ntmps45
  go_upto_region 1 with fail
  generalize w.alloc (.cells #[.int .i64 c.who, .int .i64 c.seen, .slice ba c.base.length bc, .slice wa c.wait.length wc, .int .i64 c.done, .int .i64 c.made] 33) = w1 at *
  obtain ⟨x0, x1, x2, x3, x4, x5⟩ := X0.cli
  go_wp2_with fail
  refine (isClient_any _ _).mono ?_
  rintro _ _ ⟨rfl, rfl⟩
  cases h1 : inB c.who 1 3
  · have HN : Hid (cliB c = false) := by unfold Hid; rw [HC.out]; unfold frontB; simp [h1]
    go_wp2
    go_ret
    exact ⟨by rw [HN.out] <;> rfl, hb0⟩
  · have e1 := (inB_iff _ _ _).1 h1
    go_wp2_with fail
    refine (implTreeOk_any B ba bc c.base _ (Nat.le_trans hB hb0.size) (h.rows.below (hb0.mono hB)) hf.base (ht.below hb0 hz)).mono ?_
    rintro _ w2 ⟨rfl, b2⟩
    have L2 := hb0.trans (b2.mono hb0.size)
    have X2 := X0.below b2 X0.lt
    clear X0 hb0 b2 x0 x1 x2 x3 x4 x5
    obtain ⟨x0, x1, x2, x3, x4, x5⟩ := X2.cli
    cases h3 : treeB c.base
    · have HN : Hid (cliB c = false) := by unfold Hid; rw [HC.out]; unfold frontB; simp [h3]
      go_wp2
      go_ret
      exact ⟨by rw [HN.out] <;> rfl, L2⟩
    · by_cases a1 : 0 ≤ c.seen
      · by_cases a2 : c.seen ≤ 40
        · by_cases a3 : 0 ≤ c.done
          · by_cases a4 : c.done ≤ c.seen
            · by_cases a5 : 0 ≤ c.made
              · by_cases a6 : c.made ≤ 6
                · have HN : Hid (cliB c = waitB c) := by unfold Hid; rw [HC.out]; unfold frontB; rw [h1, h3, (inB_iff _ _ _).2 ⟨a1, a2⟩, (inB_iff _ _ _).2 ⟨a3, a4⟩, (inB_iff _ _ _).2 ⟨a5, a6⟩]; rfl
                  clear h1 h3
                  go_wp2_with fail
                  refine (waitOk_any B c ba wa bc wc _ (Nat.le_trans hB L2.size) (h.below (L2.mono hB)) hf (ht.below L2 hz) e1 ⟨a3, by omega⟩ ⟨a5, a6⟩).mono ?_
                  rintro _ w3 ⟨rfl, b3⟩
                  clear x0 x1 x2 x3 x4 x5
                  go_wp2
                  go_ret
                  exact ⟨by rw [HN.out] <;> rfl, L2.trans (b3.mono L2.size)⟩
                · have HN : Hid (cliB c = false) := by unfold Hid; rw [HC.out]; unfold frontB inB; simp [a6]
                  go_wp2
                  go_ret
                  exact ⟨by rw [HN.out] <;> rfl, L2⟩
              · have HN : Hid (cliB c = false) := by unfold Hid; rw [HC.out]; unfold frontB inB; simp [a5]
                go_wp2
                go_ret
                exact ⟨by rw [HN.out] <;> rfl, L2⟩
            · have HN : Hid (cliB c = false) := by unfold Hid; rw [HC.out]; unfold frontB inB; simp [a4]
              go_wp2
              go_ret
              exact ⟨by rw [HN.out] <;> rfl, L2⟩
          · have HN : Hid (cliB c = false) := by unfold Hid; rw [HC.out]; unfold frontB inB; simp [a3]
            go_wp2
            go_ret
            exact ⟨by rw [HN.out] <;> rfl, L2⟩
        · have HN : Hid (cliB c = false) := by unfold Hid; rw [HC.out]; unfold frontB inB; simp [a2]
          go_wp2
          go_ret
          exact ⟨by rw [HN.out] <;> rfl, L2⟩
      · have HN : Hid (cliB c = false) := by unfold Hid; rw [HC.out]; unfold frontB inB; simp [a1]
        go_wp2
        go_ret
        exact ⟨by rw [HN.out] <;> rfl, L2⟩
end Go.Proofs.YtogafpfgdonlmaaDoor
