/-
  Contracts of the program's entriesOk and (*desk).hear. Conditions: as each theorem says.
-/
import Derived.Test.YtogafpfgdonlmaaDoorJCliI2
namespace Go.Proofs.YtogafpfgdonlmaaDoor
open Go.ChangeShapes Go.WideShapes Go.ChangeAt Go.RowKit Go.Joins Go.Deep

set_option maxRecDepth 100000 in
set_option maxHeartbeats 4000000 in
theorem entriesOk_any (B : Nat) (a : Option Addr) (cap : Nat) (es : List EntD) (w : World) (hB : B ≤ w.heap.size) (h : EntsAt B w a es) (hf : EntsFit es) (ht : Tab w) :
    Calls Tryd.prog 37 #[.slice a es.length cap] w (RetBelow (.bool (entsB es)) w) := by
  have hz := ht.pos
  have hl := hf.1
  go_enter Tryd.func37, Tryd.ntmps37
  go_wp2_with fail
  go_loopw [7] (fun t wr => ∃ k : Nat, k ≤ es.length ∧ t = .int .i64 k ∧ Hid (∀ i, i < k → entB (eat es i) = true) ∧ Below w.heap.size w wr) (fun t _ => es.length - (intOf t).toNat)
  case atStart => exact ⟨0, Nat.zero_le _, rfl, fun i hi => by omega, Below.refl _ _⟩
  case round =>
    obtain ⟨k, hk, rfl, hp, hb⟩ := hrel
    have hr := h.below (hb.mono hB)
    by_cases hlt : k < es.length
    · have HE : Hid (∀ x, Below w.heap.size w x → Calls Tryd.prog 48 #[.agg #[.int .i64 (eat es k).who, .int .i64 (eat es k).seq, .int .i64 (eat es k).op.kind, .int .i64 (eat es k).op.id, .int .i64 (eat es k).op.up, .int .i64 (eat es k).op.at_, .string (eat es k).op.txt]] x (RetBelow (.bool (entB (eat es k))) x)) := fun x hx => implEntryOk_any (eat es k) x (ht.below hx hz) (hf.2 k hlt)
      have HB : Hid (entB (eat es k) = false → entsB es = false) := fun q => ents_bad hlt q
      have HG : Hid (entB (eat es k) = true → ∀ i, i < k + 1 → entB (eat es i) = true) := fun q i hi => by
        by_cases e : i = k
        · rw [e]; exact q
        · exact hp.out i (by omega)
      obtain ⟨b, off, hwa, hbB, c0, c1, c2, c3, c4, c5, c6⟩ := hr.at_ hlt
      have i1 : (k : Int) < (es.length : Int) := by omega
      have E0 := Bx.new wr 55 #[.int .i64 (eat es k).who, .int .i64 (eat es k).seq, .int .i64 (eat es k).op.kind, .int .i64 (eat es k).op.id, .int .i64 (eat es k).op.up, .int .i64 (eat es k).op.at_, .string (eat es k).op.txt]
      have al := hb.alloc hb.size (.cells #[.int .i64 (eat es k).who, .int .i64 (eat es k).seq, .int .i64 (eat es k).op.kind, .int .i64 (eat es k).op.id, .int .i64 (eat es k).op.up, .int .i64 (eat es k).op.at_, .string (eat es k).op.txt] 55)
      generalize entB (eat es k) = eb at *
      generalize eat es k = e at *
      subst hwa
      go_upto_region 4 with fail
      generalize wr.alloc (.cells #[.int .i64 e.who, .int .i64 e.seq, .int .i64 e.op.kind, .int .i64 e.op.id, .int .i64 e.op.up, .int .i64 e.op.at_, .string e.op.txt] 55) = w3 at *
      generalize wr.heap.size = B3 at *
      clear hr c0 c1 c2 c3 c4 c5 c6 hb hp
      have f0 := E0.cell 0 rfl
      have f1 := E0.cell 1 rfl
      have f2 := E0.cell 2 rfl
      have f3 := E0.cell 3 rfl
      have f4 := E0.cell 4 rfl
      have f5 := E0.cell 5 rfl
      have f6 := E0.cell 6 rfl
      go_wp2_with fail
      refine (HE.out _ al).mono ?_
      rintro _ w4 ⟨rfl, b4⟩
      have L4 := al.trans (b4.mono al.size)
      clear E0 al b4 f0 f1 f2 f3 f4 f5 f6 HE
      cases eb
      · have HN := Lib.hid (HB.out rfl)
        clear HB HG
        go_wp2
        go_ret
        exact ⟨by rw [HN.out] <;> rfl, L4⟩
      · have HP := Lib.hid (HG.out rfl)
        clear HB HG
        go_wp2
        go_roundw
        case rel => exact ⟨k + 1, by omega, by go_num, HP, L4⟩
        case measure => simp [intOf]; omega
    · obtain rfl : k = es.length := by omega
      have HN : Hid (entsB es = true) := ents_all hp.out
      go_wp2
      go_ret
      exact ⟨by rw [HN.out] <;> rfl, hb⟩
end Go.Proofs.YtogafpfgdonlmaaDoor
