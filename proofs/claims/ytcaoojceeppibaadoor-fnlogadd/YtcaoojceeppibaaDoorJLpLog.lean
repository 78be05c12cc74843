/-
  The laws' own helpers lpLog and lpHas. Conditions: as each theorem says.
-/
import Derived.Test.YtcaoojceeppibaaDoorGP
namespace Go.Proofs.YtcaoojceeppibaaDoor
open Go.ChangeShapes Go.WideShapes Go.ChangeAt Go.RowKit Go.Joins

set_option maxRecDepth 100000 in
set_option maxHeartbeats 4000000 in
theorem lpHas_any (B : Nat) (a : Option Addr) (cap : Nat) (es : List EntD) (e : EntD) (w : World) (hB : B ≤ w.heap.size) (h : EntsAt B w a es) (hl : es.length ≤ 1048576) :
    Calls Tryd.prog 34 #[.slice a es.length cap, .agg #[.int .i64 e.who, .int .i64 e.seq, .int .i64 e.op.kind, .int .i64 e.op.id, .int .i64 e.op.up, .int .i64 e.op.at_, .string e.op.txt]] w (RetBelow (.bool (hasE es e)) w) := by
  have hb0 : Below w.heap.size w (w.alloc (.cells #[.int .i64 e.who, .int .i64 e.seq, .int .i64 e.op.kind, .int .i64 e.op.id, .int .i64 e.op.up, .int .i64 e.op.at_, .string e.op.txt] 42)) := (Below.refl _ _).alloc (Nat.le_refl _) _
  have HN := Lib.hid (ebox_new w e)
  go_enter Tryd.func34, Tryd.ntmps34
  go_wp2_with fail
  go_loopw [5] (fun t wr => ∃ k : Nat, k ≤ es.length ∧ t = .int .i64 k ∧ Hid (hasTo es e k = false) ∧ Below (w.alloc (.cells #[.int .i64 e.who, .int .i64 e.seq, .int .i64 e.op.kind, .int .i64 e.op.id, .int .i64 e.op.up, .int .i64 e.op.at_, .string e.op.txt] 42)).heap.size (w.alloc (.cells #[.int .i64 e.who, .int .i64 e.seq, .int .i64 e.op.kind, .int .i64 e.op.id, .int .i64 e.op.up, .int .i64 e.op.at_, .string e.op.txt] 42)) wr) (fun t _ => es.length - (intOf t).toNat)
  case atStart => exact ⟨0, Nat.zero_le _, rfl, hasTo_zero es e, Below.refl _ _⟩
  case round =>
    obtain ⟨k, hk, rfl, hp, hb⟩ := hrel
    have hbw := hb0.trans (hb.mono hb0.size)
    have hr := h.below (hbw.mono hB)
    by_cases hlt : k < es.length
    · obtain ⟨b, off, rfl, hbB, c0, c1, c2, c3, c4, c5, c6⟩ := hr.at_ hlt
      obtain ⟨x0, x1, x2, x3, x4, x5, x6⟩ := HN.out wr hb
      have i1 : (k : Int) < (es.length : Int) := by omega
      clear hr HN
      cases hs : sameB (eat es k) e
      · 
          have HP := Lib.hid (has_next hp.out hs)
          have hp' := ent_parts hs
          clear hp hs
          generalize eat es k = d at *
          have hbd := hb.drew
          rcases hp' with h1 | ⟨h1, h2⟩ | ⟨h1, h2, h3⟩ | ⟨h1, h2, h3, h4⟩ | ⟨h1, h2, h3, h4, h5⟩ | ⟨h1, h2, h3, h4, h5, h6⟩ | ⟨h1, h2, h3, h4, h5, h6, h7⟩
          · go_wp2_with fail
            go_region
            all_goals
              go_wp2
              go_roundw
              case rel => exact ⟨k + 1, by omega, by go_num, HP, hbd⟩
              case measure => simp [intOf]; omega
          · go_wp2_with fail
            go_region
            all_goals
              go_wp2
              go_roundw
              case rel => exact ⟨k + 1, by omega, by go_num, HP, hbd⟩
              case measure => simp [intOf]; omega
          · go_wp2_with fail
            go_region
            all_goals
              go_wp2
              go_roundw
              case rel => exact ⟨k + 1, by omega, by go_num, HP, hbd⟩
              case measure => simp [intOf]; omega
          · go_wp2_with fail
            go_region
            all_goals
              go_wp2
              go_roundw
              case rel => exact ⟨k + 1, by omega, by go_num, HP, hbd⟩
              case measure => simp [intOf]; omega
          · go_wp2_with fail
            go_region
            all_goals
              go_wp2
              go_roundw
              case rel => exact ⟨k + 1, by omega, by go_num, HP, hbd⟩
              case measure => simp [intOf]; omega
          · go_wp2_with fail
            go_region
            all_goals
              go_wp2
              go_roundw
              case rel => exact ⟨k + 1, by omega, by go_num, HP, hbd⟩
              case measure => simp [intOf]; omega
          · have h7' : ¬ e.op.txt.toList = d.op.txt.toList := fun q => h7 q.symm
            go_wp2_with fail
            go_region
            all_goals
              go_wp2
              go_roundw
              case rel => exact ⟨k + 1, by omega, by go_num, HP, hbd⟩
              case measure => simp [intOf]; omega
      · have HH := Lib.hid (hasE_at hlt hs)
        have he := sameB_iff.1 hs
        rw [he] at c0 c1 c2 c3 c4 c5 c6
        have hbd := hbw.drew
        clear hp hs he
        go_wp2_with fail
        go_region
        all_goals
          go_wp2
          go_ret
          exact ⟨by rw [HH.out]; rfl, hbd⟩
    · have HH : Hid (hasE es e = false) := by unfold Hid hasE; rw [show es.length = k by omega]; exact hp.out
      go_wp2
      go_ret
      exact ⟨by rw [HH.out]; rfl, hbw⟩

set_option maxRecDepth 100000 in
set_option maxHeartbeats 4000000 in
theorem lpLog_same (B : Nat) (a a' : Option Addr) (cap cap' : Nat) (es : List EntD) (w : World) (hB : B ≤ w.heap.size) (h : EntsAt B w a es) (h' : EntsAt B w a' es) (hl : es.length ≤ 1048576) :
    Calls Tryd.prog 32 #[.slice a es.length cap, .slice a' es.length cap'] w (RetBelow (.bool true) w) := by
  go_enter Tryd.func32, Tryd.ntmps32
  go_wp2_with fail
  go_loopw [5] (fun t wr => ∃ k : Nat, k ≤ es.length ∧ t = .int .i64 k ∧ Below w.heap.size w wr) (fun t _ => es.length - (intOf t).toNat)
  case atStart => exact ⟨0, Nat.zero_le _, rfl, Below.refl _ _⟩
  case round =>
    obtain ⟨k, hk, rfl, hb⟩ := hrel
    have hr := h.below (hb.mono hB)
    have hr' := h'.below (hb.mono hB)
    by_cases hlt : k < es.length
    · obtain ⟨b, off, rfl, hbB, c0, c1, c2, c3, c4, c5, c6⟩ := hr.at_ hlt
      obtain ⟨b', off', rfl, hbB', d0, d1, d2, d3, d4, d5, d6⟩ := hr'.at_ hlt
      have i1 : (k : Int) < (es.length : Int) := by omega
      generalize eat es k = e at *
      clear hr hr'
      go_wp2_with fail
      go_region
      all_goals
        go_wp2
        go_roundw
        case rel => exact ⟨k + 1, by omega, by go_num, hb.drew⟩
        case measure => simp [intOf]; omega
    · go_wp2
      go_ret
      exact ⟨rfl, hb⟩
end Go.Proofs.YtcaoojceeppibaaDoor
