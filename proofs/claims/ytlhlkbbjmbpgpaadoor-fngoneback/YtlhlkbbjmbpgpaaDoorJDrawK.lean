/-
  spec.DrawKeyIn, DrawKeyOut, DrawKeyGone: some outline and some row, in bounds. Conditions: the code reads as bytes.
-/
import Derived.Test.YtlhlkbbjmbpgpaaDoorGL
import Derived.Test.YtlhlkbbjmbpgpaaDoorGK
namespace Go.Proofs.YtlhlkbbjmbpgpaaDoor
open Go.ChangeShapes Go.WideShapes Go.ChangeAt Go.RowKit Go.Joins

theorem drawKeyIn_any (a : Option Addr) (len cap : Nat) (w : World) (hb : Bytes w a len cap) :
    Calls Tryd.prog 41 #[.slice a len cap] w (DrewOne w) := by
  go_enter Tryd.func41, Tryd.ntmps41
  go_wp2_with fail
  refine (drawTreeAhead_any _ _ _ _ hb).mono ?_
  rintro e w1 ⟨a1, cap1, rs, z, rfl, z0, z1, l1, b1⟩
  have HF : Hid (DrewOne w (.returned (.tuple #[.slice a1 rs.length cap1, .int .i64 z])) w1) := ⟨a1, cap1, rs, z, rfl, z0, z1, l1, b1⟩
  clear l1 b1
  go_wp2
  go_ret2
  exact HF.out
theorem drawKeyGone_any (a : Option Addr) (len cap : Nat) (w : World) (hb : Bytes w a len cap) :
    Calls Tryd.prog 48 #[.slice a len cap] w (DrewOne w) := by
  obtain ⟨h1, h2, h3⟩ := hb
  go_enter Tryd.func48, Tryd.ntmps48
  go_wp2_with fail
  refine (l6Open_any w.heap.size _ _ _ _ (Nat.le_refl _) h1 h2 h3).mono ?_
  rintro e w1 ⟨rfl, b1, s1, r1⟩
  go_wp2_with fail
  refine (l71Row_any _ _ _ _ r1 (by omega)).mono ?_
  rintro e w2 ⟨a2, cap2, rs, z, rfl, z0, z1, l2, b2, r2⟩
  have f2 : Below w.heap.size w w2 := b1.trans (b2.below (Nat.le_refl _) (by omega))
  go_wp2
  go_ret2
  exact ⟨a2, cap2, rs, z, rfl, z0, z1, l2.base b1.size, f2⟩
set_option maxRecDepth 100000 in
set_option maxHeartbeats 4000000 in
theorem drawKeyOut_any (a : Option Addr) (len cap : Nat) (w : World) (hb : Bytes w a len cap) :
    Calls Tryd.prog 44 #[.slice a len cap] w (DrewOne w) := by
  obtain ⟨h1, h2, h3⟩ := hb
  go_enter Tryd.func44, Tryd.ntmps44
  go_wp2_with fail
  refine (l6Open_any w.heap.size _ _ _ _ (Nat.le_refl _) h1 h2 h3).mono ?_
  rintro e w1 ⟨rfl, b1, s1, r1⟩
  go_wp2_with fail
  refine (l71Row_any _ _ _ _ r1 (by omega)).mono ?_
  rintro e w2 ⟨a2, cap2, rs2, z2, rfl, z20, z21, l2, b2, r2⟩
  have hH0 : Hunt w.heap.size w.heap.size 3000 w1.heap.size w1 w2 a2 cap2 rs2 := ⟨l2, b2, by simpa using r2, s1, b2.size⟩
  clear l2 b2 r2 r1
  go_wp2_with fail
  go_loopw [5, 6, 7] (fun t id i wr => ∃ (k : Nat) (a : Option Addr) (cap : Nat) (rs : List RowD) (z : Int), k ≤ 6 ∧ i = .int .i64 k ∧ t = .slice a rs.length cap ∧ id = .int .i64 z ∧ 0 ≤ z ∧ z ≤ 99 ∧ Hunt w.heap.size w.heap.size (3000 + 3100 * k) w1.heap.size w1 wr a cap rs) (fun _ _ i _ => 6 - (intOf i).toNat)
  case atStart => exact ⟨0, _, _, rs2, z2, by omega, rfl, rfl, rfl, z20, z21, hH0⟩
  case round =>
    obtain ⟨k, a, cap, rs, z, hk, rfl, rfl, rfl, z0, z1, hH⟩ := hrel
    clear hH0 z20 z21
    have hlen := hH.1.len
    go_upto_region 4 with fail
    go_cut [23] (fun s wx => ∃ c : Bool, s = .bool c ∧ (c = true → k < 6) ∧ Hunt w.heap.size w.heap.size (3001 + 3100 * k) w1.heap.size w1 wx a cap rs)
    case first =>
      by_cases h6 : k < 6
      · have h6' : (k : Int) < 6 := by omega
        go_wp2_with fail
        refine (pick_any _ _ _ _ _ hH.2.2.1 (by omega) (by omega) (by omega)).mono ?_
        rintro e w3 ⟨q, q0, q1, rfl, b3, s3, r3⟩
        have hH3 := hH.more b3 r3
        clear hH b3 r3
        go_wp2_with fail
        go_meet
        exact ⟨_, rfl, fun _ => h6, hH3.rd (by omega)⟩
      · have h6' : ¬ (k : Int) < 6 := by omega
        go_wp2_with fail
        go_meet
        exact ⟨false, by first | rfl | simp | (simp; omega), fun h => by simp at h, hH.rd (by omega)⟩
    case rest =>
      obtain ⟨c, rfl, hc, hH2⟩ := hcut
      clear hH
      cases c
      · clear hc
        have HF := Lib.hid (hH2.one b1 z z0 z1)
        go_wp2
        go_ret2
        exact HF.out
      · have h6 := hc rfl
        clear hc
        have HC := Lib.hid (specKeyOut_any wc.heap.size _ cap _ z _ (Nat.le_refl _) hH2.1.rows hH2.1.fit ⟨by omega, by omega⟩)
        generalize koutO rs z = o at *
        generalize koutB rs z = ok at *
        simp only [keyV] at HC
        go_wp2_with fail
        refine HC.out.mono ?_
        rintro e w3 ⟨rfl, b3⟩
        have hH3 := (hH2.below b3).below ((Below.refl w3.heap.size w3).alloc (Nat.le_refl _) (.cells #[.int .i64 o.kind, .int .i64 o.id, .int .i64 o.up, .int .i64 o.at_, .string o.txt] 25))
        clear hH2 b3 HC
        cases ok
        · go_wp2_with fail
          refine (l71Row_any _ _ _ _ hH3.2.2.1 (by omega)).mono ?_
          rintro e w4 ⟨a4, cap4, rs4, z4, rfl, z40, z41, l4, b4, r4⟩
          have hH4 := hH3.anew l4 b4 r4
          clear hH3 l4 b4 r4
          go_wp2
          go_roundw
          case rel => exact ⟨k + 1, _, _, rs4, z4, by omega, by go_num, rfl, rfl, z40, z41, hH4.rd (by omega)⟩
          case measure => simp [intOf]; omega
        · have HF := Lib.hid (hH3.one b1 z z0 z1)
          go_wp2
          go_ret2
          exact HF.out
end Go.Proofs.YtlhlkbbjmbpgpaaDoor
