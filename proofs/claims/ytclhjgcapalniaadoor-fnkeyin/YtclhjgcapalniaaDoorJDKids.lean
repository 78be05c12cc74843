/-
  The model's drawings of an outline and a row with others under it, or one ahead of it: DrawTreeKids, DrawTreeAhead. Conditions: the argument reads as bytes.
-/
import Derived.Test.YtclhjgcapalniaaDoorJDUnder
namespace Go.Proofs.YtclhjgcapalniaaDoor
open Go.ChangeShapes Go.WideShapes Go.ChangeAt Go.RowKit Go.Joins

theorem Hunt.one {N p : Nat} {w w1 w' : World} {a : Option Addr} {cap : Nat} {rs : List RowD} (h : Hunt N w.heap.size p w1.heap.size w1 w' a cap rs) (hb : Below w.heap.size w w1) (z : Int) (z0 : 0 ≤ z) (z1 : z ≤ 99) : DrewOne w (.returned (.tuple #[.slice a rs.length cap, .int .i64 z])) w' := by
  obtain ⟨h1, h2, h3, h4, h5⟩ := h
  exact ⟨a, cap, rs, z, rfl, z0, z1, h1.base hb.size, hb.trans (h2.below (Nat.le_refl _) hb.size)⟩
set_option maxRecDepth 100000 in
set_option maxHeartbeats 4000000 in
theorem drawTreeAhead_any (a : Option Addr) (len cap : Nat) (w : World) (hb : Bytes w a len cap) :
    Calls Tryd.prog 39 #[.slice a len cap] w (DrewOne w) := by
  obtain ⟨h1, h2, h3⟩ := hb
  go_enter Tryd.func39, Tryd.ntmps39
  go_wp2_with fail
  refine (l6Open_any w.heap.size _ _ _ _ (Nat.le_refl _) h1 h2 h3).mono ?_
  rintro e w1 ⟨rfl, b1, s1, r1⟩
  go_wp2_with fail
  refine (l71Row_any _ _ _ _ r1 (by omega)).mono ?_
  rintro e w2 ⟨a2, cap2, rs2, z2, rfl, z20, z21, l2, b2, r2⟩
  have hH0 : Hunt w.heap.size w.heap.size 3000 w1.heap.size w1 w2 a2 cap2 rs2 := ⟨l2, b2, by simpa using r2, s1, b2.size⟩
  clear l2 b2 r2 r1
  go_wp2_with fail
  go_loopw [5, 6, 7] (fun t id i wr => ∃ (k : Nat) (a : Option Addr) (cap : Nat) (rs : List RowD) (z : Int), k ≤ 5 ∧ i = .int .i64 k ∧ t = .slice a rs.length cap ∧ id = .int .i64 z ∧ 0 ≤ z ∧ z ≤ 99 ∧ Hunt w.heap.size w.heap.size (3000 + 3100 * k) w1.heap.size w1 wr a cap rs) (fun _ _ i _ => 5 - (intOf i).toNat)
  case atStart => exact ⟨0, _, _, rs2, z2, by omega, rfl, rfl, rfl, z20, z21, hH0⟩
  case round =>
    obtain ⟨k, a, cap, rs, z, hk, rfl, rfl, rfl, z0, z1, hH⟩ := hrel
    clear hH0 z20 z21
    have hlen := hH.1.len
    go_upto_region 4 with fail
    go_cut [23] (fun s wx => ∃ c : Bool, s = .bool c ∧ (c = true → k < 5) ∧ Hunt w.heap.size w.heap.size (3001 + 3100 * k) w1.heap.size w1 wx a cap rs)
    case first =>
      by_cases h6 : k < 5
      · have h6' : (k : Int) < 5 := by omega
        go_wp2_with fail
        refine (pick_any _ _ _ _ _ hH.2.2.1 (by omega) (by omega) (by omega)).mono ?_
        rintro e w3 ⟨q, q0, q1, rfl, b3, s3, r3⟩
        have hH3 := hH.more b3 r3
        clear hH b3 r3
        go_wp2_with fail
        go_meet
        exact ⟨_, rfl, fun _ => h6, hH3.rd (by omega)⟩
      · have h6' : ¬ (k : Int) < 5 := by omega
        go_wp2_with fail
        go_meet
        exact ⟨false, by first | rfl | simp | (simp; omega), fun h => by simp at h, hH.rd (by omega)⟩
    case rest =>
      obtain ⟨c, rfl, hc, hH2⟩ := hcut
      clear hH
      cases c
      · clear hc
        have HF := Lib.hid (hH2.one b1 z z0 z1)
        go_wp2
        go_ret2
        exact HF.out
      · have h6 := hc rfl
        clear hc
        go_wp2_with fail
        refine (specTreeAhead_any wc.heap.size _ _ _ _ _ (Nat.le_refl _) hH2.1.rows hH2.1.fit).mono ?_
        rintro e w3 ⟨rfl, b3⟩
        have hH3 := hH2.below b3
        clear hH2 b3
        generalize ahI rs z = ai
        generalize ahB rs z = ab
        by_cases hai : (0 : Int) < ai
        · have HF := Lib.hid (hH3.one b1 z z0 z1)
          go_wp2
          go_ret2
          exact HF.out
        · go_wp2_with fail
          refine (l71Row_any _ _ _ _ hH3.2.2.1 (by omega)).mono ?_
          rintro e w4 ⟨a4, cap4, rs4, z4, rfl, z40, z41, l4, b4, r4⟩
          have hH4 := hH3.anew l4 b4 r4
          clear hH3 l4 b4 r4
          go_wp2
          go_roundw
          case rel => exact ⟨k + 1, _, _, rs4, z4, by omega, by go_num, rfl, rfl, z40, z41, hH4.rd (by omega)⟩
          case measure => simp [intOf]; omega
end Go.Proofs.YtclhjgcapalniaaDoor
