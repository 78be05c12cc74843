/-
  The model's drawings of an outline and one or two rows: DrawTreeUp, DrawTreeUnder. Conditions: the argument reads as bytes.
-/
import Derived.Test.YtiigkjpabbgnpaaDoorDRow
namespace Go.Proofs.YtiigkjpabbgnpaaDoor
open Go.ChangeShapes Go.WideShapes Go.ChangeAt Go.RowKit Go.Joins

/-- An outline and a row were drawn, and nothing old has turned. -/
def DrewOne (w : World) (e : Ending) (w' : World) : Prop :=
  ∃ (a : Option Addr) (cap : Nat) (rs : List RowD) (z : Int), e = .returned (.tuple #[.slice a rs.length cap, .int .i64 z]) ∧ 0 ≤ z ∧ z ≤ 99 ∧ Loose w.heap.size w' a cap rs ∧ Below w.heap.size w w'
def DrewTwo (w : World) (e : Ending) (w' : World) : Prop :=
  ∃ (a : Option Addr) (cap : Nat) (rs : List RowD) (z u : Int), e = .returned (.tuple #[.slice a rs.length cap, .int .i64 z, .int .i64 u]) ∧ 0 ≤ z ∧ z ≤ 99 ∧ Loose w.heap.size w' a cap rs ∧ Below w.heap.size w w'
theorem drawTreeUp_any (a : Option Addr) (len cap : Nat) (w : World) (hb : Bytes w a len cap) :
    Calls Tryd.prog 18 #[.slice a len cap] w (DrewOne w) := by
  obtain ⟨h1, h2, h3⟩ := hb
  go_enter Tryd.func18, Tryd.ntmps18
  go_wp2_with fail
  refine (l6Open_any w.heap.size _ _ _ _ (Nat.le_refl _) h1 h2 h3).mono ?_
  rintro e w1 ⟨rfl, b1, s1, r1⟩
  go_wp2_with fail
  refine (l71Row_any _ _ _ _ r1 (by omega)).mono ?_
  rintro e w2 ⟨a2, cap2, rs, z, rfl, z0, z1, l2, b2, r2⟩
  have f2 : Below w.heap.size w w2 := b1.trans (b2.below (Nat.le_refl _) (by omega))
  go_wp2
  go_ret2
  exact ⟨a2, cap2, rs, z, rfl, z0, z1, l2.base b1.size, f2⟩
theorem Hunt.two {N p : Nat} {w w1 w' : World} {a : Option Addr} {cap : Nat} {rs : List RowD} (h : Hunt N w.heap.size p w1.heap.size w1 w' a cap rs) (hb : Below w.heap.size w w1) (z u : Int) (z0 : 0 ≤ z) (z1 : z ≤ 99) : DrewTwo w (.returned (.tuple #[.slice a rs.length cap, .int .i64 z, .int .i64 u])) w' := by
  obtain ⟨h1, h2, h3, h4, h5⟩ := h
  exact ⟨a, cap, rs, z, u, rfl, z0, z1, h1.base hb.size, hb.trans (h2.below (Nat.le_refl _) hb.size)⟩
set_option maxRecDepth 100000 in
set_option maxHeartbeats 2000000 in
theorem drawTreeUnder_any (a : Option Addr) (len cap : Nat) (w : World) (hb : Bytes w a len cap) :
    Calls Tryd.prog 26 #[.slice a len cap] w (DrewTwo w) := by
  obtain ⟨h1, h2, h3⟩ := hb
  go_enter Tryd.func26, Tryd.ntmps26
  go_wp2_with fail
  refine (l6Open_any w.heap.size _ _ _ _ (Nat.le_refl _) h1 h2 h3).mono ?_
  rintro e w1 ⟨rfl, b1, s1, r1⟩
  go_wp2_with fail
  refine (l71Row_any _ _ _ _ r1 (by omega)).mono ?_
  rintro e w2 ⟨a2, cap2, rs, z, rfl, z0, z1, l2, b2, r2⟩
  have hH : Hunt w.heap.size w.heap.size 3000 w1.heap.size w1 w2 a2 cap2 rs := ⟨l2, b2, by simpa using r2, s1, b2.size⟩
  clear l2 b2 r2 r1
  have hlen := hH.1.len
  go_wp2_with fail
  refine (specTreeUp_any _ _ _ _ _ _ (Nat.le_refl _) hH.1.rows hH.1.fit).mono ?_
  rintro e w3 ⟨rfl, b3⟩
  have hH3 := hH.below b3
  clear hH b3
  generalize upI rs z = up
  generalize hasB rs z = ok
  go_upto_region 4 with fail
  go_cut [32] (fun s wx => ∃ c : Bool, s = .bool c ∧ Hunt w.heap.size w.heap.size 3001 w1.heap.size w1 wx a2 cap2 rs)
  case first =>
    cases ok
    · go_wp2_with fail
      go_meet
      exact ⟨false, by first | rfl | simp, hH3.rd (by omega)⟩
    · by_cases hu : (0 : Int) < up
      · go_wp2_with fail
        refine (pick_any _ _ _ _ _ hH3.2.2.1 (by omega) (by omega) (by omega)).mono ?_
        rintro e w4 ⟨q, q0, q1, rfl, b4, s4, r4⟩
        have hH4 := hH3.more b4 r4
        go_wp2_with fail
        go_meet
        exact ⟨_, rfl, hH4.rd (by omega)⟩
      · go_wp2_with fail
        go_meet
        exact ⟨false, by first | rfl | simp | (simp; omega), hH3.rd (by omega)⟩
  case rest =>
    obtain ⟨c, rfl, hH4⟩ := hcut
    clear hH3
    cases c
    · have hHd : Hunt w.heap.size w.heap.size 3001 w1.heap.size w1 wc.drew a2 cap2 rs := hH4.below ⟨rfl, rfl, rfl, Nat.le_refl _, fun _ _ => rfl⟩
      clear hH4
      go_upto_region 6 with fail
      go_region_with ((go_at_call 33; refine (pick_any _ _ _ _ _ hHd.2.2.1 (by omega) (by omega) (by omega)).mono ?_; rintro e w4 ⟨q, q0, q1, rfl, b4, s4, r4⟩; obtain ⟨i, rfl⟩ := Int.eq_ofNat_of_zero_le q0; obtain ⟨g, off, rfl, hg, c0, c1, c2⟩ := (hHd.more b4 r4).1.rows.at_ (show i < rs.length by omega)))
      all_goals
        have HF := Lib.hid ((hHd.more b4 r4).two b1 z (rat rs i).id z0 z1)
        go_wp2
        go_ret3
        exact HF.out
    · have HF := Lib.hid (hH4.two b1 z up z0 z1)
      go_wp2
      go_ret3
      exact HF.out
end Go.Proofs.YtiigkjpabbgnpaaDoor
