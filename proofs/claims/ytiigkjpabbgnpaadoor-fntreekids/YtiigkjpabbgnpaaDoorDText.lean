/-
  The model's drawing of texts: of, l71Text. Conditions: as each theorem says.
-/
import Derived.Test.YtiigkjpabbgnpaaDoorRowAt
namespace Go.Proofs.YtiigkjpabbgnpaaDoor
open Go.ChangeShapes Go.WideShapes Go.ChangeAt Go.RowKit Go.Joins

def DrewStr (N b p M : Nat) (w : World) (e : Ending) (w' : World) : Prop := ∃ s : ByteArray, s.size ≤ M ∧ e = .returned (.string s) ∧ But b w.heap.size w w' ∧ Rd N w' b p
theorem of_any (N b p lb n M : Nat) (w : World) (hr : Rd N w b p) (hp : p < 1000000000) (hn : 1 ≤ n) (hn2 : n ≤ 1000) (hlb : lb < w.heap.size) (hne : lb ≠ b)
    (hs : ∀ i, i < n → ∃ s : ByteArray, w.cell? ⟨lb, i, none⟩ = some (.string s) ∧ s.size ≤ M) :
    Calls Tryd.prog 60 #[.pointer (some ⟨b, 0, none⟩), .slice (some ⟨lb, 0, none⟩) n n] w (DrewStr N b (p + 1) M w) := by
  have HS := Lib.hid hs
  clear hs
  go_enter Tryd.func60, Tryd.ntmps60
  go_wp2_with fail
  refine (pick_any _ _ _ _ _ hr hp (by omega) (by omega)).mono ?_
  rintro e w1 ⟨k, k0, k1, rfl, b1, s1, r1⟩
  obtain ⟨i, rfl⟩ := Int.eq_ofNat_of_zero_le k0
  obtain ⟨s, hc, hsz⟩ := HS.out i (by omega)
  have hc1 : w1.cell? ⟨lb, i, none⟩ = some (.string s) := by rw [b1.cell hlb hne]; exact hc
  clear hc
  go_wp2
  go_ret
  exact ⟨s, hsz, rfl, b1, r1⟩

theorem strs4 (w : World) (s0 s1 s2 s3 : ByteArray) (M : Nat) (h0 : s0.size ≤ M) (h1 : s1.size ≤ M) (h2 : s2.size ≤ M) (h3 : s3.size ≤ M) :
    ∀ i, i < 4 → ∃ s : ByteArray, (w.alloc (.cells #[.string s0, .string s1, .string s2, .string s3] 9)).cell? ⟨w.heap.size, i, none⟩ = some (.string s) ∧ s.size ≤ M := by
  intro i hi
  obtain rfl | rfl | rfl | rfl : i = 0 ∨ i = 1 ∨ i = 2 ∨ i = 3 := by omega
  · exact ⟨s0, by simp [go_sem], h0⟩
  · exact ⟨s1, by simp [go_sem], h1⟩
  · exact ⟨s2, by simp [go_sem], h2⟩
  · exact ⟨s3, by simp [go_sem], h3⟩
theorem l71Text_any (N b p : Nat) (w : World) (hr : Rd N w b p) (hp : p < 1000000) :
    Calls Tryd.prog 49 #[.pointer (some ⟨b, 0, none⟩)] w (DrewStr N b (p + 6) 7 w) := by
  have hbw := hr.2.1
  go_enter Tryd.func49, Tryd.ntmps49
  go_wp2_with fail
  refine (pick_any _ _ _ _ _ hr (by omega) (by omega) (by omega)).mono ?_
  rintro e w1 ⟨k, k0, k1, rfl, b1, s1, r1⟩
  obtain ⟨m, rfl⟩ := Int.eq_ofNat_of_zero_le k0
  go_wp2
  go_loopw [3, 4] (fun s n w' => ∃ (j : Nat) (str : ByteArray), j ≤ 3 ∧ n = .int .i64 j ∧ s = .string str ∧ str.size + j ≤ 3 ∧ But b w.heap.size w w' ∧ Rd N w' b (p + 1 + (3 - j))) (fun _ n _ => (intOf n).toNat)
  case atStart => exact ⟨m, ByteArray.empty, by omega, rfl, rfl, by simp; omega, b1, r1.mono (by omega)⟩
  case round =>
    obtain ⟨j, str, j1, rfl, rfl, j2, bw, rdw⟩ := hrel
    have hsz := bw.size
    by_cases hj : 0 < j
    · go_wp2_with fail
      have al : Below wr.heap.size wr (wr.alloc (.cells #[.string { data := #[97] }, .string { data := #[98] }, .string { data := #[99] }, .string { data := #[100] }] 9)) := (Below.refl _ _).alloc (Nat.le_refl _) _
      refine (of_any N b (p + 1 + (3 - j)) wr.heap.size 4 1 _ (rdw.below al (by omega)) (by omega) (by omega) (by omega) (by simp) (by omega) (strs4 _ _ _ _ _ 1 (by decide) (by decide) (by decide) (by decide))).mono ?_
      rintro e w2 ⟨t, ht, rfl, b2, r2⟩
      have b3 : But b w.heap.size w w2 := (bw.trans ((But.of_below al).mono hsz)).trans (b2.mono (by simp; omega))
      go_wp2
      go_roundw
      case rel => exact ⟨j - 1, str ++ t, by omega, by go_num, rfl, by simp; omega, b3, r2.mono (by omega)⟩
      case measure => simp [intOf]; omega
    · obtain rfl : j = 0 := by omega
      go_wp2_with fail
      refine (pick_any _ _ _ _ _ rdw (by omega) (by omega) (by omega)).mono ?_
      rintro e w2 ⟨i, i0, i1, rfl, b2, s2, r2⟩
      by_cases hi : i = 0
      · subst hi
        go_wp2_with fail
        have al : Below w2.heap.size w2 (w2.alloc (.cells #[.string { data := #[101] }, .string { data := #[32] }, .string { data := #[97, 97, 97, 97] }, .string { data := #[39] }] 9)) := (Below.refl _ _).alloc (Nat.le_refl _) _
        refine (of_any N b _ w2.heap.size 4 4 _ (r2.below al (by omega)) (by omega) (by omega) (by omega) (by simp) (by omega) (strs4 _ _ _ _ _ 4 (by decide) (by decide) (by decide) (by decide))).mono ?_
        rintro e w3 ⟨t, ht, rfl, b3, r3⟩
        have b4 : But b w.heap.size w w3 := ((bw.trans (b2.mono hsz)).trans ((But.of_below al).mono (by omega))).trans (b3.mono (by simp; omega))
        go_wp2
        go_ret
        exact ⟨str ++ t, by simp; omega, rfl, b4, r3.mono (by omega)⟩
      · have hi' := beq_eq_false_iff_ne.2 hi
        clear hi
        go_wp2
        go_ret
        exact ⟨str, by omega, rfl, bw.trans (b2.mono hsz), r2.mono (by omega)⟩
end Go.Proofs.YtiigkjpabbgnpaaDoor
