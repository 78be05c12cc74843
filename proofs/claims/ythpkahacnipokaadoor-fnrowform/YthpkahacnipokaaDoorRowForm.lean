/-
  The walk of the law FnRowForm out of the contracts. Conditions: the argument reads as bytes; the table 'creators' holds what its initialiser lays.
-/
import Derived.Test.YthpkahacnipokaaDoorRd
namespace Go.Proofs.YthpkahacnipokaaDoor
open Go.ChangeShapes Go.WideShapes Go.ChangeAt Go.RowKit Go.Joins

def DrewStr (N b p M : Nat) (w : World) (e : Ending) (w' : World) : Prop := ∃ s : ByteArray, s.size ≤ M ∧ e = .returned (.string s) ∧ But b w.heap.size w w' ∧ Rd N w' b p
theorem of_any (N b p lb n M : Nat) (w : World) (hr : Rd N w b p) (hp : p < 1000000000) (hn : 1 ≤ n) (hn2 : n ≤ 1000) (hlb : lb < w.heap.size) (hne : lb ≠ b)
    (hs : ∀ i, i < n → ∃ s : ByteArray, w.cell? ⟨lb, i, none⟩ = some (.string s) ∧ s.size ≤ M) :
    Calls Tryd.prog 27 #[.pointer (some ⟨b, 0, none⟩), .slice (some ⟨lb, 0, none⟩) n n] w (DrewStr N b (p + 1) M w) := by
  have HS := Lib.hid hs
  clear hs
  go_enter Tryd.func27, Tryd.ntmps27
  go_wp2_with fail
  refine (pick_any _ _ _ _ _ hr hp (by omega) (by omega)).mono ?_
  rintro e w1 ⟨k, k0, k1, rfl, b1, s1, r1⟩
  obtain ⟨i, rfl⟩ := Int.eq_ofNat_of_zero_le k0
  obtain ⟨s, hc, hsz⟩ := HS.out i (by omega)
  have hc1 : w1.cell? ⟨lb, i, none⟩ = some (.string s) := by rw [b1.cell hlb hne]; exact hc
  clear hc
  go_wp2
  go_ret
  exact ⟨s, hsz, rfl, b1, r1⟩

theorem strs4 (w : World) (s0 s1 s2 s3 : ByteArray) (M : Nat) (h0 : s0.size ≤ M) (h1 : s1.size ≤ M) (h2 : s2.size ≤ M) (h3 : s3.size ≤ M) :
    ∀ i, i < 4 → ∃ s : ByteArray, (w.alloc (.cells #[.string s0, .string s1, .string s2, .string s3] 9)).cell? ⟨w.heap.size, i, none⟩ = some (.string s) ∧ s.size ≤ M := by
  intro i hi
  obtain rfl | rfl | rfl | rfl : i = 0 ∨ i = 1 ∨ i = 2 ∨ i = 3 := by omega
  · exact ⟨s0, by simp [go_sem], h0⟩
  · exact ⟨s1, by simp [go_sem], h1⟩
  · exact ⟨s2, by simp [go_sem], h2⟩
  · exact ⟨s3, by simp [go_sem], h3⟩
theorem l71Text_any (N b p : Nat) (w : World) (hr : Rd N w b p) (hp : p < 1000000) :
    Calls Tryd.prog 24 #[.pointer (some ⟨b, 0, none⟩)] w (DrewStr N b (p + 6) 7 w) := by
  have hbw := hr.2.1
  go_enter Tryd.func24, Tryd.ntmps24
  go_wp2_with fail
  refine (pick_any _ _ _ _ _ hr (by omega) (by omega) (by omega)).mono ?_
  rintro e w1 ⟨k, k0, k1, rfl, b1, s1, r1⟩
  obtain ⟨m, rfl⟩ := Int.eq_ofNat_of_zero_le k0
  go_wp2
  go_loopw [3, 4] (fun s n w' => ∃ (j : Nat) (str : ByteArray), j ≤ 3 ∧ n = .int .i64 j ∧ s = .string str ∧ str.size + j ≤ 3 ∧ But b w.heap.size w w' ∧ Rd N w' b (p + 1 + (3 - j))) (fun _ n _ => (intOf n).toNat)
  case atStart => exact ⟨m, ByteArray.empty, by omega, rfl, rfl, by simp; omega, b1, r1.mono (by omega)⟩
  case round =>
    obtain ⟨j, str, j1, rfl, rfl, j2, bw, rdw⟩ := hrel
    have hsz := bw.size
    by_cases hj : 0 < j
    · go_wp2_with fail
      have al : Below wr.heap.size wr (wr.alloc (.cells #[.string { data := #[97] }, .string { data := #[98] }, .string { data := #[99] }, .string { data := #[100] }] 9)) := (Below.refl _ _).alloc (Nat.le_refl _) _
      refine (of_any N b (p + 1 + (3 - j)) wr.heap.size 4 1 _ (rdw.below al (by omega)) (by omega) (by omega) (by omega) (by simp) (by omega) (strs4 _ _ _ _ _ 1 (by decide) (by decide) (by decide) (by decide))).mono ?_
      rintro e w2 ⟨t, ht, rfl, b2, r2⟩
      have b3 : But b w.heap.size w w2 := (bw.trans ((But.of_below al).mono hsz)).trans (b2.mono (by simp; omega))
      go_wp2
      go_roundw
      case rel => exact ⟨j - 1, str ++ t, by omega, by go_num, rfl, by simp; omega, b3, r2.mono (by omega)⟩
      case measure => simp [intOf]; omega
    · obtain rfl : j = 0 := by omega
      go_wp2_with fail
      refine (pick_any _ _ _ _ _ rdw (by omega) (by omega) (by omega)).mono ?_
      rintro e w2 ⟨i, i0, i1, rfl, b2, s2, r2⟩
      by_cases hi : i = 0
      · subst hi
        go_wp2_with fail
        have al : Below w2.heap.size w2 (w2.alloc (.cells #[.string { data := #[101] }, .string { data := #[32] }, .string { data := #[97, 97, 97, 97] }, .string { data := #[39] }] 9)) := (Below.refl _ _).alloc (Nat.le_refl _) _
        refine (of_any N b _ w2.heap.size 4 4 _ (r2.below al (by omega)) (by omega) (by omega) (by omega) (by simp) (by omega) (strs4 _ _ _ _ _ 4 (by decide) (by decide) (by decide) (by decide))).mono ?_
        rintro e w3 ⟨t, ht, rfl, b3, r3⟩
        have b4 : But b w.heap.size w w3 := ((bw.trans (b2.mono hsz)).trans ((But.of_below al).mono (by omega))).trans (b3.mono (by simp; omega))
        go_wp2
        go_ret
        exact ⟨str ++ t, by simp; omega, rfl, b4, r3.mono (by omega)⟩
      · have hi' := beq_eq_false_iff_ne.2 hi
        clear hi
        go_wp2
        go_ret
        exact ⟨str, by omega, rfl, bw.trans (b2.mono hsz), r2.mono (by omega)⟩
theorem below_set {B : Nat} {a w : World} (h : Below B a w) (k o : Nat) (hk : B ≤ k) (u : Value) : Below B a (w.setCell ⟨k, o, none⟩ u) := h.setCell hk u
/-- A row that lies in block k. -/
def RowAt (w : World) (k : Nat) (id d : Int) (t : ByteArray) : Prop :=
  (w.cell? ⟨k, 0, none⟩ = some (.int .i64 id) ∧ w.cell? ⟨k, 1, none⟩ = some (.int .i64 d) ∧ w.cell? ⟨k, 2, none⟩ = some (.string t)) ∧ w.frozen? ⟨k, 0, none⟩ = false ∧ w.frozen? ⟨k, 1, none⟩ = false ∧ w.frozen? ⟨k, 2, none⟩ = false
theorem RowAt.new (w : World) (id d : Int) (t : ByteArray) : RowAt (w.alloc (.cells #[.int .i64 id, .int .i64 d, .string t] 32)) w.heap.size id d t := by
  refine ⟨⟨?_, ?_, ?_⟩, ?_, ?_, ?_⟩ <;> simp [go_sem]
theorem RowAt.below {w w' : World} {k B : Nat} {id d : Int} {t : ByteArray} (h : RowAt w k id d t) (hb : Below B w w') (hk : k < B) : RowAt w' k id d t := by
  unfold RowAt
  rw [hb.cell hk, hb.cell hk, hb.cell hk, hb.frozen hk, hb.frozen hk, hb.frozen hk]; exact h
theorem RowAt.but {w w' : World} {k b B : Nat} {id d : Int} {t : ByteArray} (h : RowAt w k id d t) (hb : But b B w w') (hk : k < B) (hkb : k ≠ b) : RowAt w' k id d t := by
  unfold RowAt
  rw [hb.cell hk hkb, hb.cell hk hkb, hb.cell hk hkb, hb.frozen hk hkb, hb.frozen hk hkb, hb.frozen hk hkb]; exact h
def DrewRow (w : World) (e : Ending) (w' : World) : Prop := ∃ (id d : Int) (t : ByteArray), -1 ≤ id ∧ id ≤ 100 ∧ -1 ≤ d ∧ d ≤ 100 ∧ t.size ≤ 7 ∧ e = .returned (.agg #[.int .i64 id, .int .i64 d, .string t]) ∧ Below w.heap.size w w'
theorem madeI_bd (who n : Int) : 0 ≤ madeI who n ∧ madeI who n ≤ 36 := by
  unfold madeI; split
  · rename_i h; simp [inB] at h; omega
  · omega
theorem drawRowOk_any (a : Option Addr) (len cap : Nat) (w : World) (hb : Bytes w a len cap) :
    Calls Tryd.prog 14 #[.slice a len cap] w (DrewRow w) := by
  obtain ⟨h1, h2, h3⟩ := hb
  go_enter Tryd.func14, Tryd.ntmps14
  go_wp2_with fail
  have al : Below w.heap.size w (w.alloc (.cells #[.int .i64 0, .int .i64 0, .string { data := #[] }] 32)) := (Below.refl _ _).alloc (Nat.le_refl _) _
  refine (l6Open_any w.heap.size _ _ _ _ (by simp) h1 h2 (h3.below al)).mono ?_
  rintro e w1 ⟨rfl, b1, s1, r1⟩
  have hsz : (w.alloc (.cells #[.int .i64 0, .int .i64 0, .string { data := #[] }] 32)).heap.size = w.heap.size + 1 := by simp
  rw [hsz] at s1 r1
  clear hsz
  have g1 : Below (w.heap.size + 1) (w.alloc (.cells #[.int .i64 0, .int .i64 0, .string { data := #[] }] 32)) w1 := b1.mono (by simp)
  clear b1
  go_wp2_with fail
  refine (pick_any _ _ _ _ _ r1 (by omega) (by omega) (by omega)).mono ?_
  rintro e w2 ⟨k2, k20, k21, rfl, b2, s2, r2⟩
  go_wp2_with fail
  refine (pick_any _ _ _ _ _ r2 (by omega) (by omega) (by omega)).mono ?_
  rintro e w3 ⟨k3, k30, k31, rfl, b3, s3, r3⟩
  go_wp2_with fail
  refine (specRowMade_any _ _ _).mono ?_
  rintro e w' ⟨rfl, rfl⟩
  obtain ⟨m1, m2⟩ := madeI_bd (1 + k2) (1 + k3)
  generalize madeI (1 + k2) (1 + k3) = id0 at *
  go_wp2_with fail
  refine (pick_any _ _ _ _ _ r3 (by omega) (by omega) (by omega)).mono ?_
  rintro e w4 ⟨k4, k40, k41, rfl, b4, s4, r4⟩
  go_wp2_with fail
  refine (l71Text_any _ _ _ _ r4 (by omega)).mono ?_
  rintro e w5 ⟨t, ht, rfl, b5, r5⟩
  have f2 : Below (w.heap.size + 1) w1 w2 := b2.below (Nat.le_refl _) (by omega)
  have f3 : Below (w.heap.size + 1) w1 w3 := f2.trans (b3.below (Nat.le_refl _) (by omega))
  have f4 : Below (w.heap.size + 1) w1 w4 := f3.trans (b4.below (Nat.le_refl _) (by omega))
  have f5 : Below (w.heap.size + 1) w1 w5 := f4.trans (b5.below (Nat.le_refl _) (by omega))
  have g5 := g1.trans f5
  have s5 : w.heap.size + 1 < w5.heap.size := by have := b5.size; omega
  clear f2 f3 f4 f5 b2 b3 b4 b5 r1 r2 r3 r4 g1 s1 s2 s3 s4
  have r5 := r5.mono (show _ ≤ 10 by omega)
  have hres := (RowAt.new w 0 0 { data := #[] }).below g5 (by omega)
  have f5 : Below w.heap.size w w5 := al.trans (g5.mono (by omega))
  clear g5 al
  go_wp2_with fail
  have ax : Below w5.heap.size w5 (w5.alloc (.cells #[.int .i64 id0, .int .i64 (1 + k4), .string t] 32)) := (Below.refl _ _).alloc (Nat.le_refl _) _
  have hx := RowAt.new w5 id0 (1 + k4) t
  have hsz : (w5.alloc (.cells #[.int .i64 id0, .int .i64 (1 + k4), .string t] 32)).heap.size = w5.heap.size + 1 := by simp
  refine (pick_any _ _ _ _ _ (r5.below ax s5) (by omega) (by omega) (by omega)).mono ?_
  rintro e w6 ⟨k, k0, k1, rfl, b6, s6, r6⟩
  rw [hsz] at b6 s6
  have hx6 := hx.but b6 (by omega) (by omega)
  have hres6 := (hres.below ax (by omega)).but b6 (by omega) (by omega)
  have f6 : Below w.heap.size w w6 := (f5.trans (ax.mono (by omega))).trans (b6.below (by omega) (by omega))
  clear hres hx f5 ax b6 hsz r5
  generalize w5.heap.size = xb at *
  by_cases e0 : k = 0
  · subst e0
    go_wp2_with fail
    refine (pick_any _ _ _ _ _ r6 (by omega) (by omega) (by omega)).mono ?_
    rintro e w7 ⟨i, i0, i1, rfl, b7, s7, r7⟩
    go_wp2_with fail
    refine (pick_any _ _ _ _ _ r7 (by omega) (by omega) (by omega)).mono ?_
    rintro e w8 ⟨j, j0, j1, rfl, b8, s8, r8⟩
    have f8 : Below w.heap.size w w8 := (f6.trans (b7.below (by omega) (by omega))).trans (b8.below (by omega) (by omega))
    have hx8 := (hx6.but b7 (by omega) (by omega)).but b8 (by omega) (by omega)
    have hres8 := (hres6.but b7 (by omega) (by omega)).but b8 (by omega) (by omega)
    clear hx6 hres6 b7 b8 f6
    obtain ⟨⟨x0, x1, x2⟩, x3, x4, x5⟩ := hx8
    obtain ⟨⟨y0, y1, y2⟩, y3, y4, y5⟩ := hres8
    have hne : xb ≠ w.heap.size := by omega
    have hne2 : w.heap.size ≠ xb := by omega
    go_wp2
    exact bodyPost_ret (v := .agg #[.int .i64 (1 + i), .int .i64 (j), .string { data := #[] }]) (by simp [results, Tryd.results14, go_sem, y0, y1, y2]) rfl ⟨1 + i, j, { data := #[] }, by omega, by omega, by omega, by omega, by first | omega | decide, rfl, by
      repeat (first | refine below_set ?_ _ _ (by omega) _ | with_reducible exact f8)⟩
  · have e0' := beq_eq_false_iff_ne.2 e0
    by_cases e1 : k = 1
    · subst e1
      go_wp2_with fail
      refine (pick_any _ _ _ _ _ r6 (by omega) (by omega) (by omega)).mono ?_
      rintro e w7 ⟨i, i0, i1, rfl, b7, s7, r7⟩
      have f8 : Below w.heap.size w w7 := f6.trans (b7.below (by omega) (by omega))
      have hx8 := hx6.but b7 (by omega) (by omega)
      have hres8 := hres6.but b7 (by omega) (by omega)
      clear hx6 hres6 b7 f6
      obtain ⟨⟨x0, x1, x2⟩, x3, x4, x5⟩ := hx8
      obtain ⟨⟨y0, y1, y2⟩, y3, y4, y5⟩ := hres8
      have hne : xb ≠ w.heap.size := by omega
      have hne2 : w.heap.size ≠ xb := by omega
      go_wp2
      exact bodyPost_ret (v := .agg #[.int .i64 (i), .int .i64 (1 + k4), .string t]) (by simp [results, Tryd.results14, go_sem, y0, y1, y2]) rfl ⟨i, 1 + k4, t, by omega, by omega, by omega, by omega, by first | omega | decide, rfl, by
        repeat (first | refine below_set ?_ _ _ (by omega) _ | with_reducible exact f8)⟩
    · have e1' := beq_eq_false_iff_ne.2 e1
      by_cases e2 : k = 2
      · subst e2
        go_wp2_with fail
        have ax : Below w6.heap.size w6 (w6.alloc (.cells #[.int .i64 0, .int .i64 (-1), .int .i64 18, .int .i64 19] 3)) := (Below.refl _ _).alloc (Nat.le_refl _) _
        have hsz : (w6.alloc (.cells #[.int .i64 0, .int .i64 (-1), .int .i64 18, .int .i64 19] 3)).heap.size = w6.heap.size + 1 := by simp
        refine (pick_any _ _ _ _ _ (r6.below ax (by omega)) (by omega) (by omega) (by omega)).mono ?_
        rintro e w7 ⟨i, i0, i1, rfl, b7, s7, r7⟩
        rw [hsz] at b7 s7
        have f8 : Below w.heap.size w w7 := (f6.trans (ax.mono (by omega))).trans (b7.below (by omega) (by omega))
        have hx8 := (hx6.below ax (by omega)).but b7 (by omega) (by omega)
        have hres8 := (hres6.below ax (by omega)).but b7 (by omega) (by omega)
        have c : ∀ o, w7.cell? ⟨w6.heap.size, o, none⟩ = (w6.alloc (.cells #[.int .i64 0, .int .i64 (-1), .int .i64 18, .int .i64 19] 3)).cell? ⟨w6.heap.size, o, none⟩ := fun o => b7.cell (p := ⟨w6.heap.size, o, none⟩) (by show w6.heap.size < _; omega) (by show w6.heap.size ≠ _; omega)
        have c0 : w7.cell? ⟨w6.heap.size, 0, none⟩ = some (.int .i64 0) := by rw [c]; simp [go_sem]
        have c1 : w7.cell? ⟨w6.heap.size, 1, none⟩ = some (.int .i64 (-1)) := by rw [c]; simp [go_sem]
        have c2 : w7.cell? ⟨w6.heap.size, 2, none⟩ = some (.int .i64 18) := by rw [c]; simp [go_sem]
        have c3 : w7.cell? ⟨w6.heap.size, 3, none⟩ = some (.int .i64 19) := by rw [c]; simp [go_sem]
        clear hx6 hres6 b7 f6 ax c hsz r7 e1' e0'
        obtain ⟨⟨x0, x1, x2⟩, x3, x4, x5⟩ := hx8
        obtain ⟨⟨y0, y1, y2⟩, y3, y4, y5⟩ := hres8
        have hne : xb ≠ w.heap.size := by omega
        have hne2 : w.heap.size ≠ xb := by omega
        obtain rfl | rfl | rfl | rfl : i = 0 ∨ i = 1 ∨ i = 2 ∨ i = 3 := by omega
        · go_wp2
          exact bodyPost_ret (v := .agg #[.int .i64 id0, .int .i64 (0), .string t]) (by simp [results, Tryd.results14, go_sem, y0, y1, y2]) rfl ⟨id0, 0, t, by omega, by omega, by omega, by omega, by omega, rfl, by
            repeat (first | refine below_set ?_ _ _ (by omega) _ | with_reducible exact f8)⟩
        · go_wp2
          exact bodyPost_ret (v := .agg #[.int .i64 id0, .int .i64 (-1), .string t]) (by simp [results, Tryd.results14, go_sem, y0, y1, y2]) rfl ⟨id0, -1, t, by omega, by omega, by omega, by omega, by omega, rfl, by
            repeat (first | refine below_set ?_ _ _ (by omega) _ | with_reducible exact f8)⟩
        · go_wp2
          exact bodyPost_ret (v := .agg #[.int .i64 id0, .int .i64 (18), .string t]) (by simp [results, Tryd.results14, go_sem, y0, y1, y2]) rfl ⟨id0, 18, t, by omega, by omega, by omega, by omega, by omega, rfl, by
            repeat (first | refine below_set ?_ _ _ (by omega) _ | with_reducible exact f8)⟩
        · go_wp2
          exact bodyPost_ret (v := .agg #[.int .i64 id0, .int .i64 (19), .string t]) (by simp [results, Tryd.results14, go_sem, y0, y1, y2]) rfl ⟨id0, 19, t, by omega, by omega, by omega, by omega, by omega, rfl, by
            repeat (first | refine below_set ?_ _ _ (by omega) _ | with_reducible exact f8)⟩
      · have e2' := beq_eq_false_iff_ne.2 e2
        clear e0 e1 e2
        obtain ⟨⟨x0, x1, x2⟩, x3, x4, x5⟩ := hx6
        obtain ⟨⟨y0, y1, y2⟩, y3, y4, y5⟩ := hres6
        have hne : xb ≠ w.heap.size := by omega
        have hne2 : w.heap.size ≠ xb := by omega
        go_wp2
        exact bodyPost_ret (v := .agg #[.int .i64 (id0), .int .i64 (1 + k4), .string t]) (by simp [results, Tryd.results14, go_sem, y0, y1, y2]) rfl ⟨id0, 1 + k4, t, by omega, by omega, by omega, by omega, by first | omega | decide, rfl, by
          repeat (first | refine below_set ?_ _ _ (by omega) _ | with_reducible exact f6)⟩
theorem rowB_e (id d : Int) : rowB id d { data := #[101] } = false := by
  have h1 : textB { data := #[101] } = false := by decide +kernel
  have h2 : (ByteArray.mk #[101]).toList.isEmpty = false := by decide +kernel
  unfold rowB
  rw [h1, h2]
  simp
theorem rowB_cases (id d : Int) (t : ByteArray) (h : rowB id d t = true) : (rootB id = true ∧ (d == 0) = true ∧ t.toList.isEmpty = true) ∨ (madeB id = true ∧ 1 ≤ d ∧ d ≤ 18) := by
  unfold rowB at h
  split at h
  · rename_i hr; simp only [Bool.and_eq_true] at h; exact .inl ⟨hr, h.1, h.2⟩
  · simp only [Bool.and_eq_true] at h; have := (inB_iff _ _ _).1 h.1.2; exact .inr ⟨h.1.1, this.1, this.2⟩

theorem fnRowForm_walk (w : World) (ht : Tab w) (a0 : Option Addr) (len0 cap0 : Nat) (b0 : Bytes w a0 len0 cap0) :
    Calls Tryd.prog 5 #[.slice a0 len0 cap0] w fun e w' => e = .returned (.bool true) ∧ Below w.heap.size w w' := by
  have hz := ht.pos
  have hm := b0.2.2.1
  unfold maxLen at hm
  by_cases hlen : (len0 : Int) ≤ 1048576
  · go_enter Tryd.func5, Tryd.ntmps5
    go_wp2_with fail
    refine (drawRowOk_any _ _ _ _ b0).mono ?_
    rintro e w1 ⟨id, d, t, i1, i2, d1, d2, ht7, rfl, f1⟩
    have hI : I64 id := ⟨by omega, by omega⟩
    have hs : t.size ≤ maxLen := by unfold maxLen; omega
    have z1 := f1.size
    have hx := RowAt.new w1 id d t
    have ax : Below w1.heap.size w1 (w1.alloc (.cells #[.int .i64 id, .int .i64 d, .string t] 32)) := (Below.refl _ _).alloc (Nat.le_refl _) _
    have f2 : Below w.heap.size w (w1.alloc (.cells #[.int .i64 id, .int .i64 d, .string t] 32)) := f1.trans (ax.mono z1)
    have hsz : (w1.alloc (.cells #[.int .i64 id, .int .i64 d, .string t] 32)).heap.size = w1.heap.size + 1 := by simp
    clear hm b0
    go_wp2_with fail
    refine (implRowOk_any _ _ _ _ hs (ht.below f2 hz) (by omega)).mono ?_
    rintro e w2 ⟨rfl, b2⟩
    rw [hsz] at b2
    have hx2 := hx.below b2 (by omega)
    have f3 : Below w.heap.size w w2 := f2.trans (b2.mono (by omega))
    have z2 : w1.heap.size + 1 ≤ w2.heap.size := by have := b2.size; omega
    clear hx ax f2 b2 hsz f1
    generalize w1.heap.size = xb at *
    obtain ⟨⟨x0, x1, x2⟩, x3, x4, x5⟩ := hx2
    cases hr : rowB id d t
    · go_wp2_with fail
      refine (specRowOk_any _ _ _ _ hI hs).mono ?_
      rintro e w3 ⟨rfl, b3⟩
      have c0 : w3.cell? ⟨xb, 0, none⟩ = some (.int .i64 id) := by rw [b3.cell (by show xb < _; omega)]; exact x0
      have c1 : w3.cell? ⟨xb, 1, none⟩ = some (.int .i64 d) := by rw [b3.cell (by show xb < _; omega)]; exact x1
      have c2 : w3.cell? ⟨xb, 2, none⟩ = some (.string t) := by rw [b3.cell (by show xb < _; omega)]; exact x2
      have f4 : Below w.heap.size w w3 := f3.trans (b3.mono (by omega))
      clear x0 x1 x2 x3 x4 x5 f3 b3
      go_wp2_with fail
      refine (specRowOk_any _ _ _ _ hI hs).mono ?_
      rintro e w4 ⟨rfl, b4⟩
      have f5 : Below w.heap.size w w4 := f4.trans (b4.mono (f4.size))
      go_wp2
      go_ret
      exact ⟨rfl, f5⟩
    · go_wp2_with fail
      refine (specRowOk_any _ _ _ _ hI hs).mono ?_
      rintro e w3 ⟨rfl, b3⟩
      have c0 : w3.cell? ⟨xb, 0, none⟩ = some (.int .i64 id) := by rw [b3.cell (by show xb < _; omega)]; exact x0
      have c1 : w3.cell? ⟨xb, 1, none⟩ = some (.int .i64 d) := by rw [b3.cell (by show xb < _; omega)]; exact x1
      have c2 : w3.cell? ⟨xb, 2, none⟩ = some (.string t) := by rw [b3.cell (by show xb < _; omega)]; exact x2
      have f4 : Below w.heap.size w w3 := f3.trans (b3.mono (by omega))
      have z3 : xb < w3.heap.size := by have := b3.size; omega
      have ht3 := ht.below f4 hz
      have hc := rowB_cases id d t hr
      have HE := Lib.hid (rowB_e id d)
      have se : (ByteArray.mk #[101]).size ≤ maxLen := by decide +kernel
      clear x0 x1 x2 x3 x4 x5 f3 b3 hs ht7 hI
      have hne : xb ≠ w3.heap.size := by omega
      have hz3 : 0 < w3.heap.size := by omega
      have HX : Below w3.heap.size w3 (w3.alloc (.cells #[.int .i64 id, .int .i64 d, .string { data := #[101] }] 32)) := (Below.refl _ _).alloc (Nat.le_refl _) _
      go_wp2_with fail
      refine (implRowWho_any _ _ ht3).mono ?_
      rintro e w' ⟨rfl, rfl⟩
      rcases hc with ⟨hc1, hc2, hc3⟩ | ⟨hc1, hc2, hc3⟩
      · obtain ⟨e1, e2⟩ := who_root id hc1
        rw [e1, e2]; clear e1 e2 hc1
        go_wp2_with fail
        refine (implRowOk_any _ _ _ _ se (ht3.below HX hz3) (Nat.lt_of_lt_of_le hz3 HX.size)).mono ?_
        rintro e w4 ⟨rfl, b4⟩
        rw [HE.out]
        go_wp2
        go_ret
        exact ⟨rfl, (f4.trans (HX.mono f4.size)).trans (b4.mono (by simp; have := f4.size; omega))⟩
      · obtain ⟨e1, e2⟩ := who_made id hc1
        have hw0 : 0 < whoI id := by have := (madeB_iff _).1 hc1; simp [whoI, hc1]; omega
        have hd0 : (d == 0) = false := by rw [beq_eq_false_iff_ne]; omega
        rw [e2]; clear e2 hc1
        go_wp2_with fail
        refine (implRowOk_any _ _ _ _ se (ht3.below HX hz3) (Nat.lt_of_lt_of_le hz3 HX.size)).mono ?_
        rintro e w4 ⟨rfl, b4⟩
        rw [HE.out]
        go_wp2
        go_ret
        exact ⟨rfl, (f4.trans (HX.mono f4.size)).trans (b4.mono (by simp; have := f4.size; omega))⟩
  · go_enter Tryd.func5, Tryd.ntmps5
    go_wp2
    go_ret
    exact ⟨rfl, Below.refl _ _⟩
end Go.Proofs.YthpkahacnipokaaDoor
