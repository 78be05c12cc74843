/-
  The model's drawing of an outline and a row: l71Row. Conditions: as each theorem says.
-/
import Derived.Test.YtiigkjpabbgnpaaDoorDTree2
import Derived.Deep.RegionWith
namespace Go.Proofs.YtiigkjpabbgnpaaDoor
open Go.ChangeShapes Go.WideShapes Go.ChangeAt Go.RowKit Go.Joins

theorem Loose.but {base b : Nat} {w w' : World} {a : Option Addr} {cap : Nat} {rs : List RowD} (h : Loose base w a cap rs) (hb : But b w.heap.size w w') (hlt : b < base) : Loose base w' a cap rs := by
  obtain ⟨g, off, rfl, h1, h2, h3, h4, h5⟩ := h
  have hs := hb.size
  refine ⟨g, off, rfl, h1, by omega, ?_, fun o => by rw [hb.frozen (p := ⟨g, o, none⟩) h2 (show g ≠ b by omega)]; exact h4 o, h5⟩
  rcases h3 with h3 | ⟨b', off', e, hB, hc⟩
  · exact .inl h3
  · cases e
    refine .inr ⟨g, off, rfl, by omega, fun i hi => ?_⟩
    rw [hb.cell (p := ⟨g, _, none⟩) h2 (show g ≠ b by omega), hb.cell (p := ⟨g, _, none⟩) h2 (show g ≠ b by omega), hb.cell (p := ⟨g, _, none⟩) h2 (show g ≠ b by omega)]
    exact hc i hi
theorem Loose.base {base base' : Nat} {w : World} {a : Option Addr} {cap : Nat} {rs : List RowD} (h : Loose base' w a cap rs) (hb : base ≤ base') : Loose base w a cap rs := by
  obtain ⟨g, off, rfl, h1, h2⟩ := h
  exact ⟨g, off, rfl, Nat.le_trans hb h1, h2⟩
theorem Loose.below {base : Nat} {w w' : World} {a : Option Addr} {cap : Nat} {rs : List RowD} (h : Loose base w a cap rs) (hb : Below w.heap.size w w') : Loose base w' a cap rs := by
  obtain ⟨g, off, rfl, h1, h2, h3, h4, h5⟩ := h
  have hs := hb.size
  exact ⟨g, off, rfl, h1, by omega, (h3.below hb).mono hs, fun o => by rw [hb.frozen (p := ⟨g, o, none⟩) h2]; exact h4 o, h5⟩
theorem Loose.rows {base : Nat} {w : World} {a : Option Addr} {cap : Nat} {rs : List RowD} (h : Loose base w a cap rs) : RowsAt w.heap.size w a rs := by
  obtain ⟨g, off, rfl, h1, h2, h3, h4, h5⟩ := h
  exact h3
theorem Loose.len {base : Nat} {w : World} {a : Option Addr} {cap : Nat} {rs : List RowD} (h : Loose base w a cap rs) : 2 ≤ rs.length ∧ rs.length ≤ 15 := by
  obtain ⟨g, off, rfl, h1, h2, h3, h4, h5, h6, _⟩ := h
  exact ⟨h5, h6⟩
theorem Loose.bd {base : Nat} {w : World} {a : Option Addr} {cap : Nat} {rs : List RowD} (h : Loose base w a cap rs) : ∀ r ∈ rs, Bd 20 r := by
  obtain ⟨g, off, rfl, h1, h2, h3, h4, h5, h6, h7, _⟩ := h
  exact h7
theorem Loose.cap {base : Nat} {w : World} {a : Option Addr} {cap : Nat} {rs : List RowD} (h : Loose base w a cap rs) : rs.length ≤ cap ∧ cap ≤ maxLen := by
  obtain ⟨g, off, rfl, h1, h2, h3, h4, h5, h6, h7, h8, h9⟩ := h
  exact ⟨h8, h9⟩
theorem Loose.fit {base : Nat} {w : World} {a : Option Addr} {cap : Nat} {rs : List RowD} (h : Loose base w a cap rs) : Fit rs := bd_fit (k := 20) (by omega) (by have := h.len; omega) h.bd
theorem Loose.small {base : Nat} {w : World} {a : Option Addr} {cap : Nat} {rs : List RowD} (h : Loose base w a cap rs) : SmallDep rs := bd_small (k := 20) (by omega) h.bd
/-- What holds while rows are drawn. -/
def Hunt (N b p base : Nat) (w0 w : World) (a : Option Addr) (cap : Nat) (rs : List RowD) : Prop :=
  Loose base w a cap rs ∧ But b base w0 w ∧ Rd N w b p ∧ b < base ∧ base ≤ w.heap.size
theorem Hunt.more {N b p q base : Nat} {w0 w w' : World} {a : Option Addr} {cap : Nat} {rs : List RowD} (h : Hunt N b p base w0 w a cap rs) (hb : But b w.heap.size w w') (hr : Rd N w' b q) : Hunt N b q base w0 w' a cap rs := by
  obtain ⟨h1, h2, h3, h4, h5⟩ := h
  exact ⟨h1.but hb h4, h2.trans (hb.mono h5), hr, h4, Nat.le_trans h5 hb.size⟩
theorem Hunt.below {N b p base : Nat} {w0 w w' : World} {a : Option Addr} {cap : Nat} {rs : List RowD} (h : Hunt N b p base w0 w a cap rs) (hb : Below w.heap.size w w') : Hunt N b p base w0 w' a cap rs := by
  obtain ⟨h1, h2, h3, h4, h5⟩ := h
  exact ⟨h1.below hb, h2.trans ((But.of_below hb).mono h5), h3.below hb h3.2.1, h4, Nat.le_trans h5 hb.size⟩
theorem Hunt.rd {N b p q base : Nat} {w0 w : World} {a : Option Addr} {cap : Nat} {rs : List RowD} (h : Hunt N b p base w0 w a cap rs) (hq : p ≤ q) : Hunt N b q base w0 w a cap rs := by
  obtain ⟨h1, h2, h3, h4, h5⟩ := h
  exact ⟨h1, h2, h3.mono hq, h4, h5⟩
theorem Hunt.anew {N b p q base : Nat} {w0 w w' : World} {a a' : Option Addr} {cap cap' : Nat} {rs rs' : List RowD} (h : Hunt N b p base w0 w a cap rs) (hl : Loose w.heap.size w' a' cap' rs') (hb : But b w.heap.size w w') (hr : Rd N w' b q) : Hunt N b q base w0 w' a' cap' rs' := by
  obtain ⟨h1, h2, h3, h4, h5⟩ := h
  exact ⟨hl.base h5, h2.trans (hb.mono h5), hr, h4, Nat.le_trans h5 hb.size⟩
/-- An outline and a row were drawn. -/
def DrewRow (N b p : Nat) (w : World) (e : Ending) (w' : World) : Prop :=
  ∃ (a : Option Addr) (cap : Nat) (rs : List RowD) (z : Int), e = .returned (.tuple #[.slice a rs.length cap, .int .i64 z]) ∧ 0 ≤ z ∧ z ≤ 99 ∧ Loose w.heap.size w' a cap rs ∧ But b w.heap.size w w' ∧ Rd N w' b p
theorem Hunt.drew {N b p q : Nat} {w w' : World} {a : Option Addr} {cap : Nat} {rs : List RowD} (h : Hunt N b p w.heap.size w w' a cap rs) (hq : p ≤ q) (z : Int) (z0 : 0 ≤ z) (z1 : z ≤ 99) : DrewRow N b q w (.returned (.tuple #[.slice a rs.length cap, .int .i64 z])) w' := by
  obtain ⟨h1, h2, h3, h4, h5⟩ := h
  exact ⟨a, cap, rs, z, rfl, z0, z1, h1, h2, h3.mono hq⟩
theorem five (w : World) (z : Int) (z0 : 0 ≤ z) (z1 : z ≤ 99) (i : Nat) (hi : i < 5) : ∃ v : Int, 0 ≤ v ∧ v ≤ 99 ∧ (w.alloc (.cells #[.int .i64 1, .int .i64 2, .int .i64 3, .int .i64 z, .int .i64 0] 3)).cell? ⟨w.heap.size, i, none⟩ = some (.int .i64 v) := by
  obtain rfl | rfl | rfl | rfl | rfl : i = 0 ∨ i = 1 ∨ i = 2 ∨ i = 3 ∨ i = 4 := by omega
  · exact ⟨1, by omega, by omega, by simp [go_sem]⟩
  · exact ⟨2, by omega, by omega, by simp [go_sem]⟩
  · exact ⟨3, by omega, by omega, by simp [go_sem]⟩
  · exact ⟨z, z0, z1, by simp [go_sem]⟩
  · exact ⟨0, by omega, by omega, by simp [go_sem]⟩
theorem five_later {b : Nat} {w w' : World} (z : Int) (z0 : 0 ≤ z) (z1 : z ≤ 99) (hb : But b (w.alloc (.cells #[.int .i64 1, .int .i64 2, .int .i64 3, .int .i64 z, .int .i64 0] 3)).heap.size (w.alloc (.cells #[.int .i64 1, .int .i64 2, .int .i64 3, .int .i64 z, .int .i64 0] 3)) w') (hbw : b < w.heap.size) (i : Nat) (hi : i < 5) : ∃ v : Int, 0 ≤ v ∧ v ≤ 99 ∧ w'.cell? ⟨w.heap.size, i, none⟩ = some (.int .i64 v) := by
  obtain ⟨v, v0, v1, hv⟩ := five w z z0 z1 i hi
  exact ⟨v, v0, v1, by rw [hb.cell (p := ⟨w.heap.size, i, none⟩) (by simp) (show w.heap.size ≠ b by omega)]; exact hv⟩
set_option maxRecDepth 100000 in
set_option maxHeartbeats 4000000 in
theorem l71Row_any (N b p : Nat) (w : World) (hr : Rd N w b p) (hp : p < 90000) :
    Calls Tryd.prog 39 #[.pointer (some ⟨b, 0, none⟩)] w (DrewRow N b (p + 3000) w) := by
  have hbw := hr.2.1
  go_enter Tryd.func39, Tryd.ntmps39
  go_wp2_with fail
  refine (l71Tree_any _ _ _ _ hr (by omega)).mono ?_
  rintro e w1 ⟨a1, cap1, rs1, rfl, l1, b1, r1⟩
  have hH0 : Hunt N b (p + 300) w.heap.size w w1 a1 cap1 rs1 := ⟨l1, b1, r1, hbw, b1.size⟩
  clear l1 b1 r1
  go_wp2_with fail
  go_loopw [4, 5] (fun t i wr => ∃ (k : Nat) (a : Option Addr) (cap : Nat) (rs : List RowD), k ≤ 6 ∧ i = .int .i64 k ∧ t = .slice a rs.length cap ∧ Hunt N b (p + 300 + 400 * k) w.heap.size w wr a cap rs) (fun _ i _ => 6 - (intOf i).toNat)
  case atStart => exact ⟨0, _, _, rs1, by omega, rfl, rfl, hH0⟩
  case round =>
    obtain ⟨k, a, cap, rs, hk, rfl, rfl, hH⟩ := hrel
    clear hH0
    have hlen := hH.1.len
    go_upto_region 3 with fail
    go_cut [15] (fun s wx => ∃ c : Bool, s = .bool c ∧ (c = true → k < 6) ∧ Hunt N b (p + 301 + 400 * k) w.heap.size w wx a cap rs)
    case first =>
      by_cases h6 : k < 6
      · have h6' : (k : Int) < 6 := by omega
        go_wp2_with fail
        refine (pick_any _ _ _ _ _ hH.2.2.1 (by omega) (by omega) (by omega)).mono ?_
        rintro e w2 ⟨q, q0, q1, rfl, b2, s2, r2⟩
        have hH2 := hH.more b2 r2
        go_wp2_with fail
        go_meet
        exact ⟨_, rfl, fun _ => h6, hH2.rd (by omega)⟩
      · have h6' : ¬ (k : Int) < 6 := by omega
        go_wp2_with fail
        go_meet
        exact ⟨false, by first | rfl | simp | (simp; omega), fun h => by simp at h, hH.rd (by omega)⟩
    case rest =>
      obtain ⟨c, rfl, hc, hH2⟩ := hcut
      clear hH
      cases c
      · clear hc
        go_upto_region 10 with fail
        have hHd : Hunt N b (p + 301 + 400 * k) w.heap.size w wc.drew a cap rs := hH2.below ⟨rfl, rfl, rfl, Nat.le_refl _, fun _ _ => rfl⟩
        clear hH2
        go_region_with (first | (go_at_call 48; refine (l71Id_any _ _ _ _ hHd.2.2.1 (by omega)).mono ?_; rintro e w3 ⟨z, z0, z1, rfl, b3, r3⟩) | (go_at_call 33; refine (pick_any _ _ _ _ _ r3 (by omega) (by omega) (by omega)).mono ?_; rintro e w4 ⟨q, q0, q1, rfl, b4, s4, r4⟩; obtain ⟨i, rfl⟩ := Int.eq_ofNat_of_zero_le q0; obtain ⟨v, v0, v1, hv⟩ := five w4 z (by omega) (by omega) i (by omega)) | (go_at_call 33; refine (pick_any _ _ _ _ _ (r3.below ((Below.refl _ _).alloc (Nat.le_refl _) _) r3.2.1) (by omega) (by omega) (by omega)).mono ?_; rintro e w4 ⟨q, q0, q1, rfl, b4, s4, r4⟩; obtain ⟨i, rfl⟩ := Int.eq_ofNat_of_zero_le q0; obtain ⟨v, v0, v1, hv⟩ := five_later z (by omega) (by omega) b4 r3.2.1 i (by omega)))
        · have HF := Lib.hid ((((hHd.more b3 r3).below ((Below.refl _ _).alloc (Nat.le_refl _) _)).more b4 r4).drew (q := p + 3000) (by omega) v v0 v1)
          go_wp2
          go_ret2
          exact HF.out
        · have HF := Lib.hid ((((hHd.more b3 r3).more b4 r4).below ((Below.refl _ _).alloc (Nat.le_refl _) (.cells #[.int .i64 1, .int .i64 2, .int .i64 3, .int .i64 z, .int .i64 0] 3))).drew (q := p + 3000) (by omega) v v0 v1)
          go_wp2
          go_ret2
          exact HF.out
      · have h6 := hc rfl
        clear hc
        go_wp2_with fail
        refine (pick_any _ _ _ _ _ hH2.2.2.1 (by omega) (by omega) (by omega)).mono ?_
        rintro e w3 ⟨q, q0, q1, rfl, b3, s3, r3⟩
        obtain ⟨i, rfl⟩ := Int.eq_ofNat_of_zero_le q0
        have hH3 := hH2.more b3 r3
        clear hH2 b3 s3 r3
        have hbd := hH3.1.bd _ (rat_mem (show i < rs.length by omega))
        obtain ⟨g, off, rfl, hg, c0, c1, c2⟩ := hH3.1.rows.at_ (show i < rs.length by omega)
        have z0 := hbd.1
        have z1 := hbd.2.1
        clear hbd
        generalize (rat rs i).id = z at *
        go_wp2_with fail
        refine (l1Made_any _ _ ⟨by omega, by omega⟩).mono ?_
        rintro e w4 ⟨rfl, rfl⟩
        cases hmb : madeB z
        · by_cases k3 : k = 3
          · subst k3
            go_wp2_with fail
            refine (l71Tree_any _ _ _ _ hH3.2.2.1 (by omega)).mono ?_
            rintro e w5 ⟨a5, cap5, rs5, rfl, l5, b5, r5⟩
            have hH5 := hH3.anew l5 b5 r5
            clear hH3 l5 b5 r5 c0 c1 c2
            go_wp2
            go_roundw
            case rel => exact ⟨4, _, _, rs5, by omega, by go_num, rfl, hH5.rd (by omega)⟩
            case measure => simp [intOf]
          · have k3' : ¬ (k : Int) = 3 := by omega
            go_wp2
            go_roundw
            case rel => exact ⟨k + 1, _, _, rs, by omega, by go_num, rfl, hH3.rd (by omega)⟩
            case measure => simp [intOf]; omega
        · have HF := Lib.hid (hH3.drew (q := p + 3000) (by omega) z z0 z1)
          go_wp2
          go_ret2
          exact HF.out
end Go.Proofs.YtiigkjpabbgnpaaDoor
