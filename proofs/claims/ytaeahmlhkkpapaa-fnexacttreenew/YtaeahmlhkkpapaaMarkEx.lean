/-
  The laws' own helpers markText, markRowS and heldRowS, exactly: what is marked is held. Conditions: as each theorem says.
-/
import Derived.Test.YtaeahmlhkkpapaaMarkRows
namespace Go.Proofs.Ytaeahmlhkkpapaa
open Go.ChangeShapes Go.WideShapes Go.ChangeAt Go.RowKit Go.Joins

/-- The decimal digits of k ahead of s. -/
def dg : Nat → Nat → ByteArray → ByteArray
  | 0, _, s => s
  | f + 1, k, s => if k = 0 then s else dg f (k / 10) (⟨#[48 + UInt8.ofNat (k % 10)]⟩ ++ s)
theorem dg_zero (f : Nat) (s : ByteArray) : dg f 0 s = s := by cases f <;> simp [dg]
theorem dg_fuel : ∀ (f f' k : Nat) (s : ByteArray), k ≤ f → k ≤ f' → dg f k s = dg f' k s := by
  intro f
  induction f with
  | zero => intro f' k s h _; obtain rfl : k = 0 := by omega
            rw [dg_zero, dg_zero]
  | succ f ih =>
    intro f' k s h h'
    cases f' with
    | zero => obtain rfl : k = 0 := by omega
              rw [dg_zero, dg_zero]
    | succ f' =>
      unfold dg
      by_cases e : k = 0
      · simp [e]
      · rw [if_neg e, if_neg e]; exact ih _ _ _ (by omega) (by omega)
theorem dg_step {j : Nat} (s : ByteArray) (h : 0 < j) : dg j j s = dg (j / 10) (j / 10) (⟨#[48 + UInt8.ofNat (j % 10)]⟩ ++ s) := by
  obtain ⟨n, rfl⟩ : ∃ n, j = n + 1 := ⟨j - 1, by omega⟩
  rw [dg, if_neg (by omega)]
  exact dg_fuel _ _ _ _ (by omega) (Nat.le_refl _)
/-- The text that markText gives. -/
def mtB (k : Nat) : ByteArray := if k = 0 then ⟨#[109, 48]⟩ else ⟨#[109]⟩ ++ dg k k ⟨#[]⟩
def RetMark (k : Nat) (w : World) (e : Ending) (w' : World) : Prop := e = .returned (.string (mtB k)) ∧ Below w.heap.size w w'
set_option maxRecDepth 100000 in
set_option maxHeartbeats 1000000 in
theorem markText_ex (k : Nat) (w : World) (hk : k ≤ 10000000) :
    Calls Try.prog 10 #[.int .i64 k] w (RetMark k w) := by
  by_cases h0 : k = 0
  · subst h0
    go_enter Try.func10, Try.ntmps10
    go_wp2_with fail
    go_ret
    exact ⟨rfl, Below.refl _ _⟩
  · have hkp : ¬ (k : Int) ≤ 0 := by omega
    have HM : Hid (mtB k = ⟨#[109]⟩ ++ dg k k ⟨#[]⟩) := by unfold mtB; rw [if_neg h0]; rfl
    go_enter Try.func10, Try.ntmps10
    go_wp2_with fail
    go_loopw [0, 3] (fun q s wr => ∃ (j : Nat) (str : ByteArray), j ≤ k ∧ q = .int .i64 j ∧ s = .string str ∧ str.size + j ≤ k ∧ Hid (dg j j str = dg k k ⟨#[]⟩) ∧ Below w.heap.size w wr) (fun q _ _ => (intOf q).toNat)
    case atStart => exact ⟨k, _, Nat.le_refl _, rfl, rfl, by show 0 + k ≤ k; omega, rfl, Below.refl _ _⟩
    case round =>
      obtain ⟨j, str, hj, rfl, rfl, hs, hd, hb⟩ := hrel
      by_cases hj0 : 0 < j
      · have j1 : (0 : Int) < (j : Int) := by omega
        have m0 : 0 ≤ (j : Int) % 10 := by omega
        have m1 : (j : Int) % 10 < 10 := by omega
        have hcv := conv_one wr ((48 : Int) + (j : Int) % 10) (by omega) (by omega)
        have HD : Hid (dg (j / 10) (j / 10) (⟨#[48 + UInt8.ofNat (j % 10)]⟩ ++ str) = dg k k ⟨#[]⟩) := by
          rw [← dg_step str hj0]; exact hd.out
        clear hd
        go_wp2
        go_roundw
        case rel => exact ⟨j / 10, _, by omega, by go_num, rfl, by rw [ByteArray.size_append, size_one]; omega, HD, hb.alloc hb.size _⟩
        case measure => simp [intOf]; omega
      · obtain rfl : j = 0 := by omega
        go_wp2
        go_ret
        exact ⟨by rw [HM.out, ← hd.out]; rfl, hb⟩

/-! ### markRowS, heldRowS -/
def mrow (i : Nat) : RowD := ⟨(i : Int) * 3 + 1, (i : Int) * 3 + 2, mtB (i * 3 + 3)⟩
def mrows (n : Nat) : List RowD := (List.range n).map mrow
theorem mrows_len (n : Nat) : (mrows n).length = n := by simp [mrows]
theorem mrows_at {n i : Nat} (h : i < n) : rat (mrows n) i = mrow i := by simp [rat, mrows, List.getD_eq_getElem?_getD, h]
def MarkedEx (g n : Nat) (w : World) (e : Ending) (w' : World) : Prop := e = .returned (.int .i64 ((n : Int) * 3 + 1)) ∧ OwnRows w' g (mrows n) ∧ But g w.heap.size w w'
theorem mf_set {f : Nat → Value} {n k : Nat} (hk : k < n) (h : RowsF f (mrows n) k) :
    RowsF (fun j => if j = k * 3 + 2 then .string (mtB (k * 3 + 3)) else if j = k * 3 + 1 then .int .i64 ((k : Int) * 3 + 1 + 1) else if j = k * 3 then .int .i64 ((k : Int) * 3 + 1) else f j) (mrows n) (k + 1) := by
  have := rowsF_set h
  rw [mrows_at hk] at this
  have e : (k : Int) * 3 + 1 + 1 = (k : Int) * 3 + 2 := by omega
  rw [e]
  exact this
set_option maxHeartbeats 1000000 in
theorem markRowS_ex (g cap : Nat) (rs : List RowD) (w : World) (h : OwnRows w g rs) (hl : rs.length ≤ 1048576) :
    Calls Try.prog 7 #[.slice (some ⟨g, 0, none⟩) rs.length cap, .int .i64 1] w (MarkedEx g rs.length w) := by
  obtain ⟨f0, hf0, _⟩ := h
  go_enter Try.func7, Try.ntmps7
  go_wp2_with fail
  go_loopw [1, 5] (fun m t wr => ∃ (k : Nat) (f : Nat → Value), k ≤ rs.length ∧ t = .int .i64 k ∧ m = .int .i64 ((k : Int) * 3 + 1) ∧ wr.rowIs g 28 (rs.length * 3) f ∧ Hid (RowsF f (mrows rs.length) k) ∧ But g w.heap.size w wr) (fun _ t _ => rs.length - (intOf t).toNat)
  case atStart => exact ⟨0, f0, Nat.zero_le _, rfl, rfl, hf0, fun i hi => by omega, But.refl _ _ _⟩
  case round =>
    obtain ⟨k, f, hk, rfl, rfl, hrow, hF, hb⟩ := hrel
    have hgw := hrow.lt
    by_cases hlt : k < rs.length
    · have i1 : (k : Int) < (rs.length : Int) := by omega
      have HF := Lib.hid (mf_set hlt hF.out)
      clear hF
      have d0 := hrow.cell (show k * 3 < _ by omega)
      have d1 := hrow.cell (show k * 3 + 1 < _ by omega)
      have z0 := hrow.frozen (k * 3)
      have z1 := hrow.frozen (k * 3 + 1)
      generalize f (k * 3) = v0 at d0
      generalize f (k * 3 + 1) = v1 at d1
      have HB : But g w.heap.size w ((wr.setCell ⟨g, k * 3, none⟩ (.int .i64 ((k : Int) * 3 + 1))).setCell ⟨g, k * 3 + 1, none⟩ (.int .i64 ((k : Int) * 3 + 1 + 1))) := (hb.setCell (k * 3) _).setCell (k * 3 + 1) _
      have HR := (hrow.set (k * 3) (.int .i64 ((k : Int) * 3 + 1))).set (k * 3 + 1) (.int .i64 ((k : Int) * 3 + 1 + 1))
      have hsz : ((wr.setCell ⟨g, k * 3, none⟩ (.int .i64 ((k : Int) * 3 + 1))).setCell ⟨g, k * 3 + 1, none⟩ (.int .i64 ((k : Int) * 3 + 1 + 1))).heap.size = wr.heap.size := by simp [World.setCell]
      go_wp2_with fail
      have hm := markText_ex (k * 3 + 3) ((wr.setCell ⟨g, k * 3, none⟩ (.int .i64 ((k : Int) * 3 + 1))).setCell ⟨g, k * 3 + 1, none⟩ (.int .i64 ((k : Int) * 3 + 1 + 1))) (by omega)
      rw [show (((k * 3 + 3 : Nat) : Int)) = (k : Int) * 3 + 1 + 1 + 1 by omega] at hm
      refine hm.mono ?_
      clear hm
      rintro e w1 ⟨rfl, hb1⟩
      rw [hsz] at hb1
      have hrow1 := HR.of_block (hb1.block g hgw)
      have hbw1 : But g w.heap.size w w1 := HB.trans ((But.of_below hb1).mono hb.size)
      have d2 := hrow1.cell (show k * 3 + 2 < _ by omega)
      have z2 := hrow1.frozen (k * 3 + 2)
      generalize hmt : mtB (k * 3 + 3) = mt at *
      clear HR HB hb1 hsz d0 d1 z0 z1 hmt
      go_wp2
      go_roundw
      case rel => exact ⟨k + 1, _, by omega, by go_num, congrArg (Value.int .i64) (by omega), hrow1.set (k * 3 + 2) _, HF, hbw1.setCell (k * 3 + 2) _⟩
      case measure => simp [intOf]; omega
    · obtain rfl : k = rs.length := by omega
      go_wp2
      go_ret
      exact ⟨rfl, ⟨f, by rw [mrows_len]; exact hrow, by rw [mrows_len]; exact hF.out⟩, hb⟩
def RetHeld (n : Nat) (w : World) (e : Ending) (w' : World) : Prop := e = .returned (.int .i64 ((n : Int) * 3 + 1)) ∧ Below w.heap.size w w'
set_option maxHeartbeats 1000000 in
theorem heldRowS_ex (B : Nat) (a : Option Addr) (cap n : Nat) (w : World) (hB : B ≤ w.heap.size) (h : RowsAt B w a (mrows n)) (hl : n ≤ 1048576) :
    Calls Try.prog 8 #[.slice a n cap, .int .i64 1] w (RetHeld n w) := by
  go_enter Try.func8, Try.ntmps8
  go_wp2_with fail
  go_loopw [1, 5] (fun m t wr => ∃ k : Nat, k ≤ n ∧ t = .int .i64 k ∧ m = .int .i64 ((k : Int) * 3 + 1) ∧ Below w.heap.size w wr) (fun _ t _ => n - (intOf t).toNat)
  case atStart => exact ⟨0, Nat.zero_le _, rfl, rfl, Below.refl _ _⟩
  case round =>
    obtain ⟨k, hk, rfl, rfl, hb⟩ := hrel
    have hr := h.below (hb.mono hB)
    by_cases hlt : k < n
    · obtain ⟨b, off, rfl, hbB, c0, c1, c2⟩ := hr.at_ (show k < (mrows n).length by rw [mrows_len]; exact hlt)
      rw [mrows_at hlt] at c0 c1 c2
      have c0' : wr.cell? ⟨b, off + k * 3, none⟩ = some (.int .i64 ((k : Int) * 3 + 1)) := c0
      have c1' : wr.cell? ⟨b, off + k * 3 + 1, none⟩ = some (.int .i64 ((k : Int) * 3 + 1 + 1)) := by rw [c1]; show some (Value.int .i64 _) = _; congr 2
      have c2' : wr.cell? ⟨b, off + k * 3 + 2, none⟩ = some (.string (mtB (k * 3 + 3))) := c2
      clear c0 c1 c2
      have i1 : (k : Int) < (n : Int) := by omega
      have hbw : b < wr.heap.size := by have := hb.size; omega
      have HM : Hid (∀ u : World, Calls Try.prog 10 #[.int .i64 ((k : Int) * 3 + 1 + 1 + 1)] u (RetBelow (.string (mtB (k * 3 + 3))) u)) := fun u => by
        have hm := markText_ex (k * 3 + 3) u (by omega)
        rw [show (((k * 3 + 3 : Nat) : Int)) = (k : Int) * 3 + 1 + 1 + 1 by omega] at hm
        exact hm
      have L2 := later_cell c2' hbw
      generalize hmt : mtB (k * 3 + 3) = mt at *
      clear hmt
      go_wp2_with fail
      refine wp_region_later (by kernel_rfl) (by kernel_rfl) ?_
      repeat (go_big_quiet_step ((go_at_call 10; exact later_of (HM.out _))))
      refine wpQuiet_nil ?_
      rintro wn ⟨⟨_, hbn⟩, rfl⟩
      clear L2
      go_wp2
      go_roundw
      case rel => exact ⟨k + 1, by omega, by go_num, congrArg (Value.int .i64) (by omega), hb.trans (hbn.mono hb.size)⟩
      case measure => simp [intOf]; omega
    · obtain rfl : k = n := by omega
      go_wp2
      go_ret
      exact ⟨rfl, hb⟩
end Go.Proofs.Ytaeahmlhkkpapaa
