/-
  The laws' own helpers markText and markRowS. Conditions: as each theorem says.
-/
import Derived.Test.YtljaoaehblcdoaaDoorMarks2
import Derived.Laws.IdiomStrings
namespace Go.Proofs.YtljaoaehblcdoaaDoor
open Go.ChangeShapes Go.WideShapes Go.ChangeAt Go.RowKit Go.Joins

theorem conv_one (w : World) (x : Int) (h0 : 0 ≤ x) (h1 : x < 256) :
    Sem.run Tryd.prog (convert 90 9 (.slice (some ⟨w.heap.size, 0, none⟩) 1 1)) (w.alloc (.cells #[.int .u8 x] 5)) = .ok (.string ⟨#[UInt8.ofNat x.toNat]⟩) (w.alloc (.cells #[.int .u8 x] 5)) := by
  refine run_convert_bytes_back (P := Tryd.prog) (w.alloc (.cells #[.int .u8 x] 5)) 90 9 5 ⟨w.heap.size, 0, none⟩ 1 [UInt8.ofNat x.toNat] Tryd.underlying90 Tryd.underlying5 Tryd.underlying9 (fun j hj => ?_)
  obtain rfl : j = 0 := by simp at hj; exact hj
  have hx : ((UInt8.ofNat x.toNat).toNat : Int) = x := by
    rw [UInt8.toNat_ofNat']; omega
  simp only [List.getElem_cons_zero, hx]
  simp [Addr.add, go_sem]
theorem size_one (x : UInt8) : (ByteArray.mk #[x]).size = 1 := rfl
def RetStr (M : Nat) (w : World) (e : Ending) (w' : World) : Prop := ∃ s : ByteArray, s.size ≤ M ∧ e = .returned (.string s) ∧ Below w.heap.size w w'
set_option maxRecDepth 100000 in
set_option maxHeartbeats 1000000 in
theorem markText_any (k : Nat) (w : World) (hk : k ≤ 10000000) :
    Calls Tryd.prog 46 #[.int .i64 k] w (RetStr 10000002 w) := by
  by_cases h0 : k = 0
  · subst h0
    go_enter Tryd.func46, Tryd.ntmps46
    go_wp2_with fail
    go_ret
    exact ⟨_, by decide, rfl, Below.refl _ _⟩
  · have hkp : ¬ (k : Int) ≤ 0 := by omega
    go_enter Tryd.func46, Tryd.ntmps46
    go_wp2_with fail
    go_loopw [0, 3] (fun q s wr => ∃ (j : Nat) (str : ByteArray), j ≤ k ∧ q = .int .i64 j ∧ s = .string str ∧ str.size + j ≤ k ∧ Below w.heap.size w wr) (fun q _ _ => (intOf q).toNat)
    case atStart => exact ⟨k, _, Nat.le_refl _, rfl, rfl, by show 0 + k ≤ k; omega, Below.refl _ _⟩
    case round =>
      obtain ⟨j, str, hj, rfl, rfl, hs, hb⟩ := hrel
      by_cases hj0 : 0 < j
      · have j1 : (0 : Int) < (j : Int) := by omega
        have m0 : 0 ≤ (j : Int) % 10 := by omega
        have m1 : (j : Int) % 10 < 10 := by omega
        have hcv := conv_one wr ((48 : Int) + (j : Int) % 10) (by omega) (by omega)
        go_wp2
        go_roundw
        case rel => exact ⟨j / 10, _, by omega, by go_num, rfl, by rw [ByteArray.size_append, size_one]; omega, hb.alloc hb.size _⟩
        case measure => simp [intOf]; omega
      · obtain rfl : j = 0 := by omega
        go_wp2
        go_ret
        exact ⟨_, by rw [ByteArray.size_append, size_one]; omega, rfl, hb⟩

/-! ### markRowS: it writes into the one block alone -/
def MarkedRows (g n : Nat) (w : World) (e : Ending) (w' : World) : Prop := e = .returned (.int .i64 ((n : Int) * 3 + 1)) ∧ But g w.heap.size w w'
set_option maxHeartbeats 1000000 in
theorem markRowS_any (g cap : Nat) (rs : List RowD) (w : World) (h : OwnRows w g rs) (hl : rs.length ≤ 1048576) :
    Calls Tryd.prog 18 #[.slice (some ⟨g, 0, none⟩) rs.length cap, .int .i64 1] w (MarkedRows g rs.length w) := by
  obtain ⟨f0, hf0, _⟩ := h
  go_enter Tryd.func18, Tryd.ntmps18
  go_wp2_with fail
  go_loopw [1, 5] (fun m t wr => ∃ (k : Nat) (f : Nat → Value), k ≤ rs.length ∧ t = .int .i64 k ∧ m = .int .i64 ((k : Int) * 3 + 1) ∧ wr.rowIs g 51 (rs.length * 3) f ∧ But g w.heap.size w wr) (fun _ t _ => rs.length - (intOf t).toNat)
  case atStart => exact ⟨0, f0, Nat.zero_le _, rfl, rfl, hf0, But.refl _ _ _⟩
  case round =>
    obtain ⟨k, f, hk, rfl, rfl, hrow, hb⟩ := hrel
    have hgw := hrow.lt
    by_cases hlt : k < rs.length
    · have i1 : (k : Int) < (rs.length : Int) := by omega
      have d0 := hrow.cell (show k * 3 < _ by omega)
      have d1 := hrow.cell (show k * 3 + 1 < _ by omega)
      have z0 := hrow.frozen (k * 3)
      have z1 := hrow.frozen (k * 3 + 1)
      generalize f (k * 3) = v0 at d0
      generalize f (k * 3 + 1) = v1 at d1
      have HB : But g w.heap.size w ((wr.setCell ⟨g, k * 3, none⟩ (.int .i64 ((k : Int) * 3 + 1))).setCell ⟨g, k * 3 + 1, none⟩ (.int .i64 ((k : Int) * 3 + 1 + 1))) := (hb.setCell (k * 3) _).setCell (k * 3 + 1) _
      have HR := (hrow.set (k * 3) (.int .i64 ((k : Int) * 3 + 1))).set (k * 3 + 1) (.int .i64 ((k : Int) * 3 + 1 + 1))
      have hsz : ((wr.setCell ⟨g, k * 3, none⟩ (.int .i64 ((k : Int) * 3 + 1))).setCell ⟨g, k * 3 + 1, none⟩ (.int .i64 ((k : Int) * 3 + 1 + 1))).heap.size = wr.heap.size := by simp [World.setCell]
      go_wp2_with fail
      have hm := markText_any (k * 3 + 3) ((wr.setCell ⟨g, k * 3, none⟩ (.int .i64 ((k : Int) * 3 + 1))).setCell ⟨g, k * 3 + 1, none⟩ (.int .i64 ((k : Int) * 3 + 1 + 1))) (by omega)
      rw [show (((k * 3 + 3 : Nat) : Int)) = (k : Int) * 3 + 1 + 1 + 1 by omega] at hm
      refine hm.mono ?_
      clear hm
      rintro e w1 ⟨str, _, rfl, hb1⟩
      rw [hsz] at hb1
      have hrow1 := HR.of_block (hb1.block g hgw)
      have hbw1 : But g w.heap.size w w1 := HB.trans ((But.of_below hb1).mono hb.size)
      have d2 := hrow1.cell (show k * 3 + 2 < _ by omega)
      have z2 := hrow1.frozen (k * 3 + 2)
      clear HR HB hb1 hsz d0 d1 z0 z1
      go_wp2
      go_roundw
      case rel => exact ⟨k + 1, _, by omega, by go_num, congrArg (Value.int .i64) (by omega), hrow1.set (k * 3 + 2) _, hbw1.setCell (k * 3 + 2) _⟩
      case measure => simp [intOf]; omega
    · obtain rfl : k = rs.length := by omega
      go_wp2
      go_ret
      exact ⟨rfl, hb⟩
end Go.Proofs.YtljaoaehblcdoaaDoor
