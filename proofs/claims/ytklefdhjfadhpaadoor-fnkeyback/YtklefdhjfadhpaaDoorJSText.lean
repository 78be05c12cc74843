/-
  Contracts of the model's l6Dec (numbers under 100), l6Many, l2Text. Conditions: as each theorem says.
-/
import Derived.Test.YtklefdhjfadhpaaDoorJTextM
import Derived.Lib.SmallJoins
import Derived.Laws.IdiomStrings
namespace Go.Proofs.YtklefdhjfadhpaaDoor
open Go.ChangeShapes Go.WideShapes Go.ChangeAt Go.RowKit Go.Joins

theorem byte_conv (W : World) (g : Nat) (n : Nat) (h : W.cell? ⟨g, 0, none⟩ = some (.int .u8 (48 + (n % 10 : Nat) : Int))) :
    (convert 22 9 (.slice (some ⟨g, 0, none⟩) 1 1)).run Tryd.prog W = .ok (.string (dig n)) W := by
  have := run_convert_bytes_back (P := Tryd.prog) W 22 9 5 ⟨g, 0, none⟩ 1 [UInt8.ofNat (48 + n % 10)] Tryd.underlying22 Tryd.underlying5 Tryd.underlying9 (fun j hj => by
    obtain rfl : j = 0 := by simpa using hj
    rw [addr_add, Nat.zero_add, h]
    simp only [List.getElem_cons_zero]
    congr 2
    have : (UInt8.ofNat (48 + n % 10)).toNat = 48 + n % 10 := by simp; omega
    rw [this]; push_cast; rfl)
  exact this
set_option maxRecDepth 100000 in
set_option maxHeartbeats 1000000 in
theorem l6Dec_lo (n : Nat) (w : World) (h : n < 10) :
    Calls Tryd.prog 115 #[.int .i64 (n : Int)] w (RetBelow (.string (dig n)) w) := by
  have i1 : (0 : Int) ≤ (n : Int) := by omega
  have i2 : (n : Int) < 10 := by omega
  have hw : IntKind.u8.wrap (48 + (n : Int)) = 48 + (n : Int) := by
    unfold IntKind.wrap; simp [IntKind.signed, IntKind.bits]; omega
  have hcv := byte_conv (w.alloc (.cells #[.int .u8 (48 + (n : Int))] 5)) w.heap.size n (by simp [go_sem]; omega)
  go_enter Tryd.func115, Tryd.ntmps115
  go_wp2
  go_ret
  exact ⟨rfl, (Below.refl _ _).alloc (Nat.le_refl _) _⟩
set_option maxRecDepth 100000 in
set_option maxHeartbeats 1000000 in
theorem l6Many_any (s : ByteArray) (n : Nat) (w : World) (hn : n ≤ 1000) (hs : s.size ≤ 1000) :
    Calls Tryd.prog 114 #[.string s, .int .i64 (n : Int)] w (RetBelow (.string (rep s n)) w) := by
  go_enter Tryd.func114, Tryd.ntmps114
  go_wp2_with fail
  go_loopw [0, 1, 5] (fun t u v wr => ∃ a b k : Nat, t = .string (rep s a) ∧ u = .int .i64 (k : Int) ∧ v = .string (rep s b) ∧ b + a * k = n ∧ a ≤ 2000 ∧ k ≤ 1000 ∧ Below w.heap.size w wr) (fun _ u _ _ => (intOf u).toNat)
  case atStart => exact ⟨1, 0, n, by rw [rep_one], rfl, rfl, by omega, by omega, hn, Below.refl _ _⟩
  case round =>
    obtain ⟨a, b, k, rfl, rfl, rfl, hk, ha, hk9, hb⟩ := hrel
    by_cases h0 : k = 0
    · subst h0
      obtain rfl : b = n := by omega
      go_wp2
      go_ret
      exact ⟨rfl, hb⟩
    · have hak : a ≤ n := by
        have : a * 1 ≤ a * k := Nat.mul_le_mul_left a (by omega)
        omega
      have i1 : (0 : Int) < (k : Int) := by omega
      have hbn : b ≤ n := by omega
      have z1 : (rep s a).size ≤ 1000000 := by rw [rep_size]; calc a * s.size ≤ 1000 * 1000 := Nat.mul_le_mul (by omega) hs
          _ = 1000000 := rfl
      have z2 : (rep s b).size ≤ 1000000 := by rw [rep_size]; calc b * s.size ≤ 1000 * 1000 := Nat.mul_le_mul (by omega) hs
          _ = 1000000 := rfl
      have e2 : rep s a ++ rep s a = rep s (a + a) := (rep_add s a a).symm
      have e1 : rep s b ++ rep s a = rep s (b + a) := (rep_add s b a).symm
      obtain ⟨m, hm⟩ : ∃ m, m = k / 2 := ⟨_, rfl⟩
      have q : IntKind.i64.wrap ((k : Int).tdiv 2) = (m : Int) := by
        rw [Int.tdiv_eq_ediv_of_nonneg (by omega), IntWalk.i64_in _ ⟨by omega, by omega⟩]; omega
      have hm9 : m ≤ 1000 := by omega
      by_cases h1 : k % 2 = 1
      · have i2 : (k : Int) % 2 = 1 := by omega
        have hk2 : (b + a) + (a + a) * m = n := by
          have e : k = 2 * m + 1 := by omega
          rw [← hk, e, Nat.mul_add, ← Nat.mul_assoc, Nat.mul_comm a 2, Nat.two_mul, Nat.mul_one]; omega
        go_wp2
        go_roundw
        case rel => exact ⟨a + a, b + a, m, rfl, by rw [show (k : Int) / 2 = (m : Int) by omega], rfl, hk2, by omega, hm9, hb⟩
        case measure => simp [intOf]; omega
      · have i2 : ¬ (k : Int) % 2 = 1 := by omega
        have hk2 : b + (a + a) * m = n := by
          have e : k = 2 * m := by omega
          rw [← hk, e, ← Nat.mul_assoc, Nat.mul_comm a 2, Nat.two_mul]
        go_wp2
        go_roundw
        case rel => exact ⟨a + a, b, m, rfl, by rw [show (k : Int) / 2 = (m : Int) by omega], rfl, hk2, by omega, hm9, hb⟩
        case measure => simp [intOf]; omega
set_option maxRecDepth 100000 in
set_option maxHeartbeats 1000000 in
theorem l6Dec_hi (n : Nat) (w : World) (h : ¬ n < 10) (h2 : n < 100) :
    Calls Tryd.prog 115 #[.int .i64 (n : Int)] w (RetBelow (.string (dig (n / 10) ++ dig n)) w) := by
  have i1 : (0 : Int) ≤ (n : Int) := by omega
  have i2 : ¬ (n : Int) < 10 := by omega
  have q1 : IntKind.i64.wrap ((n : Int).tdiv 10) = ((n / 10 : Nat) : Int) := by
    rw [Int.tdiv_eq_ediv_of_nonneg (by omega), IntWalk.i64_in _ ⟨by omega, by omega⟩]; omega
  have hw : IntKind.u8.wrap (48 + (n : Int) % 10) = 48 + (n : Int) % 10 := by
    rw [IntKind.wrap_u8]; omega
  have hw2 : (48 : Int) + (n : Int) % 10 = 48 + (n % 10 : Nat) := by omega
  have hcA := byte_conv (w.alloc (.cells #[.int .u8 (48 + (n : Int) % 10)] 5)).drew w.heap.size n (by rw [hw2]; simp [go_sem])
  have hcA2 := byte_conv (w.alloc (.cells #[.int .u8 (48 + (n : Int) % 10)] 5)) w.heap.size n (by rw [hw2]; simp [go_sem])
  have q2 : IntKind.i64.wrap ((n : Int) / 10) = (n : Int) / 10 := by rw [IntWalk.i64_in _ ⟨by omega, by omega⟩]
  have q3 : (n : Int).tmod 10 = (n : Int) % 10 := Int.tmod_eq_emod_of_nonneg (by omega)
  have q4 : IntKind.i64.wrap (48 + (n : Int) % 10) = 48 + (n : Int) % 10 := by rw [IntWalk.i64_in _ ⟨by omega, by omega⟩]
  have HL : Hid (∀ W, Calls Tryd.prog 115 #[.int .i64 ((n : Int) / 10)] W (RetBelow (.string (dig (n / 10))) W)) := fun W => by
    rw [show (n : Int) / 10 = ((n / 10 : Nat) : Int) by omega]; exact l6Dec_lo (n / 10) W (by omega)
  have d1 : (dig (n / 10)).size = 1 := rfl
  have d2 : (dig n).size = 1 := rfl
  have HB : Hid (∀ W g, W.cell? ⟨g, 0, none⟩ = some (.int .u8 (48 + (n : Int) % 10)) → (convert 22 9 (.slice (some ⟨g, 0, none⟩) 1 1)).run Tryd.prog W = .ok (.string (dig n)) W) := fun W g hc => byte_conv W g n (by rw [hc, hw2])
  generalize dig (n / 10) = a at *
  generalize dig n = b at *
  clear hw2
  have dA : Below w.heap.size w (w.alloc (.cells #[.int .u8 (48 + (n : Int) % 10)] 5)).drew := ((Below.refl _ _).alloc (Nat.le_refl _) _).drew
  have cA : (w.alloc (.cells #[.int .u8 (48 + (n : Int) % 10)] 5)).drew.cell? ⟨w.heap.size, 0, none⟩ = some (.int .u8 (48 + (n : Int) % 10)) := by simp [go_sem]
  go_enter Tryd.func115, Tryd.ntmps115
  go_upto_region 7 with fail
  go_region_with ((go_at_call 115; first
    | ((with_reducible refine (HL.out w.drew).mono ?_); rintro _ w3 ⟨rfl, b3⟩; have hcC := HB.out (w3.alloc (.cells #[.int .u8 (48 + (n : Int) % 10)] 5)) w3.heap.size ((by simp [go_sem])); have L3 := ((Below.refl w.heap.size w).drew).trans b3)
    | ((with_reducible refine (HL.out (w.alloc (.cells #[.int .u8 (48 + (n : Int) % 10)] 5)).drew).mono ?_); rintro _ w3 ⟨rfl, b3⟩; have cB := (b3.cell (p := ⟨w.heap.size, 0, none⟩) (by simp)).trans cA; have hcB := HB.out w3 w.heap.size cB; have L3 := dA.trans (b3.mono (by simp)))))
  all_goals
    clear HL HB hcA hcA2 dA cA q1 q2 q3 q4 hw
    go_wp2
    go_ret
    first | exact ⟨rfl, L3⟩ | exact ⟨rfl, L3.alloc L3.size _⟩
theorem l6Dec_any (n : Int) (w : World) (h : 0 ≤ n) (h2 : n < 100) :
    Calls Tryd.prog 115 #[.int .i64 n] w (RetBelow (.string (decB n.toNat)) w) := by
  obtain ⟨k, rfl⟩ := Int.eq_ofNat_of_zero_le h
  show Calls _ _ _ _ (RetBelow (.string (decB k)) w)
  by_cases hk : k < 10
  · rw [dec_lo hk]; exact l6Dec_lo k w hk
  · rw [dec_hi hk]; exact l6Dec_hi k w hk (by omega)
theorem dec_size (n : Nat) : (decB n).size ≤ 2 := by
  unfold decB; split
  · exact (by decide : 1 ≤ 2)
  · rw [ByteArray.size_append]; exact Nat.le_refl 2
theorem nil_list : (⟨#[]⟩ : ByteArray).toList = [] := by rw [ByteArray.toList_eq]
theorem tail_nil : tailT ⟨#[]⟩ = ⟨#[]⟩ := by unfold tailT nilB; rw [nil_list]; rfl
theorem tail_size (s : ByteArray) : (tailT s).size ≤ s.size + 1 := by
  unfold tailT; split
  · show 0 ≤ _; omega
  · rw [ByteArray.size_append]; show 1 + s.size ≤ _; omega
theorem row_size {r : RowD} (h : LineOk r) : (rowT r).size ≤ 30 := by
  unfold rowT
  rw [ByteArray.size_append, ByteArray.size_append, ByteArray.size_append, rep_size]
  have h1 := dec_size r.id.toNat
  have h2 := tail_size r.txt
  have h3 := h.t0
  have h4 := h.d1
  show r.dep.toNat * 1 + _ + _ + 1 ≤ 30
  omega
theorem textTo_size {rs : List RowD} (h : ∀ i, i < rs.length → LineOk (rat rs i)) : ∀ k, k ≤ rs.length → (textTo rs k).size ≤ 30 * k
  | 0, _ => Nat.le_refl _
  | k + 1, hk => by
    show (textTo rs k ++ rowT (rat rs k)).size ≤ _
    rw [ByteArray.size_append]
    have := textTo_size h k (by omega)
    have := row_size (h k (by omega))
    omega
set_option maxRecDepth 100000 in
set_option maxHeartbeats 2000000 in
theorem l2Text_any (B : Nat) (a : Option Addr) (cap : Nat) (rs : List RowD) (w : World) (hB : B ≤ w.heap.size) (h : RowsAt B w a rs) (hl : rs.length ≤ 1048576) (hr : ∀ i, i < rs.length → LineOk (rat rs i)) :
    Calls Tryd.prog 67 #[.slice a rs.length cap] w (RetBelow (.string (textT rs)) w) := by
  go_enter Tryd.func67, Tryd.ntmps67
  go_wp2_with fail
  go_loopw [3, 4] (fun t u wr => ∃ k : Nat, k ≤ rs.length ∧ t = .string (textTo rs k) ∧ u = .int .i64 (k : Int) ∧ Below w.heap.size w wr) (fun _ u _ => rs.length - (intOf u).toNat)
  case atStart => exact ⟨0, Nat.zero_le _, rfl, rfl, Below.refl _ _⟩
  case round =>
    obtain ⟨k, hk, rfl, rfl, hb⟩ := hrel
    have hrk := h.below (hb.mono hB)
    by_cases hlt : k < rs.length
    · obtain ⟨b, off, rfl, hbB, c0, c1, c2⟩ := hrk.at_ hlt
      have hok := hr k hlt
      have i1 : (k : Int) < (rs.length : Int) := by omega
      have z0 := textTo_size hr k hk
      have HN : Hid (textTo rs (k + 1) = textTo rs k ++ rowT (rat rs k)) := rfl
      generalize textTo rs k = T at *
      generalize hR : rat rs k = r at *
      obtain ⟨q1, q2, q3, q4, q5, _⟩ := hok
      have HD : Hid (∀ W, Calls Tryd.prog 114 #[.string ⟨#[46]⟩, .int .i64 r.dep] W (RetBelow (.string (rep ⟨#[46]⟩ r.dep.toNat)) W)) := fun W => by
        obtain ⟨d, hd⟩ := Int.eq_ofNat_of_zero_le q1
        rw [hd]; exact l6Many_any _ d W (by omega) (by decide)
      have HI : Hid (∀ W, Calls Tryd.prog 115 #[.int .i64 r.id] W (RetBelow (.string (decB r.id.toNat)) W)) := fun W => l6Dec_any r.id W q3 q4
      have z1 : (rep ⟨#[46]⟩ r.dep.toNat).size ≤ 18 := by rw [rep_size]; show r.dep.toNat * 1 ≤ 18; omega
      have z2 := dec_size r.id.toNat
      have HRW : Hid (rowT r = rep ⟨#[46]⟩ r.dep.toNat ++ decB r.id.toNat ++ tailT r.txt ++ ⟨#[10]⟩) := rfl
      generalize rep ⟨#[46]⟩ r.dep.toNat = sd at *
      generalize decB r.id.toNat = si at *
      have hbs : b < wr.heap.size := Nat.lt_of_lt_of_le (Nat.lt_of_lt_of_le hbB hB) hb.size
      have l0 := fun u : Later wr => later_cell c0 hbs u
      have l1 := fun u : Later wr => later_cell c1 hbs u
      go_wp2_with fail
      refine wp_region_later (by kernel_rfl) (by kernel_rfl) ?_
      repeat (go_big_quiet_step (first | (go_at_call 114; (with_reducible exact later_of (HD.out _))) | (go_at_call 115; (with_reducible exact later_of (HI.out _)))) )
      refine wpQuiet_nil ?_
      rintro wn ⟨u, rfl⟩
      have bn := hb.trans (u.h.mono hb.size)
      have c2' := (u.h.cell (p := ⟨b, off + k * 3 + 2, none⟩) hbs).trans c2
      clear c0 c1 c2 HD HI hrk
      have z3 : (T ++ sd ++ si).size ≤ 40000000 := by rw [ByteArray.size_append, ByteArray.size_append]; omega
      generalize u.x = wn at *
      by_cases hx : r.txt = ⟨#[]⟩
      · have HF : Hid (T ++ sd ++ si ++ ⟨#[10]⟩ = textTo rs (k + 1)) := by
          unfold Hid
          rw [HN.out, HRW.out, hx, tail_nil, ba_nil', ba_assoc, ba_assoc, ba_assoc]
        rw [hx] at c2'
        clear HN HRW
        go_wp2
        go_roundw
        case rel => exact ⟨k + 1, by omega, by rw [HF.out], by go_num, bn⟩
        case measure => simp [intOf]; omega
      · have hx2 : ¬ r.txt.toList = (⟨#[]⟩ : ByteArray).toList := fun e => hx (txt_inj e)
        have hx3 : ¬ r.txt.toList = [] := fun e => hx2 (e.trans nil_list.symm)
        have hx4 : r.txt.toList.isEmpty = false := by simpa using hx3
        have HF : Hid (T ++ sd ++ si ++ ⟨#[32]⟩ ++ r.txt ++ ⟨#[10]⟩ = textTo rs (k + 1)) := by
          unfold Hid
          have : tailT r.txt = (⟨#[32]⟩ : ByteArray) ++ r.txt := by simp [tailT, nilB, hx3]
          rw [HN.out, HRW.out, this]; simp only [ba_assoc]
        clear HN HRW
        go_wp2
        go_roundw
        case rel => exact ⟨k + 1, by omega, by rw [HF.out], by go_num, bn⟩
        case measure => simp [intOf]; omega
    · obtain rfl : k = rs.length := by omega
      go_wp2
      go_ret
      exact ⟨rfl, hb⟩
end Go.Proofs.YtklefdhjfadhpaaDoor
