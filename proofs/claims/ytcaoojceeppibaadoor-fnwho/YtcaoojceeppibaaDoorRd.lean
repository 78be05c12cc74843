/-
  Contracts of the model's drawing: l6Open and (*l6Rd).pick. A pick writes the reader's own place alone and answers a number from 0 to n-1. Conditions: the code reads as bytes, and fewer than 2^30 picks were made before.
-/
import Derived.Test.YtcaoojceeppibaaDoorRowOk
import Derived.Deep.QuietTactic
import Derived.BigQuiet
import Derived.Laws.BitsAllLaws
namespace Go.Proofs.YtcaoojceeppibaaDoor
open Go.ChangeShapes Go.WideShapes Go.ChangeAt Go.RowKit Go.Joins

/-- As 'Below', but for one block. -/
structure But (b B : Nat) (w w' : World) : Prop where
  os : w'.os = w.os
  tape : w'.tape = w.tape
  output : w'.output = w.output
  size : w.heap.size ≤ w'.heap.size
  block : ∀ k, k < B → k ≠ b → w'.heap[k]? = w.heap[k]?
theorem But.refl (b B : Nat) (w : World) : But b B w w := ⟨rfl, rfl, rfl, Nat.le_refl _, fun _ _ _ => rfl⟩
theorem But.trans {b B : Nat} {u v w : World} (h : But b B u v) (k : But b B v w) : But b B u w :=
  ⟨k.os.trans h.os, k.tape.trans h.tape, k.output.trans h.output, Nat.le_trans h.size k.size, fun i hi hb => (k.block i hi hb).trans (h.block i hi hb)⟩
theorem But.mono {b B B' : Nat} {w w' : World} (h : But b B w w') (hB : B' ≤ B) : But b B' w w' := ⟨h.os, h.tape, h.output, h.size, fun k hk hb => h.block k (Nat.lt_of_lt_of_le hk hB) hb⟩
theorem But.of_below {b B : Nat} {w w' : World} (h : Below B w w') : But b B w w' := ⟨h.os, h.tape, h.output, h.size, fun k hk _ => h.block k hk⟩
theorem But.below {b B N : Nat} {w w' : World} (h : But b B w w') (h1 : N ≤ b) (h2 : N ≤ B) : Below N w w' := ⟨h.os, h.tape, h.output, h.size, fun k hk => h.block k (by omega) (by omega)⟩
theorem But.drew {b B : Nat} {w w' : World} (h : But b B w w') : But b B w w'.drew := ⟨h.os, h.tape, h.output, h.size, h.block⟩
theorem But.drewN {b B : Nat} {w w' : World} (n : Nat) (h : But b B w w') : But b B w (w'.drewN n) := ⟨h.os, h.tape, h.output, h.size, h.block⟩
theorem But.setCell {b B : Nat} {w w' : World} (h : But b B w w') (o : Nat) (u : Value) : But b B w (w'.setCell ⟨b, o, none⟩ u) :=
  h.trans ⟨rfl, rfl, rfl, by simp [World.setCell], fun k _ hb => Below.heap_setCell _ _ _ _ hb⟩
theorem But.setNew {b B : Nat} {w w' : World} (h : But b B w w') {p : Addr} (hp : B ≤ p.block) (u : Value) : But b B w (w'.setCell p u) :=
  h.trans ⟨rfl, rfl, rfl, by simp [World.setCell], fun k hk _ => Below.heap_setCell _ _ _ _ (by omega)⟩
theorem But.alloc {b B : Nat} {w w' : World} (h : But b B w w') (hB : B ≤ w'.heap.size) (o : Obj) : But b B w (w'.alloc o) :=
  h.trans (But.of_below ((Below.refl _ _).alloc hB o))
theorem But.cell {b B : Nat} {w w' : World} (h : But b B w w') {p : Addr} (hp : p.block < B) (hb : p.block ≠ b) : w'.cell? p = w.cell? p := World.cell?_of_block (w := w) (h.block p.block hp hb)
theorem But.frozen {b B : Nat} {w w' : World} (h : But b B w w') {p : Addr} (hp : p.block < B) (hb : p.block ≠ b) : w'.frozen? p = w.frozen? p := World.frozen?_of_block (w := w) (h.block p.block hp hb)

/-- The bytes of a code: its cells lie below block N. -/
def CodeAt (N : Nat) (w : World) (a : Option Addr) (len : Nat) : Prop :=
  len ≤ maxLen ∧ (len = 0 ∨ ∃ (ab aoff : Nat) (z : Nat → Int), a = some ⟨ab, aoff, none⟩ ∧ ab < N ∧ ∀ i, i < len → w.cell? ⟨ab, aoff + i, none⟩ = some (.int .u8 (z i)) ∧ 0 ≤ z i ∧ z i < 256)
theorem CodeAt.below {N : Nat} {w w' : World} {a : Option Addr} {len : Nat} (h : CodeAt N w a len) (hb : Below N w w') : CodeAt N w' a len := by
  obtain ⟨h1, h2⟩ := h
  refine ⟨h1, ?_⟩
  rcases h2 with h2 | ⟨ab, aoff, z, rfl, h3, h4⟩
  · exact .inl h2
  · exact .inr ⟨ab, aoff, z, rfl, h3, fun i hi => ⟨by rw [hb.cell (p := ⟨ab, _, none⟩) h3]; exact (h4 i hi).1, (h4 i hi).2⟩⟩

/-- The reader at block b: its code, and that at most p picks were made. -/
def Rd (N : Nat) (w : World) (b p : Nat) : Prop :=
  N ≤ b ∧ b < w.heap.size ∧ ∃ (a : Option Addr) (len cap q : Nat), w.cell? ⟨b, 0, none⟩ = some (.slice a len cap) ∧ w.cell? ⟨b, 1, none⟩ = some (.int .i64 q) ∧ w.frozen? ⟨b, 1, none⟩ = false ∧ q ≤ p ∧ CodeAt N w a len
theorem Rd.mono {N : Nat} {w : World} {b p p' : Nat} (h : Rd N w b p) (hp : p ≤ p') : Rd N w b p' := by
  obtain ⟨h1, h2, a, len, cap, q, h3, h4, h5, h6, h7⟩ := h
  exact ⟨h1, h2, a, len, cap, q, h3, h4, h5, by omega, h7⟩
/-- The reader is kept where nothing below B turns, its block among it. -/
theorem Rd.below {N : Nat} {w w' : World} {b p B : Nat} (h : Rd N w b p) (hb : Below B w w') (hB : b < B) : Rd N w' b p := by
  obtain ⟨h1, h2, a, len, cap, q, h3, h4, h5, h6, h7⟩ := h
  exact ⟨h1, by have := hb.size; omega, a, len, cap, q, by rw [hb.cell hB]; exact h3, by rw [hb.cell hB]; exact h4, by rw [hb.frozen hB]; exact h5, h6, h7.below (hb.mono (by omega))⟩

theorem xor_nat (a b : Nat) (ha : a < 1099511627776) (hb : b < 1099511627776) : bits .xor .i64 (a : Int) (b : Int) = ((a ^^^ b : Nat) : Int) ∧ a ^^^ b < 1099511627776 := by
  have hx : a ^^^ b < 2 ^ 40 := Nat.xor_lt_two_pow (by omega) (by omega)
  refine ⟨?_, by omega⟩
  show IntKind.i64.wrap ((BitVec.ofInt 64 (a : Int) ^^^ BitVec.ofInt 64 (b : Int)).toNat : Int) = _
  rw [BitVec.toNat_xor, ofInt_u64 a (by omega), ofInt_u64 b (by omega), IntKind.wrap_i64]
  omega
theorem xor_bd (x y : Int) (h0 : 0 ≤ x) (h1 : x < 1099511627776) (h2 : 0 ≤ y) (h3 : y < 1099511627776) : 0 ≤ bits .xor .i64 x y := by
  obtain ⟨A, rfl⟩ := Int.eq_ofNat_of_zero_le h0
  obtain ⟨B, rfl⟩ := Int.eq_ofNat_of_zero_le h2
  rw [(xor_nat A B (by omega) (by omega)).1]
  omega
/-- The number that a pick beyond the code's end comes to lies in range. -/
theorem mix_bd (x n : Int) (h0 : 0 ≤ x) (h1 : x < 1099511627776) (hn : 1 ≤ n) :
    0 ≤ (bits .xor .i64 x (x / 64)).tmod n ∧ (bits .xor .i64 x (x / 64)).tmod n < n := by
  have h := xor_bd x (x / 64) h0 h1 (by omega) (by omega)
  rw [Int.tmod_eq_emod_of_nonneg h]
  exact ⟨Int.emod_nonneg _ (by omega), Int.emod_lt_of_pos _ (by omega)⟩

theorem rd_step {N b p q : Nat} {w : World} {a : Option Addr} {len cap : Nat} (hNb : N ≤ b) (hbw : b < w.heap.size) (c0 : w.cell? ⟨b, 0, none⟩ = some (.slice a len cap)) (c1 : w.cell? ⟨b, 1, none⟩ = some (.int .i64 q))
    (fz : w.frozen? ⟨b, 1, none⟩ = false) (hq : q ≤ p) (hc : CodeAt N w a len) :
    But b w.heap.size w (w.setCell ⟨b, 1, none⟩ (.int .i64 ((q : Int) + 1))) ∧ w.heap.size ≤ (w.setCell ⟨b, 1, none⟩ (.int .i64 ((q : Int) + 1))).heap.size ∧ Rd N (w.setCell ⟨b, 1, none⟩ (.int .i64 ((q : Int) + 1))) b (p + 1) := by
  have hbut : But b w.heap.size w (w.setCell ⟨b, 1, none⟩ (.int .i64 ((q : Int) + 1))) := (But.refl b _ w).setCell 1 _
  have hsz : (w.setCell ⟨b, 1, none⟩ (.int .i64 ((q : Int) + 1))).heap.size = w.heap.size := by simp [World.setCell]
  refine ⟨hbut, by omega, hNb, by omega, a, len, cap, q + 1, ?_, ?_, ?_, by omega, hc.below (hbut.below hNb (by omega))⟩
  · go_simp
  · go_simp
  · go_simp
def Picked (N b p : Nat) (n : Int) (w : World) (e : Ending) (w' : World) : Prop := ∃ k : Int, 0 ≤ k ∧ k < n ∧ e = .returned (.int .i64 k) ∧ But b w.heap.size w w' ∧ w.heap.size ≤ w'.heap.size ∧ Rd N w' b (p + 1)

theorem pick_any (N b p : Nat) (n : Int) (w : World) (hr : Rd N w b p) (hp : p < 1000000000) (hn : 1 ≤ n) (hn2 : n ≤ 1000000000) :
    Calls Tryd.prog 46 #[.pointer (some ⟨b, 0, none⟩), .int .i64 n] w (Picked N b p n w) := by
  obtain ⟨hNb, hbw, a, len, cap, q, c0, c1, fz, hq, hcode⟩ := hr
  obtain ⟨s1, s2, s3⟩ := rd_step hNb hbw c0 c1 fz hq hcode
  obtain ⟨hlen, hcode⟩ := hcode
  unfold maxLen at hlen
  have q0 : 0 ≤ (q : Int) := by omega
  have q1 : (q : Int) < 1000000000 := by omega
  have hn3 : ¬ n < 1 := by omega
  rcases hcode with rfl | ⟨ab, aoff, z, rfl, hab, hz⟩
  · go_enter Tryd.func46, Tryd.ntmps46
    go_wp2
    go_ret
    exact ⟨0, by omega, by omega, rfl, s1, s2, s3⟩
  · by_cases hlt : q < len
    · obtain ⟨cz, z0, z1⟩ := hz q hlt
      have hbb : ab ≠ b := by omega
      have hl0 : ((len : Int) == 0) = false := by simp; omega
      go_enter Tryd.func46, Tryd.ntmps46
      go_wp2
      go_ret
      exact ⟨z q % n, Int.emod_nonneg _ (by omega), Int.emod_lt_of_pos _ (by omega), rfl, s1, s2, s3⟩
    · by_cases hl0 : len = 0
      · subst hl0
        go_enter Tryd.func46, Tryd.ntmps46
        go_wp2
        go_ret
        exact ⟨0, by omega, by omega, rfl, s1, s2, s3⟩
      · have hl1 : ((len : Int) == 0) = false := by simp; omega
        have hl2 : (0 : Int) < (len : Int) := by omega
        obtain ⟨i1, hi1⟩ : ∃ i : Nat, (q : Int) % (len : Int) = (i : Int) := Int.eq_ofNat_of_zero_le (Int.emod_nonneg _ (by omega))
        obtain ⟨i2, hi2⟩ : ∃ i : Nat, ((q : Int) * 7 + 3) % (len : Int) = (i : Int) := Int.eq_ofNat_of_zero_le (Int.emod_nonneg _ (by omega))
        have l1 : (i1 : Int) < (len : Int) := by rw [← hi1]; exact Int.emod_lt_of_pos _ hl2
        have l2 : (i2 : Int) < (len : Int) := by rw [← hi2]; exact Int.emod_lt_of_pos _ hl2
        obtain ⟨cz1, z0, z1⟩ := hz i1 (by omega)
        obtain ⟨cz2, z2, z3⟩ := hz i2 (by omega)
        have hbb : ab ≠ b := by omega
        have d0 : 0 ≤ (q : Int) / (len : Int) := Int.ediv_nonneg (by omega) (by omega)
        have d1 : (q : Int) / (len : Int) < 1000000000 := Int.lt_of_le_of_lt (Int.ediv_le_self _ (by omega)) q1
        obtain ⟨m0, m1⟩ := mix_bd (z i1 * 131 + z i2 * 1117 + (q : Int) * 29 + (q : Int) / (len : Int) * 53) n (by omega) (by omega) hn
        clear hz
        go_enter Tryd.func46, Tryd.ntmps46
        go_wp2
        go_quiet (fail)
        go_wp2
        go_ret
        exact ⟨_, m0, m1, rfl, s1.drewN nq, s2, s3.below ⟨rfl, rfl, rfl, Nat.le_refl _, fun _ _ => rfl⟩ (Nat.lt_succ_self b)⟩
/-- An argument of bytes: what the walks are told of it. -/
def Bytes (W : World) (a : Option Addr) (len cap : Nat) : Prop := len ≤ cap ∧ cap ≤ maxLen ∧ CodeAt W.heap.size W a len
theorem bytes_of {H : Type} {enc : TypeId × Value → H} {W : World} {spare : Nat → Bool} {held : Bool} {t e : TypeId} {a : Option Addr} {len cap : Nat} {d : DataW H} {p : List MemPlace}
    (ht : Tryd.prog.underlying t = some (.slice e)) (he : Tryd.prog.underlying e = some (.int .u8)) (hc : Tryd.prog.cellsOf e = 1) (h : DataW.Trod enc Tryd.prog W 0 spare held t (.slice a len cap) d p) : Bytes W a len cap := by
  have hlt : ∀ x ∈ p, x.block < W.heap.size := by obtain ⟨m, hm⟩ := h; exact DataW.trod_lt m _ _ _ hm
  obtain ⟨fuel, hf⟩ := h
  rcases open_ints ht he hc hf with ⟨hcs, _⟩ | ⟨x, l, c, zs, hcs, _, hl, hm, hz, hx, hcell, hwz⟩
  · simp [Value.cells] at hcs
    obtain ⟨rfl, rfl, rfl⟩ := hcs
    exact ⟨Nat.le_refl _, Nat.zero_le _, Nat.zero_le _, .inl rfl⟩
  · simp [Value.cells] at hcs
    obtain ⟨rfl, rfl, rfl⟩ := hcs
    refine ⟨hl, hm, by omega, ?_⟩
    by_cases h0 : len = 0
    · exact .inl h0
    · refine .inr ?_
      obtain ⟨ab, aoff, spot⟩ := x
      have hzl : len ≤ zs.length := by rw [hz]; split <;> omega
      have hc0 := hcell 0 (by omega)
      have hspot : spot = none := by simpa [Addr.add] using World.cell?_spot hc0
      subst hspot
      refine ⟨ab, aoff, fun i => zs.getD i 0, rfl, ?_, fun i hi => ?_⟩
      · rcases Nat.lt_or_ge ab W.heap.size with h | h
        · exact h
        · have hn : W.heap[ab]? = none := by simp; omega
          simp [World.cell?, Addr.add, hn] at hc0
      · have h1 := hcell i (by omega)
        have hmem : zs.getD i 0 ∈ zs := by rw [List.getD_eq_getElem?_getD, List.getElem?_eq_getElem (show i < zs.length by omega)]; exact List.getElem_mem _
        have h2 := hwz _ hmem
        simp [Lit.wf, IntKind.min, IntKind.max, IntKind.signed, IntKind.bits] at h2
        have h3 : (⟨ab, aoff, none⟩ : Addr).add i = ⟨ab, aoff + i, none⟩ := by
          unfold Addr.add; split <;> simp_all
        rw [h3] at h1
        exact ⟨h1, by simpa using h2.1, by have := h2.2; simp at this ⊢; omega⟩
def Opened (N : Nat) (w : World) (e : Ending) (w' : World) : Prop := e = .returned (.pointer (some ⟨w.heap.size, 0, none⟩)) ∧ Below w.heap.size w w' ∧ w.heap.size < w'.heap.size ∧ Rd N w' w.heap.size 0
theorem opened_mk {N : Nat} {w : World} {a : Option Addr} {len cap : Nat} (hN : N ≤ w.heap.size) (hc : CodeAt N w a len) : Opened N w (.returned (.pointer (some ⟨w.heap.size, 0, none⟩))) (w.alloc (.cells #[.slice a len cap, .int .i64 0] 100)) := by
  have hb : Below w.heap.size w (w.alloc (.cells #[.slice a len cap, .int .i64 0] 100)) := (Below.refl _ _).alloc (Nat.le_refl _) _
  refine ⟨rfl, hb, by simp, hN, by simp, a, len, cap, 0, ?_, ?_, ?_, Nat.le_refl _, hc.below (hb.mono hN)⟩
  · simp [go_sem]
  · simp [go_sem]
  · simp [go_sem]
theorem l6Open_any (N : Nat) (a : Option Addr) (len cap : Nat) (w : World) (hN : N ≤ w.heap.size) (hl : len ≤ cap) (hm : cap ≤ maxLen) (hc : CodeAt N w a len) :
    Calls Tryd.prog 45 #[.slice a len cap] w (Opened N w) := by
  unfold maxLen at hm
  by_cases h : len ≤ 2000
  · go_enter Tryd.func45, Tryd.ntmps45
    go_wp2
    go_ret
    exact opened_mk hN hc
  · have hc2 : CodeAt N w a 2000 := by
      obtain ⟨h1, h2⟩ := hc
      refine ⟨by omega, ?_⟩
      rcases h2 with h2 | ⟨ab, aoff, z, rfl, h3, h4⟩
      · omega
      · exact .inr ⟨ab, aoff, z, rfl, h3, fun i hi => h4 i (by omega)⟩
    obtain ⟨ab, aoff, z, rfl, _⟩ := hc.2.resolve_left (by omega)
    have h1 : (2000 : Int) ≤ (cap : Int) := by omega
    go_enter Tryd.func45, Tryd.ntmps45
    go_wp2
    go_ret
    exact opened_mk hN hc2
end Go.Proofs.YtcaoojceeppibaaDoor
