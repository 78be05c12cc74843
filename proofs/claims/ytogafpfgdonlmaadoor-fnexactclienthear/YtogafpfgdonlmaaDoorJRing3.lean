/-
  Contracts of the program's (*ring).each with the closure of list, and of (*ring).list. Conditions: as each theorem says.
-/
import Derived.Test.YtogafpfgdonlmaaDoorJRing2
namespace Go.Proofs.YtogafpfgdonlmaaDoor
open Go.ChangeShapes Go.WideShapes Go.ChangeAt Go.RowKit Go.Joins

theorem But.grown {b B : Nat} {w w' w2 : World} {v : Value} (h : But b B w w') (hg : w'.grownBy w2 v.ownBlock) (hB : B ≤ w'.heap.size) (hv : ∀ k, v.ownBlock = some k → B ≤ k) : But b B w w2 :=
  h.trans (But.of_below ((Below.refl B w').grown hg hB hv))
theorem own_fresh {w : World} {base : Nat} {e : TypeId} {size : Nat} {v : Value} {n : Nat} {xs : List Value} (h : w.ownsRow base e size v n xs) (o : Obj) : (w.alloc o).ownsRow base e size v n xs := own_below h ((Below.refl w.heap.size w).alloc (Nat.le_refl _) o)
theorem elem_cells2 (w : World) (o : Obj) (e : EntD) : ∀ j u, (cellsE [e])[j]? = some u → ((w.alloc o).alloc (.cells #[.int .i64 e.who, .int .i64 e.seq, .int .i64 e.op.kind, .int .i64 e.op.id, .int .i64 e.op.up, .int .i64 e.op.at_, .string e.op.txt] 55)).cell? ((⟨w.heap.size + 1, 0, none⟩ : Addr).add j) = some u := by
  have := elem_cells (w.alloc o) e
  rw [show (w.alloc o).heap.size = w.heap.size + 1 by simp] at this
  exact this
def RetVisit (base X : Nat) (es : List EntD) (e : EntD) (w : World) (r : Ending) (w' : World) : Prop :=
  r = .returned (.tuple #[]) ∧ ∃ vb, Bx w' X 31 #[vb] ∧ w'.ownsRow base 55 7 vb (es.length + 1) (cellsE (es ++ [e])) ∧ But X base w w'
set_option maxRecDepth 100000 in
set_option maxHeartbeats 2000000 in
theorem list1_any (base X : Nat) (va : Value) (es : List EntD) (e : EntD) (w : World) (hX : Bx w X 31 #[va]) (own : w.ownsRow base 55 7 va es.length (cellsE es)) (hbase : base ≤ w.heap.size) (hXb : X < base) (hl : es.length ≤ 1000) :
    Calls Tryd.prog 65 #[.agg #[.int .i64 e.who, .int .i64 e.seq, .int .i64 e.op.kind, .int .i64 e.op.id, .int .i64 e.op.up, .int .i64 e.op.at_, .string e.op.txt], .pointer (some ⟨X, 0, none⟩)] w (RetVisit base X es e w) := by
  obtain ⟨j0, hj, jz0, jz1, jz2⟩ := info_parts infoEnt
  have X1 := hX.alloc (.cells #[.int .i64 e.who, .int .i64 e.seq, .int .i64 e.op.kind, .int .i64 e.op.id, .int .i64 e.op.up, .int .i64 e.op.at_, .string e.op.txt] 55)
  have E1 := Bx.new w 55 #[.int .i64 e.who, .int .i64 e.seq, .int .i64 e.op.kind, .int .i64 e.op.id, .int .i64 e.op.up, .int .i64 e.op.at_, .string e.op.txt]
  have own1 := own_fresh own (.cells #[.int .i64 e.who, .int .i64 e.seq, .int .i64 e.op.kind, .int .i64 e.op.id, .int .i64 e.op.up, .int .i64 e.op.at_, .string e.op.txt] 55)
  have al1 : But X base w (w.alloc (.cells #[.int .i64 e.who, .int .i64 e.seq, .int .i64 e.op.kind, .int .i64 e.op.id, .int .i64 e.op.up, .int .i64 e.op.at_, .string e.op.txt] 55)) := (But.refl X base w).alloc hbase _
  have hsz : base ≤ (w.alloc (.cells #[.int .i64 e.who, .int .i64 e.seq, .int .i64 e.op.kind, .int .i64 e.op.id, .int .i64 e.op.up, .int .i64 e.op.at_, .string e.op.txt] 55)).heap.size := by simp; omega
  obtain ⟨va0, vc0, rfl, _, _⟩ := own_valE own
  clear hX own
  go_enter Tryd.func65, Tryd.ntmps65
  go_upto_region 1 with fail
  generalize w.alloc (.cells #[.int .i64 e.who, .int .i64 e.seq, .int .i64 e.op.kind, .int .i64 e.op.id, .int .i64 e.op.up, .int .i64 e.op.at_, .string e.op.txt] 55) = w1 at *
  generalize w.heap.size = n0 at *
  have x0 := X1.cell 0 rfl
  have e0 := E1.cell 0 rfl
  have e1 := E1.cell 1 rfl
  have e2 := E1.cell 2 rfl
  have e3 := E1.cell 3 rfl
  have e4 := E1.cell 4 rfl
  have e5 := E1.cell 5 rfl
  have e6 := E1.cell 6 rfl
  have own2 := own_fresh own1 (.cells #[.int .i64 e.who, .int .i64 e.seq, .int .i64 e.op.kind, .int .i64 e.op.id, .int .i64 e.op.up, .int .i64 e.op.at_, .string e.op.txt] 55)
  have HNW := Lib.hid (elem_cells w1 e)
  have hXlt := X1.lt
  go_wp2_with (at_builtin; refine wpList_append_own _ rfl _ _ 31 rfl base 55 j0 (.agg #[.int .i64 0, .int .i64 0, .int .i64 0, .int .i64 0, .int .i64 0, .int .i64 0, .string ⟨#[]⟩]) 7 64 Tryd.underlying31 hj jz0 jz1 jz2 rfl (by decide) _ _ _ rfl own2 ⟨w1.heap.size, 0, none⟩ 1 1 (cellsE [e]) rfl ?c0 ?c1 ?c2 ?c3 ?c4 ?c5 ?_)
  case c0 => rfl
  case c1 => exact HNW.out
  case c2 => exact cellsE_plain _
  case c3 => unfold maxLen; omega
  case c4 => omega
  first | (case c5 => simp; omega) | skip
  intro v3 w3 own3 grow3 hnn
  have X3 := (X1.alloc (.cells #[.int .i64 e.who, .int .i64 e.seq, .int .i64 e.op.kind, .int .i64 e.op.id, .int .i64 e.op.up, .int .i64 e.op.at_, .string e.op.txt] 55))
  have b3 : Below base (w1.alloc (.cells #[.int .i64 e.who, .int .i64 e.seq, .int .i64 e.op.kind, .int .i64 e.op.id, .int .i64 e.op.up, .int .i64 e.op.at_, .string e.op.txt] 55)) w3 := (Below.refl base _).grown grow3 (by simp; omega) (own_blockE own2)
  have X4 := X3.below b3 hXb
  have al3 : But X base w w3 := (al1.alloc hsz (.cells #[.int .i64 e.who, .int .i64 e.seq, .int .i64 e.op.kind, .int .i64 e.op.id, .int .i64 e.op.up, .int .i64 e.op.at_, .string e.op.txt] 55)).grown grow3 (by simp; omega) (own_blockE own2)
  rw [← cellsE_append] at own3
  obtain ⟨a3, c3, rfl, _, _⟩ := own_valE own3
  have own4 := ownsRow_setCell_below own3 (a := ⟨X, 0, none⟩) hXb (.slice a3 (es.length + 1) c3)
  have z0 := X4.frozen 0
  have x4 := X4.cell 0 rfl
  clear own1 own2 own3 grow3 hnn HNW hj jz0 jz1 jz2 x0 e0 e1 e2 e3 e4 e5 e6 X1 E1 X3 b3 al1
  go_wp2
  go_end0
  exact ⟨rfl, _, X4.put 0 _, own4, al3.setCell _ _⟩
/-- What list leaves: all that wait, in memory of its own, or nil. -/
def RetList (c : CliD) (w : World) (r : Ending) (w' : World) : Prop := ∃ va, r = .returned va ∧ w'.ownsRow w.heap.size 55 7 va c.wait.length (cellsE c.wait) ∧ Below w.heap.size w w'
def RetEach (X base : Nat) (c : CliD) (w : World) (r : Ending) (w' : World) : Prop := r = .returned (.tuple #[]) ∧ ∃ va, Bx w' X 31 #[va] ∧ w'.ownsRow base 55 7 va c.wait.length (cellsE c.wait) ∧ But X base w w'
set_option maxRecDepth 100000 in
set_option maxHeartbeats 4000000 in
theorem each_list (B X : Nat) (cs : Array Value) (c : CliD) (v : Value) (f : Nat) (w : World) (h : Bx w B 60 cs) (hd : DeskV cs c v f) (hf : f + c.wait.length ≤ 41) (hX : Bx w X 31 #[.slice none 0 0]) (hne : B ≠ X) :
    Calls Tryd.prog 64 #[.pointer (some ⟨B, 3, none⟩), .func (.func 65) #[] #[.pointer (some ⟨X, 0, none⟩)]] w (RetEach X w.heap.size c w) := by
  have x1 := h.cell 283 hd.first
  have hXlt := hX.lt
  go_enter Tryd.func64, Tryd.ntmps64
  go_upto_region 1 with fail
  go_loopw [4] (fun t wr => ∃ (k : Nat) (va : Value), k ≤ c.wait.length ∧ t = .int .i64 ((f + k : Nat) : Int) ∧ Bx wr X 31 #[va] ∧ wr.ownsRow w.heap.size 55 7 va k (cellsE (c.wait.take k)) ∧ But X w.heap.size w wr) (fun t _ => f + c.wait.length - (intOf t).toNat)
  case atStart => exact ⟨0, .slice none 0 0, Nat.zero_le _, rfl, hX, World.ownsRow_nil _ _ _ _, But.refl _ _ _⟩
  case round =>
    obtain ⟨k, va, hk, rfl, X1, own1, b1⟩ := hrel
    have H1 : Bx wr B 60 cs := h.but b1 h.lt hne
    clear x1
    have x2 := H1.cell 284 hd.end_
    by_cases hlt : k < c.wait.length
    · have i1 : ((f + k : Nat) : Int) < ((f + c.wait.length : Nat) : Int) := by omega
      have hrng : ∀ j, j < 7 → cs[slotAt (f + k) + j]? = some (ecell (eat c.wait k) j) := fun j hj => hd.ring k hlt j hj
      have hs : f + k ≤ 1000 := by omega
      have htl : (c.wait.take k).length = k := by rw [List.length_take]; omega
      have htk : c.wait.take (k + 1) = c.wait.take k ++ [eat c.wait k] := by
        rw [List.take_succ_eq_append_getElem hlt]; simp [eat, hlt]
      have HTK := Lib.hid htk
      have hb1 := b1.size
      have HC : Hid (Calls Tryd.prog 65 #[.agg #[.int .i64 (eat c.wait k).who, .int .i64 (eat c.wait k).seq, .int .i64 (eat c.wait k).op.kind, .int .i64 (eat c.wait k).op.id, .int .i64 (eat c.wait k).op.up, .int .i64 (eat c.wait k).op.at_, .string (eat c.wait k).op.txt], .pointer (some ⟨X, 0, none⟩)] wr (RetVisit w.heap.size X (c.wait.take k) (eat c.wait k) wr)) := list1_any w.heap.size X va (c.wait.take k) (eat c.wait k) wr X1 (by rw [htl]; exact own1) hb1 hXlt (by omega)
      have HTL := Lib.hid htl
      clear htk htl
      generalize eat c.wait k = e at *
      have r0 : wr.cell? ⟨B, slotAt (f + k), none⟩ = some (.int .i64 e.who) := H1.cell _ (hrng 0 (by decide))
      have r1 : wr.cell? ⟨B, slotAt (f + k) + 1, none⟩ = some (.int .i64 e.seq) := H1.cell _ (hrng 1 (by decide))
      have r2 : wr.cell? ⟨B, slotAt (f + k) + 2, none⟩ = some (.int .i64 e.op.kind) := H1.cell _ (hrng 2 (by decide))
      have r3 : wr.cell? ⟨B, slotAt (f + k) + 3, none⟩ = some (.int .i64 e.op.id) := H1.cell _ (hrng 3 (by decide))
      have r4 : wr.cell? ⟨B, slotAt (f + k) + 4, none⟩ = some (.int .i64 e.op.up) := H1.cell _ (hrng 4 (by decide))
      have r5 : wr.cell? ⟨B, slotAt (f + k) + 5, none⟩ = some (.int .i64 e.op.at_) := H1.cell _ (hrng 5 (by decide))
      have r6 : wr.cell? ⟨B, slotAt (f + k) + 6, none⟩ = some (.string e.op.txt) := H1.cell _ (hrng 6 (by decide))
      clear hrng
      go_wp2_with ((go_at_call 61; refine (slot_any B (f + k) _ hs).mono ?_; rintro _ _ ⟨rfl, rfl⟩))
      refine HC.out.mono ?_
      rintro _ w2 ⟨rfl, vb, X2, own2, b2⟩
      rw [HTL.out, ← HTK.out] at own2
      have b3 := b1.trans b2
      clear r0 r1 r2 r3 r4 r5 r6 x2 H1 X1 own1 b1 b2
      go_wp2
      go_roundw
      case rel => exact ⟨k + 1, vb, by omega, by go_num, X2, own2, b3⟩
      case measure => simp [intOf]; omega
    · obtain rfl : k = c.wait.length := by omega
      rw [List.take_length] at own1
      go_wp2
      go_end0
      exact ⟨rfl, va, X1, own1, b1⟩
theorem list_ring (B : Nat) (cs : Array Value) (c : CliD) (v : Value) (f : Nat) (w : World) (h : Bx w B 60 cs) (hd : DeskV cs c v f) (hf : f + c.wait.length ≤ 41) :
    Calls Tryd.prog 50 #[.pointer (some ⟨B, 3, none⟩)] w (RetList c w) := by
  have H1 := h.alloc (.cells #[.slice none 0 0] 31)
  have X1 := Bx.new w 31 #[.slice none 0 0]
  have al := (Below.refl w.heap.size w).alloc (Nat.le_refl _) (.cells #[.slice none 0 0] 31)
  have hlt := h.lt
  clear h
  go_enter Tryd.func50, Tryd.ntmps50
  go_upto_region 2 with fail
  generalize w.alloc (.cells #[.slice none 0 0] 31) = w1 at *
  go_wp2_with fail
  refine (each_list B w.heap.size cs c v f w1 H1 hd hf X1 (by omega)).mono ?_
  rintro _ w2 ⟨rfl, va, X2, own2, b2⟩
  have x2 := X2.cell 0 rfl
  have hs := al.size
  clear H1 X1
  go_wp2
  go_ret
  exact ⟨va, rfl, own_mono own2 al.size, al.trans (b2.below (Nat.le_refl _) al.size)⟩
end Go.Proofs.YtogafpfgdonlmaaDoor
