/-
  Contracts of the program's (*node).nearest and where: the nodes under which and behind which a change puts its row. Conditions: the nodes lie in memory as treeOf makes them of a valid outline.
-/
import Derived.Test.YtefelnodahcolaaDoorTImpl2
import Derived.Test.YtefelnodahcolaaDoorChangeOf
import Derived.Test.YtefelnodahcolaaDoorTDo1
namespace Go.Proofs.YtefelnodahcolaaDoor
open Go.ChangeShapes Go.WideShapes Go.ChangeAt Go.RowKit Go.Joins

theorem padr_none (nb : Nat → Nat) : padr nb none = none := rfl
theorem padr_some (nb : Nat → Nat) (i : Nat) : padr nb (some i) = some ⟨nb i, 0, none⟩ := rfl
/-- The node of a number, if it is there. -/
def nodeO (rs : List RowD) (id : Int) : Option Nat := if thereB rs id then some (atN rs id + 1) else none
theorem nodeO_yes {rs : List RowD} {id : Int} (h : thereB rs id = true) : nodeO rs id = some (atN rs id + 1) := by simp [nodeO, h]
theorem nodeO_no {rs : List RowD} {id : Int} (h : thereB rs id = false) : nodeO rs id = none := by simp [nodeO, h]
theorem there_lt {rs : List RowD} {id : Int} (h : thereB rs id = true) : atN rs id < rs.length := by simpa [thereB] using h
theorem fnd_node {rs : List RowD} {id : Int} (ht : treeB rs = true) : fndO rs (nodesN rs) id = nodeO rs id := by
  cases h : thereB rs id
  · rw [nodeO_no h, fnd_no]
    simp only [thereB] at h
    simp [hasB, ht, h]
  · rw [nodeO_yes h, fnd_yes]
    rw [hasB_iff]; exact ⟨ht, there_lt h⟩
theorem find_tree (nb : Nat → Nat) (rs : List RowD) (ht : treeB rs = true) (id : Int) (w : World) (hN : Nodes w nb rs (rs.length + 1)) :
    Calls Tryd.prog 44 #[.pointer (some ⟨nb 0, 0, none⟩), .int .i64 id] w (RetBelow (.pointer (padr nb (nodeO rs id))) w) := by
  have := find_any nb rs id w (by rw [nodesN_tree ht]; exact hN)
  rw [fnd_node ht] at this
  exact this
def nearU (rs : List RowD) (up : Int) : Option Nat := if thereB rs up then some (atN rs up + 1) else nodeO rs 3
def nearA (rs : List RowD) (up at' : Int) (row : Option Nat) : Option Nat :=
  if thereB rs up && thereB rs at' && !(row == some (atN rs at' + 1)) && (par (dp rs) (atN rs at' + 1) == atN rs up + 1) then some (atN rs at' + 1) else none
theorem eql_other {w : World} {a b : Nat} {ca cb : Array Value} {ta tb : TypeId} (hne : a ≠ b) (ha : w.heap[a]? = some (.cells ca ta (0, 0))) (hb : w.heap[b]? = some (.cells cb tb (0, 0))) :
    (binOp .eql 63 (.pointer (some ⟨a, 0, none⟩)) (.pointer (some ⟨b, 0, none⟩))).run Tryd.prog w = .ok (.bool false) w := by
  simp only [binOp]
  simp [equal_nodes (run_sameAddr_other (P := Tryd.prog) (w := w) (a := ⟨a, 0, none⟩) (b := ⟨b, 0, none⟩) (fun e => by cases e; exact hne rfl) ha hb)]
theorem eql_nil2 (w : World) (b : Nat) : (binOp .eql 63 (.pointer (some ⟨b, 0, none⟩)) (.pointer none)).run Tryd.prog w = .ok (.bool false) w := by
  have : (Op.equal 63 (.pointer (some ⟨b, 0, none⟩)) (.pointer none)).run Tryd.prog w = .ok false w := by
    show (Op.equalIn (9999 + 1) 63 (.pointer (some ⟨b, 0, none⟩)) (.pointer none)).run Tryd.prog w = _
    generalize 9999 = d
    unfold Op.equalIn
    simp [run_underlying Tryd.underlying63]
  simp only [binOp]
  simp [this]
theorem spot_cells (w : World) (u a : Int) : let W := w.alloc (.cells #[.int .i64 u, .int .i64 a] 67);
    (∀ x : Later W, x.x.cell? ⟨w.heap.size, 0, none⟩ = some (.int .i64 u)) ∧ (∀ x : Later W, x.x.cell? ⟨w.heap.size, 1, none⟩ = some (.int .i64 a)) :=
  ⟨later_cell (by simp [go_sem]) (by simp), later_cell (by simp [go_sem]) (by simp)⟩
set_option maxRecDepth 100000 in
set_option maxHeartbeats 2000000 in
theorem nearest_any (nb : Nat → Nat) (rs : List RowD) (ht : treeB rs = true) (up at' : Int) (row : Option Nat) (w : World) (hN : Nodes w nb rs (rs.length + 1)) (hrow : ∀ r, row = some r → r < rs.length + 1) :
    Calls Tryd.prog 72 #[.pointer (some ⟨nb 0, 0, none⟩), .agg #[.int .i64 up, .int .i64 at'], .pointer (padr nb row)] w
      (RetBelow (.tuple #[.pointer (padr nb (nearU rs up)), .pointer (padr nb (nearA rs up at' row))]) w) := by
  have hD := (treeP_of ht).deps
  have hb : Below w.heap.size w (w.alloc (.cells #[.int .i64 up, .int .i64 at'] 67)) := (Below.refl _ _).alloc (Nat.le_refl _) _
  have hN1 := hN.below hb
  obtain ⟨L0, L1⟩ := spot_cells w up at'
  have HC : Hid (∀ (id : Int) (x : Later (w.alloc (.cells #[.int .i64 up, .int .i64 at'] 67))), Calls Tryd.prog 44 #[.pointer (some ⟨nb 0, 0, none⟩), .int .i64 id] x.x (RetBelow (.pointer (padr nb (nodeO rs id))) x.x)) := fun id x => find_tree nb rs ht id x.x (hN1.below x.h)
  have HF : Hid (∀ (id : Int) (x : World), Nodes x nb rs (rs.length + 1) → Calls Tryd.prog 44 #[.pointer (some ⟨nb 0, 0, none⟩), .int .i64 id] x (RetBelow (.pointer (padr nb (nodeO rs id))) x)) := fun id x hx => find_tree nb rs ht id x hx
  have HD := Lib.hid hD
  clear hD
  cases hu : thereB rs up
  · have hU : nearU rs up = nodeO rs 3 := by simp [nearU, hu]
    have hA : nearA rs up at' row = none := by simp [nearA, hu]
    rw [hU, hA]
    have HNo := Lib.hid (nodeO_no hu)
    clear hU hA hu hrow
    generalize hov : nodeO rs at' = ov at *
    go_enter Tryd.func72, Tryd.ntmps72
    go_wp2_with fail
    refine wp_region_later (by kernel_rfl) (by kernel_rfl) ?_
    repeat (go_big_quiet_step ((go_at_call 44; exact later_of (HC.out _ _))))
    refine wpQuiet_nil ?_
    rintro wn ⟨⟨_, hbn⟩, rfl⟩
    clear L0 L1
    rw [HNo.out]
    simp only [padr_none]
    have hb2 := hb.trans (hbn.mono hb.size)
    go_wp2_with fail
    refine (HF.out _ _ (hN.below hb2)).mono ?_
    rintro e w3 ⟨rfl, hb3⟩
    go_wp2
    go_ret2
    exact ⟨rfl, hb2.trans (hb3.mono hb2.size)⟩
  · have hU : nearU rs up = some (atN rs up + 1) := by simp [nearU, hu]
    have hul := there_lt hu
    rw [hU]
    have HNo := Lib.hid (nodeO_yes hu)
    clear hU
    cases ha : thereB rs at'
    · have hA : nearA rs up at' row = none := by simp [nearA, ha]
      rw [hA]
      have HNa := Lib.hid (nodeO_no ha)
      clear hA ha hu hrow
      go_enter Tryd.func72, Tryd.ntmps72
      go_wp2_with fail
      refine wp_region_later (by kernel_rfl) (by kernel_rfl) ?_
      repeat (go_big_quiet_step ((go_at_call 44; exact later_of (HC.out _ _))))
      refine wpQuiet_nil ?_
      rintro wn ⟨⟨_, hbn⟩, rfl⟩
      clear L0 L1
      rw [HNo.out, HNa.out]
      simp only [padr_none, padr_some]
      have hb2 := hb.trans (hbn.mono hb.size)
      go_wp2
      go_ret2
      exact ⟨rfl, hb2⟩
    · have HNa := Lib.hid (nodeO_yes ha)
      have hal := there_lt ha
      have hpa := (par_spec HD.out (show 1 ≤ atN rs at' + 1 by omega) (by omega)).1
      have HAd : Hid (nearA rs up at' row = if !(row == some (atN rs at' + 1)) && (par (dp rs) (atN rs at' + 1) == atN rs up + 1) then some (atN rs at' + 1) else none) := by simp [Hid, nearA, hu, ha]
      have HUO : Hid (upO rs (atN rs at' + 1) = some (par (dp rs) (atN rs at' + 1))) := by unfold Hid upO; rw [if_neg (by omega)]
      clear hu ha
      generalize hAA : nearA rs up at' row = AA at *
      clear hAA
      generalize hx : atN rs at' + 1 = x at *
      have hxl : x < rs.length + 1 := by omega
      clear hx
      generalize hy : atN rs up + 1 = y at *
      have hyl : y < rs.length + 1 := by omega
      clear hy
      go_enter Tryd.func72, Tryd.ntmps72
      go_wp2_with fail
      refine wp_region_later (by kernel_rfl) (by kernel_rfl) ?_
      repeat (go_big_quiet_step ((go_at_call 44; exact later_of (HC.out _ _))))
      refine wpQuiet_nil ?_
      rintro wn ⟨⟨_, hbn⟩, rfl⟩
      clear L0 L1 HC HF hal hul
      rw [HNo.out, HNa.out]
      simp only [padr_some]
      have hb2 := hb.trans (hbn.mono hb.size)
      have hN2 := hN.below hb2
      rename_i wn _
      generalize par (dp rs) x = p at *
      have l3 := (hN2.links hxl).1
      rw [HUO.out] at l3
      simp only [padr_some] at l3
      by_cases hrx : row = some x
      · have HA : Hid (AA = none) := by rw [Hid, HAd.out]; simp [hrx]
        subst hrx
        simp only [padr_some]
        have hq := eql_same wn (nb x)
        go_wp2
        go_ret2
        exact ⟨by rw [HA.out]; rfl, hb2⟩
      · have hrb : (row == some x) = false := by simpa using hrx
        have HA : Hid (AA = if p == y then some x else none) := by rw [Hid, HAd.out, hrb]; simp
        have hq : (binOp .eql 63 (.pointer (some ⟨nb x, 0, none⟩)) (.pointer (padr nb row))).run Tryd.prog wn = .ok (.bool false) wn := by
          cases row with
          | none => exact eql_nil2 wn (nb x)
          | some r => exact eql_other (hN2.ne hxl (hrow r rfl) (fun e => hrx (by rw [e]))) (hN2.blk x hxl) (hN2.blk r (hrow r rfl))
        by_cases hpy : p = y
        · subst hpy
          have HA2 : Hid (AA = some x) := by rw [Hid, HA.out]; simp
          have hq2 := neq_same wn (nb p)
          go_wp2
          go_ret2
          exact ⟨by rw [HA2.out]; rfl, hb2⟩
        · have HA2 : Hid (AA = none) := by rw [Hid, HA.out]; simp [hpy]
          have hpl : p < rs.length + 1 := by omega
          have hq2 := neq_other (w := wn) (hN2.ne hpl hyl hpy) (hN2.blk p hpl) (hN2.blk y hyl)
          go_wp2
          go_ret2
          exact ⟨by rw [HA2.out]; rfl, hb2⟩
end Go.Proofs.YtefelnodahcolaaDoor
