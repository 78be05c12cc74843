/-
  Joined texts, each with its own head: what it holds, and its conditions.
-/
import Derived.Test.YtclhjgcapalniaaDoorGC
import Derived.Test.YtclhjgcapalniaaDoorGA
import Derived.Test.YtclhjgcapalniaaDoorGB
import Derived.Sort.LoopGhostIn
import Derived.RangeFuncBox

/-
  Contract of the program's (*node).where: the nodes under which and behind which a change puts its row. Conditions: the nodes lie in memory as treeOf makes them of a valid outline.
-/
namespace Go.Proofs.YtclhjgcapalniaaDoor
open Go.ChangeShapes Go.WideShapes Go.ChangeAt Go.RowKit Go.Joins

theorem as_mak_mak (v : Value) (w : World) : (Instr.typeAssert (.iface 81 v) 75 81 true).run Tryd.prog w = .ok (.tuple #[v, .bool true]) w := by kernel_rfl
theorem as_wor_mak (v : Value) (w : World) : (Instr.typeAssert (.iface 86 v) 75 81 true).run Tryd.prog w = .ok (.tuple #[.agg #[.int .i64 0, .int .i64 0, .int .i64 0, .string ⟨#[]⟩], .bool false]) w := by kernel_rfl
theorem as_mov_mak (v : Value) (w : World) : (Instr.typeAssert (.iface 88 v) 75 81 true).run Tryd.prog w = .ok (.tuple #[.agg #[.int .i64 0, .int .i64 0, .int .i64 0, .string ⟨#[]⟩], .bool false]) w := by kernel_rfl
theorem as_wor_wor (v : Value) (w : World) : (Instr.typeAssert (.iface 86 v) 75 86 true).run Tryd.prog w = .ok (.tuple #[v, .bool true]) w := by kernel_rfl
theorem as_mov_wor (v : Value) (w : World) : (Instr.typeAssert (.iface 88 v) 75 86 true).run Tryd.prog w = .ok (.tuple #[.agg #[.int .i64 0, .string ⟨#[]⟩], .bool false]) w := by kernel_rfl
theorem as_wor_mov (v : Value) (w : World) : (Instr.typeAssert (.iface 86 v) 75 88 true).run Tryd.prog w = .ok (.tuple #[.agg #[.int .i64 0, .int .i64 0, .int .i64 0], .bool false]) w := by kernel_rfl
theorem as_mov_mov (v : Value) (w : World) : (Instr.typeAssert (.iface 88 v) 75 88 true).run Tryd.prog w = .ok (.tuple #[v, .bool true]) w := by kernel_rfl
set_option maxRecDepth 100000 in
set_option maxHeartbeats 1000000 in
theorem where1 (nb : Nat → Nat) (rs : List RowD) (ht : treeB rs = true) (o : OpD) (hk : o.kind = 1) (w : World) (hN : Nodes w nb rs (rs.length + 1)) :
    Calls Tryd.prog 49 #[.pointer (some ⟨nb 0, 0, none⟩), .iface 81 (.agg #[.int .i64 o.id, .int .i64 o.up, .int .i64 o.at_, .string o.txt])] w
      (RetBelow (.tuple #[.pointer (padr nb (whU rs o)), .pointer (padr nb (whA rs o))]) w) := by
  have hno := noWhere1 (rs := rs) hk
  have hb : Below w.heap.size w (w.alloc (.cells #[.int .i64 o.id, .int .i64 o.up, .int .i64 o.at_, .string o.txt] 81)) := (Below.refl _ _).alloc (Nat.le_refl _) _
  have hlt : w.heap.size < (w.alloc (.cells #[.int .i64 o.id, .int .i64 o.up, .int .i64 o.at_, .string o.txt] 81)).heap.size := by simp
  have C0 : ∀ x : Later (w.alloc (.cells #[.int .i64 o.id, .int .i64 o.up, .int .i64 o.at_, .string o.txt] 81)), x.x.cell? ⟨w.heap.size, 0, none⟩ = some (.int .i64 o.id) := later_cell (by simp [go_sem]) hlt
  have HC2 : Hid (∀ x : Later (w.alloc (.cells #[.int .i64 o.id, .int .i64 o.up, .int .i64 o.at_, .string o.txt] 81)), x.x.cell? ⟨w.heap.size, 1, none⟩ = some (.int .i64 o.up) ∧ x.x.cell? ⟨w.heap.size, 2, none⟩ = some (.int .i64 o.at_)) := fun x => ⟨later_cell (by simp [go_sem]) hlt x, later_cell (by simp [go_sem]) hlt x⟩
  have HC : Hid (∀ (id : Int) (x : Later (w.alloc (.cells #[.int .i64 o.id, .int .i64 o.up, .int .i64 o.at_, .string o.txt] 81))), Calls Tryd.prog 47 #[.pointer (some ⟨nb 0, 0, none⟩), .int .i64 id] x.x (RetBelow (.pointer (padr nb (nodeO rs id))) x.x)) := fun id x => find_tree nb rs ht id x.x ((hN.below hb).below x.h)
  cases hi : thereB rs o.id
  · rw [hi] at hno
    have HU := Lib.hid (near_whU ht hno)
    have HA := Lib.hid (near_whA ht (.inl hk) hno)
    have HR : Hid (rowO rs o = none) := by unfold Hid rowO; rw [if_neg (by omega)]
    have HF := Lib.hid (nodeO_no hi)
    clear hno hi hk
    have X1 := as_mak_mak
    go_enter Tryd.func49, Tryd.ntmps49
    go_wp2_with fail
    refine (find_tree nb rs ht o.id _ (hN.below hb)).mono ?_
    rintro e wn ⟨rfl, hbn⟩
    obtain ⟨d0, d1⟩ := HC2.out ⟨_, hbn⟩
    clear C0 HC2
    rw [HF.out, padr_none]
    have b2 := hb.trans (hbn.mono hb.size)
    go_wp2_with fail
    refine (nearest_any nb rs ht o.up o.at_ none _ (hN.below b2) (fun r h => by cases h)).mono ?_
    rintro e w3 ⟨rfl, hb3⟩
    rw [HU.out]
    have HA' := HA.out
    rw [HR.out] at HA'
    rw [HA']
    clear HA HA'
    go_wp2
    go_ret2
    exact ⟨rfl, b2.trans (hb3.mono b2.size)⟩
  · rw [hi] at hno
    obtain ⟨e1, e2⟩ := wh_no hno
    rw [e1, e2, padr_none]
    have HF := Lib.hid (nodeO_yes hi)
    clear hno hi hk e1 e2
    have X1 := as_mak_mak
    go_enter Tryd.func49, Tryd.ntmps49
    go_wp2_with fail
    refine (find_tree nb rs ht o.id _ (hN.below hb)).mono ?_
    rintro e wn ⟨rfl, hbn⟩
    clear C0 HC2
    rw [HF.out, padr_some]
    go_wp2
    go_ret2
    exact ⟨rfl, hb.trans (hbn.mono hb.size)⟩
set_option maxRecDepth 100000 in
theorem where2 (nb : Nat → Nat) (rs : List RowD) (o : OpD) (hk : o.kind = 2) (w : World) :
    Calls Tryd.prog 49 #[.pointer (some ⟨nb 0, 0, none⟩), .iface 86 (.agg #[.int .i64 o.id, .string o.txt])] w
      (RetBelow (.tuple #[.pointer (padr nb (whU rs o)), .pointer (padr nb (whA rs o))]) w) := by
  obtain ⟨e1, e2⟩ := wh_no (noWhere2 (rs := rs) hk)
  rw [e1, e2, padr_none]
  have X1 := as_wor_mak
  have X2 := as_wor_mov
  go_enter Tryd.func49, Tryd.ntmps49
  go_wp2
  go_ret2
  exact ⟨rfl, Below.refl _ _⟩
set_option maxRecDepth 100000 in
set_option maxHeartbeats 1000000 in
theorem where3 (nb : Nat → Nat) (rs : List RowD) (ht : treeB rs = true) (o : OpD) (hk : o.kind = 3) (w : World) (hN : Nodes w nb rs (rs.length + 1)) :
    Calls Tryd.prog 49 #[.pointer (some ⟨nb 0, 0, none⟩), .iface 88 (.agg #[.int .i64 o.id, .int .i64 o.up, .int .i64 o.at_])] w
      (RetBelow (.tuple #[.pointer (padr nb (whU rs o)), .pointer (padr nb (whA rs o))]) w) := by
  have hD := Lib.hid (treeP_of ht).deps
  have hno := noWhere3 (rs := rs) hk
  have hb : Below w.heap.size w (w.alloc (.cells #[.int .i64 o.id, .int .i64 o.up, .int .i64 o.at_] 88)) := (Below.refl _ _).alloc (Nat.le_refl _) _
  have hlt : w.heap.size < (w.alloc (.cells #[.int .i64 o.id, .int .i64 o.up, .int .i64 o.at_] 88)).heap.size := by simp
  have C0 : ∀ x : Later (w.alloc (.cells #[.int .i64 o.id, .int .i64 o.up, .int .i64 o.at_] 88)), x.x.cell? ⟨w.heap.size, 0, none⟩ = some (.int .i64 o.id) := later_cell (by simp [go_sem]) hlt
  have C1 : ∀ x : Later (w.alloc (.cells #[.int .i64 o.id, .int .i64 o.up, .int .i64 o.at_] 88)), x.x.cell? ⟨w.heap.size, 1, none⟩ = some (.int .i64 o.up) := later_cell (by simp [go_sem]) hlt
  have C2 : ∀ x : Later (w.alloc (.cells #[.int .i64 o.id, .int .i64 o.up, .int .i64 o.at_] 88)), x.x.cell? ⟨w.heap.size, 2, none⟩ = some (.int .i64 o.at_) := later_cell (by simp [go_sem]) hlt
  have HC : Hid (∀ (id : Int) (x : Later (w.alloc (.cells #[.int .i64 o.id, .int .i64 o.up, .int .i64 o.at_] 88))), Calls Tryd.prog 47 #[.pointer (some ⟨nb 0, 0, none⟩), .int .i64 id] x.x (RetBelow (.pointer (padr nb (nodeO rs id))) x.x)) := fun id x => find_tree nb rs ht id x.x ((hN.below hb).below x.h)
  have HC2 : Hid (∀ x : Later (w.alloc (.cells #[.int .i64 o.id, .int .i64 o.up, .int .i64 o.at_] 88)), x.x.cell? ⟨w.heap.size, 1, none⟩ = some (.int .i64 o.up) ∧ x.x.cell? ⟨w.heap.size, 2, none⟩ = some (.int .i64 o.at_)) := fun x => ⟨C1 x, C2 x⟩
  cases hi : thereB rs o.id
  · have hno1 : noWhereB rs o = true := by rw [hno, hi]; rfl
    obtain ⟨e1, e2⟩ := wh_no hno1
    rw [e1, e2, padr_none]
    have HF := Lib.hid (nodeO_no hi)
    clear hno hno1 hi hk e1 e2
    have X1 := as_mov_mak
    have X2 := as_mov_mov
    go_enter Tryd.func49, Tryd.ntmps49
    go_wp2_with fail
    refine wp_region_later (by kernel_rfl) (by kernel_rfl) ?_
    repeat (go_big_quiet_step ((go_at_call 47; exact later_of (HC.out _ _))))
    refine wpQuiet_nil ?_
    rintro wn ⟨⟨_, hbn⟩, rfl⟩
    clear C0 C1 C2
    rw [HF.out, padr_none]
    go_wp2
    go_ret2
    exact ⟨rfl, hb.trans (hbn.mono hb.size)⟩
  · have HF := Lib.hid (nodeO_yes hi)
    have HR : Hid (rowO rs o = some (atN rs o.id + 1)) := by unfold Hid rowO; rw [if_pos hk]; exact HF.out
    have hil := there_iff.1 hi
    cases hu : thereB rs o.up
    · have hno1 : noWhereB rs o = false := by rw [hno, hi, undB_gone hu]; rfl
      have HU := Lib.hid (near_whU ht hno1)
      have HA := Lib.hid (near_whA ht (.inr hk) hno1)
      have HG := Lib.hid (nodeO_no hu)
      clear hno hno1 hi hu hk
      have X1 := as_mov_mak
      have X2 := as_mov_mov
      go_enter Tryd.func49, Tryd.ntmps49
      go_wp2_with fail
      refine wp_region_later (by kernel_rfl) (by kernel_rfl) ?_
      repeat (go_big_quiet_step ((go_at_call 47; exact later_of (HC.out _ _))))
      refine wpQuiet_nil ?_
      rintro wn ⟨⟨_, hbn⟩, rfl⟩
      obtain ⟨d0, d1⟩ := HC2.out ⟨_, hbn⟩
      clear C0 C1 C2 HC2
      rw [HF.out, HG.out]
      simp only [padr_none, padr_some]
      have b2 := hb.trans (hbn.mono hb.size)
      go_wp2_with fail
      refine (nearest_any nb rs ht o.up o.at_ (some (atN rs o.id + 1)) _ (hN.below b2) (fun r h => by cases h; omega)).mono ?_
      rintro e w3 ⟨rfl, hb3⟩
      rw [HU.out]
      have HA' := HA.out
      rw [HR.out] at HA'
      rw [HA']
      clear HA HA'
      go_wp2
      go_ret2
      exact ⟨rfl, b2.trans (hb3.mono b2.size)⟩
    · have HG := Lib.hid (nodeO_yes hu)
      have hul := there_iff.1 hu
      have hund := undB_node ht hu hi
      cases hx : undB rs o.up o.id
      · have hno1 : noWhereB rs o = false := by rw [hno, hi, hx]; rfl
        have HU := Lib.hid (near_whU ht hno1)
        have HA := Lib.hid (near_whA ht (.inr hk) hno1)
        rw [hx] at hund
        have HX := Lib.hid hund
        clear hno hno1 hi hu hk hx hund
        have X1 := as_mov_mak
        have X2 := as_mov_mov
        go_enter Tryd.func49, Tryd.ntmps49
        go_wp2_with fail
        refine wp_region_later (by kernel_rfl) (by kernel_rfl) ?_
        repeat (go_big_quiet_step ((go_at_call 47; exact later_of (HC.out _ _))))
        refine wpQuiet_nil ?_
        rintro wn ⟨⟨_, hbn⟩, rfl⟩
        obtain ⟨d0, d1⟩ := HC2.out ⟨_, hbn⟩
        clear C0 C1 C2 HC2
        rw [HF.out, HG.out]
        simp only [padr_some]
        have b2 := hb.trans (hbn.mono hb.size)
        go_wp2_with fail
        refine (under_any nb rs (atN rs o.up + 1) (atN rs o.id + 1) _ hD.out (hN.below b2) (by omega) (by omega) (by omega)).mono ?_
        rintro e w' ⟨rfl, rfl⟩
        rw [← HX.out]
        go_wp2_with fail
        refine (nearest_any nb rs ht o.up o.at_ (some (atN rs o.id + 1)) _ (hN.below b2) (fun r h => by cases h; omega)).mono ?_
        rintro e w3 ⟨rfl, hb3⟩
        rw [HU.out]
        have HA' := HA.out
        rw [HR.out] at HA'
        rw [HA']
        clear HA HA'
        go_wp2
        go_ret2
        exact ⟨rfl, b2.trans (hb3.mono b2.size)⟩
      · have hno1 : noWhereB rs o = true := by rw [hno, hi, hx]; rfl
        obtain ⟨e1, e2⟩ := wh_no hno1
        rw [e1, e2, padr_none]
        rw [hx] at hund
        have HX := Lib.hid hund
        clear hno hno1 hi hu hk hx hund e1 e2
        have X1 := as_mov_mak
        have X2 := as_mov_mov
        go_enter Tryd.func49, Tryd.ntmps49
        go_wp2_with fail
        refine wp_region_later (by kernel_rfl) (by kernel_rfl) ?_
        repeat (go_big_quiet_step ((go_at_call 47; exact later_of (HC.out _ _))))
        refine wpQuiet_nil ?_
        rintro wn ⟨⟨_, hbn⟩, rfl⟩
        clear C0 C1 C2 HC2
        rw [HF.out, HG.out]
        simp only [padr_some]
        have b2 := hb.trans (hbn.mono hb.size)
        go_wp2_with fail
        refine (under_any nb rs (atN rs o.up + 1) (atN rs o.id + 1) _ hD.out (hN.below b2) (by omega) (by omega) (by omega)).mono ?_
        rintro e w' ⟨rfl, rfl⟩
        rw [← HX.out]
        go_wp2
        go_ret2
        exact ⟨rfl, b2⟩
theorem where_any (nb : Nat → Nat) (rs : List RowD) (ht : treeB rs = true) (o : OpD) (hk : o.kind = 1 ∨ o.kind = 2 ∨ o.kind = 3) (w : World) (hN : Nodes w nb rs (rs.length + 1)) :
    Calls Tryd.prog 49 #[.pointer (some ⟨nb 0, 0, none⟩), chV o] w (RetBelow (.tuple #[.pointer (padr nb (whU rs o)), .pointer (padr nb (whA rs o))]) w) := by
  rcases hk with hk | hk | hk
  · have : chV o = .iface 81 (.agg #[.int .i64 o.id, .int .i64 o.up, .int .i64 o.at_, .string o.txt]) := by simp [chV, hk]
    rw [this]; exact where1 nb rs ht o hk w hN
  · have : chV o = .iface 86 (.agg #[.int .i64 o.id, .string o.txt]) := by simp [chV, hk]
    rw [this]; exact where2 nb rs o hk w
  · have : chV o = .iface 88 (.agg #[.int .i64 o.id, .int .i64 o.up, .int .i64 o.at_]) := by simp [chV, hk]
    rw [this]; exact where3 nb rs ht o hk w hN
end Go.Proofs.YtclhjgcapalniaaDoor
/-
  Contracts of the model's l3Id, OpOk and OpWhere. Conditions: as each theorem says.
-/
namespace Go.Proofs.YtclhjgcapalniaaDoor
open Go.ChangeShapes Go.WideShapes Go.ChangeAt Go.RowKit Go.Joins

/-- The fields fit Go's types. -/
structure OpFit (o : OpD) : Prop where
  id : I64 o.id
  up : I64 o.up
  at_ : I64 o.at_
  txt : o.txt.size ≤ maxLen
theorem l3Id_any (id : Int) (w : World) (hI : I64 id) :
    Calls Tryd.prog 79 #[.int .i64 id] w fun e w' => e = .returned (.bool (whoB id)) ∧ w = w' := by
  cases h1 : rootB id
  · have e : whoB id = madeB id := by simp [whoB, h1]
    rw [e]; clear e
    go_enter Tryd.func79, Tryd.ntmps79
    go_wp2_with fail
    refine (l1Root_any _ _).mono ?_
    rintro e w' ⟨rfl, rfl⟩
    rw [h1]
    go_wp2_with fail
    refine (l1Made_any _ _ hI).mono ?_
    rintro e w' ⟨rfl, rfl⟩
    go_wp2
    go_ret
    exact ⟨rfl, rfl⟩
  · have e : whoB id = true := by simp [whoB, h1]
    rw [e]; clear e
    go_enter Tryd.func79, Tryd.ntmps79
    go_wp2_with fail
    refine (l1Root_any _ _).mono ?_
    rintro e w' ⟨rfl, rfl⟩
    rw [h1]
    go_wp2
    go_ret
    exact ⟨rfl, rfl⟩
theorem textB_nil {t : ByteArray} (h : (t.toList == []) = true) : textB t = true := by
  rw [beq_iff_eq] at h
  have h2 : t = ⟨#[]⟩ := by
    have : t.data.toList = [] := by rw [← ByteArray.toList_eq]; exact h
    cases t with
    | mk d => simp at this; rw [this]
  rw [h2]; decide
set_option maxHeartbeats 1000000 in
theorem specOpOk_any (o : OpD) (w : World) (hf : OpFit o) :
    Calls Tryd.prog 35 #[.agg #[.int .i64 o.kind, .int .i64 o.id, .int .i64 o.up, .int .i64 o.at_, .string o.txt]] w (RetBelow (.bool (opokB o)) w) := by
  have hb : Below w.heap.size w (w.alloc (.cells #[.int .i64 o.kind, .int .i64 o.id, .int .i64 o.up, .int .i64 o.at_, .string o.txt] 27)) := (Below.refl _ _).alloc (Nat.le_refl _) _
  obtain ⟨f1, f2, f3, f4⟩ := hf
  cases hm : madeB o.id
  · have HF : Hid (opokB o = false) := by unfold Hid opokB; rw [hm]; simp
    rw [HF.out]
    go_enter Tryd.func35, Tryd.ntmps35
    go_wp2_with fail
    refine (l1Made_any _ _ f1).mono ?_
    rintro e w' ⟨rfl, rfl⟩
    rw [hm]
    go_wp2
    go_ret
    exact ⟨rfl, hb⟩
  · cases htx : textB o.txt
    · have HF : Hid (opokB o = false) := by
        unfold Hid opokB; rw [htx]
        have : (o.txt.toList == []) = false := by rw [Bool.eq_false_iff]; intro g; rw [textB_nil g] at htx; cases htx
        rw [this]; simp
      rw [HF.out]
      go_enter Tryd.func35, Tryd.ntmps35
      go_wp2_with fail
      refine (l1Made_any _ _ f1).mono ?_
      rintro e w' ⟨rfl, rfl⟩
      rw [hm]
      go_wp2_with fail
      refine (l1Text_any _ _ f4).mono ?_
      rintro e w' ⟨rfl, rfl⟩
      rw [htx]
      go_wp2
      go_ret
      exact ⟨rfl, hb⟩
    · by_cases k1 : o.kind = 1
      · have HF : Hid (opokB o = spotB o.up o.at_) := by unfold Hid opokB; rw [if_pos k1, hm, htx]; simp
        rw [HF.out, k1]
        clear HF
        cases hw : whoB o.up
        · have HS : Hid (spotB o.up o.at_ = false) := by unfold Hid spotB; rw [hw]; rfl
          rw [HS.out]
          go_enter Tryd.func35, Tryd.ntmps35
          go_wp2_with (first | (go_at_call 77; refine (l1Made_any _ _ f1).mono ?_; rintro e w' ⟨rfl, rfl⟩; rw [hm]) | (go_at_call 78; refine (l1Text_any _ _ f4).mono ?_; rintro e w' ⟨rfl, rfl⟩; rw [htx]) | (go_at_call 79; refine (l3Id_any _ _ f2).mono ?_; rintro e w' ⟨rfl, rfl⟩; rw [hw]))
          go_ret
          rw [k1] at hb
          exact ⟨rfl, hb⟩
        · by_cases h0 : o.at_ = 0
          · have HS : Hid (spotB o.up o.at_ = true) := by unfold Hid spotB; rw [hw, h0]; rfl
            rw [HS.out, h0]
            go_enter Tryd.func35, Tryd.ntmps35
            go_wp2_with (first | (go_at_call 77; refine (l1Made_any _ _ f1).mono ?_; rintro e w' ⟨rfl, rfl⟩; rw [hm]) | (go_at_call 78; refine (l1Text_any _ _ f4).mono ?_; rintro e w' ⟨rfl, rfl⟩; rw [htx]) | (go_at_call 79; refine (l3Id_any _ _ f2).mono ?_; rintro e w' ⟨rfl, rfl⟩; rw [hw]))
            go_ret
            rw [k1, h0] at hb
            exact ⟨rfl, hb⟩
          · have HS : Hid (spotB o.up o.at_ = madeB o.at_) := by unfold Hid spotB; rw [hw]; simp [h0]
            rw [HS.out]
            go_enter Tryd.func35, Tryd.ntmps35
            go_wp2_with fail
            refine (l1Made_any _ _ f1).mono ?_
            rintro e w' ⟨rfl, rfl⟩
            rw [hm]
            go_wp2_with fail
            refine (l1Text_any _ _ f4).mono ?_
            rintro e w' ⟨rfl, rfl⟩
            rw [htx]
            go_wp2_with fail
            refine (l3Id_any _ _ f2).mono ?_
            rintro e w' ⟨rfl, rfl⟩
            rw [hw]
            go_wp2_with fail
            refine (l1Made_any _ _ f3).mono ?_
            rintro e w' ⟨rfl, rfl⟩
            go_wp2
            go_ret
            rw [k1] at hb
            have h0b : (o.at_ == 0) = false := by simpa using h0
            exact ⟨by show Ending.returned (.bool (o.at_ == 0 || madeB o.at_)) = _; rw [h0b]; rfl, hb⟩
      · by_cases k2 : o.kind = 2
        · have HF : Hid (opokB o = ((o.up == 0) && (o.at_ == 0))) := by unfold Hid opokB; rw [if_neg k1, if_pos k2, hm, htx]; simp
          rw [HF.out, k2]
          clear HF
          cases hu : (o.up == 0)
          · go_enter Tryd.func35, Tryd.ntmps35
            go_wp2_with (first | (go_at_call 77; refine (l1Made_any _ _ f1).mono ?_; rintro e w' ⟨rfl, rfl⟩; rw [hm]) | (go_at_call 78; refine (l1Text_any _ _ f4).mono ?_; rintro e w' ⟨rfl, rfl⟩; rw [htx]))
            go_ret
            rw [k2] at hb
            exact ⟨rfl, hb⟩
          · go_enter Tryd.func35, Tryd.ntmps35
            go_wp2_with (first | (go_at_call 77; refine (l1Made_any _ _ f1).mono ?_; rintro e w' ⟨rfl, rfl⟩; rw [hm]) | (go_at_call 78; refine (l1Text_any _ _ f4).mono ?_; rintro e w' ⟨rfl, rfl⟩; rw [htx]))
            go_ret
            rw [k2] at hb
            exact ⟨rfl, hb⟩
        · by_cases k3 : o.kind = 3
          · have HF : Hid (opokB o = ((o.txt.toList == []) && spotB o.up o.at_)) := by unfold Hid opokB; rw [if_neg k1, if_neg k2, if_pos k3, hm]; simp
            rw [HF.out, k3]
            clear HF
            cases hw : whoB o.up
            · have HS : Hid (spotB o.up o.at_ = false) := by unfold Hid spotB; rw [hw]; rfl
              rw [HS.out]
              go_enter Tryd.func35, Tryd.ntmps35
              go_wp2_with (first | (go_at_call 77; refine (l1Made_any _ _ f1).mono ?_; rintro e w' ⟨rfl, rfl⟩; rw [hm]) | (go_at_call 78; refine (l1Text_any _ _ f4).mono ?_; rintro e w' ⟨rfl, rfl⟩; rw [htx]) | (go_at_call 79; refine (l3Id_any _ _ f2).mono ?_; rintro e w' ⟨rfl, rfl⟩; rw [hw]))
              go_ret
              rw [k3] at hb
              exact ⟨by simp, hb⟩
            · by_cases h0 : o.at_ = 0
              · have HS : Hid (spotB o.up o.at_ = true) := by unfold Hid spotB; rw [hw, h0]; rfl
                rw [HS.out, h0]
                go_enter Tryd.func35, Tryd.ntmps35
                go_wp2_with (first | (go_at_call 77; refine (l1Made_any _ _ f1).mono ?_; rintro e w' ⟨rfl, rfl⟩; rw [hm]) | (go_at_call 78; refine (l1Text_any _ _ f4).mono ?_; rintro e w' ⟨rfl, rfl⟩; rw [htx]) | (go_at_call 79; refine (l3Id_any _ _ f2).mono ?_; rintro e w' ⟨rfl, rfl⟩; rw [hw]))
                go_ret
                rw [k3, h0] at hb
                exact ⟨by simp, hb⟩
              · have HS : Hid (spotB o.up o.at_ = madeB o.at_) := by unfold Hid spotB; rw [hw]; simp [h0]
                rw [HS.out]
                cases hx : madeB o.at_
                · go_enter Tryd.func35, Tryd.ntmps35
                  go_wp2_with fail
                  refine (l1Made_any _ _ f1).mono ?_
                  rintro e w' ⟨rfl, rfl⟩
                  rw [hm]
                  go_wp2_with fail
                  refine (l1Text_any _ _ f4).mono ?_
                  rintro e w' ⟨rfl, rfl⟩
                  rw [htx]
                  go_wp2_with fail
                  refine (l3Id_any _ _ f2).mono ?_
                  rintro e w' ⟨rfl, rfl⟩
                  rw [hw]
                  go_wp2_with fail
                  refine (l1Made_any _ _ f3).mono ?_
                  rintro e w' ⟨rfl, rfl⟩
                  rw [hx]
                  go_wp2
                  go_ret
                  rw [k3] at hb
                  exact ⟨by simp, hb⟩
                · go_enter Tryd.func35, Tryd.ntmps35
                  go_wp2_with fail
                  refine (l1Made_any _ _ f1).mono ?_
                  rintro e w' ⟨rfl, rfl⟩
                  rw [hm]
                  go_wp2_with fail
                  refine (l1Text_any _ _ f4).mono ?_
                  rintro e w' ⟨rfl, rfl⟩
                  rw [htx]
                  go_wp2_with fail
                  refine (l3Id_any _ _ f2).mono ?_
                  rintro e w' ⟨rfl, rfl⟩
                  rw [hw]
                  go_wp2_with fail
                  refine (l1Made_any _ _ f3).mono ?_
                  rintro e w' ⟨rfl, rfl⟩
                  rw [hx]
                  go_wp2
                  go_ret
                  rw [k3] at hb
                  exact ⟨by simp, hb⟩
          · have HF : Hid (opokB o = false) := by unfold Hid opokB; rw [if_neg k1, if_neg k2, if_neg k3]
            rw [HF.out]
            go_enter Tryd.func35, Tryd.ntmps35
            go_wp2_with (first | (go_at_call 77; refine (l1Made_any _ _ f1).mono ?_; rintro e w' ⟨rfl, rfl⟩; rw [hm]) | (go_at_call 78; refine (l1Text_any _ _ f4).mono ?_; rintro e w' ⟨rfl, rfl⟩; rw [htx]))
            go_ret
            exact ⟨rfl, hb⟩
end Go.Proofs.YtclhjgcapalniaaDoor
/-
  Contracts of OpWhere, the model's and the program's: where a change puts its row. Conditions: the rows lie in memory as a slice of rows; the table 'creators' holds what its initialiser lays.
-/
namespace Go.Proofs.YtclhjgcapalniaaDoor
open Go.ChangeShapes Go.WideShapes Go.ChangeAt Go.RowKit Go.Joins

def owU (rs : List RowD) (o : OpD) : Int := if treeB rs && opokB o then whereU rs o else 0
def owA (rs : List RowD) (o : OpD) : Int := if treeB rs && opokB o then whereA rs o else 0
def owB (rs : List RowD) (o : OpD) : Bool := treeB rs && opokB o && !noWhereB rs o
theorem ow_no {rs : List RowD} {o : OpD} (h : (treeB rs && opokB o) = false) : owU rs o = 0 ∧ owA rs o = 0 ∧ owB rs o = false := by simp [owU, owA, owB, h]
theorem ow_yes {rs : List RowD} {o : OpD} (h : (treeB rs && opokB o) = true) : owU rs o = whereU rs o ∧ owA rs o = whereA rs o ∧ owB rs o = !noWhereB rs o := by simp [owU, owA, owB, h]
theorem opok_kind {o : OpD} (h : opokB o = true) : o.kind = 1 ∨ o.kind = 2 ∨ o.kind = 3 := by
  unfold opokB at h
  by_cases k1 : o.kind = 1
  · exact .inl k1
  · by_cases k2 : o.kind = 2
    · exact .inr (.inl k2)
    · by_cases k3 : o.kind = 3
      · exact .inr (.inr k3)
      · simp [k1, k2, k3] at h
theorem whereA_nn {rs : List RowD} {o : OpD} (ht : treeB rs = true) (h : ¬ 0 < whereA rs o) : whereA rs o = 0 := by
  unfold whereA at h ⊢
  split
  · rfl
  · rename_i hn
    rw [if_neg hn] at h
    split
    · rename_i hu
      rw [if_pos hu] at h
      unfold atOfL at h ⊢
      split
      · rename_i g
        rw [if_pos g] at h
        simp only [List.any_eq_true, Bool.and_eq_true, beq_iff_eq] at g
        obtain ⟨x, h1, h2, _⟩ := g
        have := there_pos ht (there_iff.2 (kidsL_there h1))
        omega
      · rfl
    · rfl
end Go.Proofs.YtclhjgcapalniaaDoor
/-
  Contract of the program's (*node).cut. Conditions: as each theorem says.
-/
namespace Go.Proofs.YtclhjgcapalniaaDoor
open Go.ChangeShapes Go.WideShapes Go.ChangeAt Go.RowKit Go.Joins

set_option maxRecDepth 100000 in
set_option maxHeartbeats 8000000 in
theorem cut_lk (nb : Nat → Nat) (R : Nat → RowD) (L : L5) (M n₀ : Nat) (n p : Nat) (w : World) (h : Lk w nb R L M) (h0 : ∀ y, y < M → n₀ ≤ nb y) (hn : n < M) (hp : p < M) (hup : L.up n = some p) (ha : ∀ y, L.ah n = some y → y < M) (hx : ∀ y, L.nx n = some y → y < M) :
    Calls Tryd.prog 51 #[.pointer (some ⟨nb n, 0, none⟩)] w (Linked nb R (cut5 L n p) M n₀ w) := by
  obtain ⟨l3, l4, l5, l6, l7⟩ := h.links hn
  rw [hup, padr_some] at l3
  go_enter Tryd.func51, Tryd.ntmps51
  have hd : Lk w.drew nb R L M := h.drewN 1
  have hbd : Below n₀ w w.drew := (Below.refl _ _).drew
  go_wp2_with fail
  go_region_with ((go_at_call 92; refine (join_lk nb R L M n₀ p (L.ah n) (L.nx n) _ hd h0 hp ha hx).mono ?_; rintro e w2 ⟨⟨v, rfl⟩, hl2, hb2, hs2⟩))
  all_goals
    have HL : Hid (Lk (((w2.setCell ⟨nb n, 3, none⟩ (.pointer none)).setCell ⟨nb n, 4, none⟩ (.pointer none)).setCell ⟨nb n, 5, none⟩ (.pointer none)) nb R (cut5 L n p) M) := ((hl2.set3 hn none).set4 hn none).set5 hn none
    have HB : Hid (Below n₀ w (((w2.setCell ⟨nb n, 3, none⟩ (.pointer none)).setCell ⟨nb n, 4, none⟩ (.pointer none)).setCell ⟨nb n, 5, none⟩ (.pointer none))) :=
      (((hbd.trans hb2).setCell (p := ⟨nb n, 3, none⟩) (h0 n hn) _).setCell (p := ⟨nb n, 4, none⟩) (h0 n hn) _).setCell (p := ⟨nb n, 5, none⟩) (h0 n hn) _
    have HS : Hid ((((w2.setCell ⟨nb n, 3, none⟩ (.pointer none)).setCell ⟨nb n, 4, none⟩ (.pointer none)).setCell ⟨nb n, 5, none⟩ (.pointer none)).heap.size = w.heap.size) := by unfold Hid; rw [size_set, size_set, size_set]; exact hs2
    obtain ⟨m3, m4, m5, m6, m7⟩ := hl2.links hn
    have z3 := hl2.frozen hn 3
    have z4 := hl2.frozen hn 4
    have z5 := hl2.frozen hn 5
    clear hl2 hb2 hs2 h l3 l4 l5 l6 l7 m6 m7
    go_wp2
    go_end0
    exact ⟨⟨_, rfl⟩, HL.out, HB.out, HS.out⟩
end Go.Proofs.YtclhjgcapalniaaDoor
/-
  Contracts of the program's (*node).walk and below over any forest of nodes: the nodes are gone over in preorder, as long as each round keeps the links. Conditions: the links of the nodes lie in memory and say the forest.
-/
namespace Go.Proofs.YtclhjgcapalniaaDoor
open Go.ChangeShapes Go.WideShapes Go.ChangeAt Go.RowKit Go.Joins Go.Shelf

attribute [local go_sem] Oper.semAt_some

def LinksAt (nb : Nat → Nat) (L : L5) (M : Nat) (w : World) : Prop := ∀ x, x < M → w.cell? ⟨nb x, 5, none⟩ = some (.pointer (padr nb (L.nx x))) ∧ w.cell? ⟨nb x, 6, none⟩ = some (.pointer (padr nb (L.fi x)))
def KeepsLinks (nb : Nat → Nat) (L : L5) (M : Nat) (W W' : World) : Prop := LinksAt nb L M W → LinksAt nb L M W'
theorem keepsLinks_t {nb : Nat → Nat} {L : L5} {M : Nat} {A B C : World} (h : KeepsLinks nb L M A B) (k : KeepsLinks nb L M B C) : KeepsLinks nb L M A C := fun g => k (h g)
theorem keepsLinks_b {nb : Nat → Nat} {L : L5} {M : Nat} (W : World) (l : Nat) (o o' : Obj) (h : W.heap[l]? = some o) (hc : o.isCells = false) : KeepsLinks nb L M W (W.putObj l o') := fun g x hx =>
  ⟨cell_kept (g x hx).1 (grownBy_putObj' W l o') (fun r e => by cases e; exact ⟨o, h, hc⟩), cell_kept (g x hx).2 (grownBy_putObj' W l o') (fun r e => by cases e; exact ⟨o, h, hc⟩)⟩
def WalkedF (S : Nat → Prop) (nb : Nat → Nat) (L : L5) (M : Nat) (J Jx : List {x : Nat // S x} → World → Prop) (pre : List {x : Nat // S x}) (nodes : List Nat) (e : Ending) (W' : World) : Prop :=
  (e = .returned (.bool true) ∧ ∃ ys : List {x : Nat // S x}, ys.map (·.1) = nodes ∧ J (pre ++ ys) W' ∧ LinksAt nb L M W') ∨ (e = .returned (.bool false) ∧ ∃ q, Jx q W')

set_option maxRecDepth 100000 in
set_option maxHeartbeats 2000000 in
theorem walkF_in (F : Fence) (hd : F.depth = none) (hw : F.fn 110) (hro : F.round = none) (l N : Nat) (nb : Nat → Nat) (L : L5) (M : Nat) (S : Nat → Prop) (hS : ∀ x, S x → x < M) (J Jx : List {x : Nat // S x} → World → Prop)
    (hY : ∀ k pre (x : {x : Nat // S x}) W, J pre W → pre.length < N → YieldAt F k Tryd.prog l #[.pointer (some ⟨nb x.1, 0, none⟩)] W fun e W' =>
      (e = .returned (.bool true) ∧ J (pre ++ [x]) W' ∧ KeepsLinks nb L M W W') ∨ (e = .returned (.bool false) ∧ Jx (pre ++ [x]) W')) (z : Nat) :
    ∀ (g : Fo) (i n : Nat) (pre : List {x : Nat // S x}) (W : World), g.nodes.length < z → i < M → g.Ok L.lk i → L.fi i = g.root → (∀ x ∈ g.nodes, S x) → LinksAt nb L M W → J pre W → pre.length + g.nodes.length ≤ N →
      CallsIn F n Tryd.prog 110 #[.pointer (some ⟨nb i, 0, none⟩), .func (.yield l) #[] #[]] W (WalkedF S nb L M J Jx pre g.nodes) := by
  induction z with
  | zero => intro g i n pre W hz; omega
  | succ z ih =>
    intro g i n pre W hz hi hok hfi hgS hL hJ hlen
    have IH := Lib.hid ih
    have HY := Lib.hid hY
    have HS := Lib.hid hS
    have HG := Lib.hid hgS
    clear ih hY hS hgS
    have hdd : ∀ k : Nat, (F.depth.isSome = true → 1 ≤ k) := fun k h => by rw [hd] at h; cases h
    have l6 := (hL i hi).2
    have HOK : Hid (g.Ok L.lk i ∧ L.fi i = g.root) := ⟨hok, hfi⟩
    have HL0 : Hid (LinksAt nb L M W) := hL
    clear hfi hok hL
    generalize L.fi i = fi0 at *
    generalize hgn : g.nodes = gn at *
    have HGN : Hid (g.nodes = gn) := hgn
    clear hgn
    refine callsIn_of_wp Tryd.func110 rfl hw ?_ hro
    simp only [Tryd.ntmps110, List.size_toArray, List.length_cons, List.length_nil, Nat.reduceAdd, Nat.reduceSub, Array.replicate_succ, Array.replicate_zero, List.push_toArray, List.append_toArray, List.nil_append, List.cons_append]
    gi_wp2
    gi_loopg [5] (gn.length) (fun k p wr => ∃ (r : Fo) (ro : Option Nat) (ys : List {x : Nat // S x}), Hid (r.nodes.length = k ∧ r.Ok L.lk i ∧ ys.map (·.1) ++ r.nodes = gn ∧ LinksAt nb L M wr ∧ ro = r.root) ∧ p = .pointer (padr nb ro) ∧ J (pre ++ ys) wr)
    case atStart => exact ⟨g, fi0, [], ⟨by rw [HGN.out], HOK.out.1, by simpa using HGN.out, HL0.out, HOK.out.2⟩, rfl, by simpa using hJ⟩
    case round =>
      obtain ⟨r, ro, ys, hh, rfl, hJr⟩ := hrel
      clear l6 HL0
      cases r with
      | nil =>
        obtain ⟨hk, _, hys, hLr, hro'⟩ := hh.out
        obtain rfl : ro = none := hro'
        have HF : Hid (WalkedF S nb L M J Jx pre gn (.returned (.bool true)) wr) := .inl ⟨rfl, ys, by simpa [Fo.nodes] using hys, hJr, hLr⟩
        clear hh hk hys hLr hJr
        simp only [padr_none]
        gi_wp2
        go_ret
        exact HF.out
      | cons x k r' =>
        obtain ⟨hk, ⟨h1, h2, h3, h4, h5⟩, hys, hLr, hro'⟩ := hh.out
        obtain rfl : ro = some x := hro'
        have hxg : x ∈ gn := by rw [← hys]; simp [Fo.nodes]
        have hkg : ∀ y ∈ k.nodes, S y := fun y hy => HG.out y (by rw [← hys]; simp [Fo.nodes, hy])
        have hxS := HG.out x hxg
        have hxM := HS.out x hxS
        have hl1 : ys.length + (1 + (k.nodes.length + r'.nodes.length)) = gn.length := by
          have := congrArg List.length hys
          simp only [List.length_append, List.length_map, Fo.nodes, List.length_cons] at this; omega
        have hl2 : k.nodes.length + r'.nodes.length + 1 = gk := by simp only [Fo.nodes, List.length_cons, List.length_append] at hk; omega
        obtain ⟨fn, tmps, assign, body, hy, hR⟩ := HY.out (n - 1) _ ⟨x, hxS⟩ wr hJr (by simp; omega)
        have HX : Hid (LinksAt nb L M wr) := hLr
        have HK : Hid (k.Ok L.lk x ∧ L.fi x = k.root ∧ L.nx x = r'.root ∧ r'.Ok L.lk i ∧ ys.map (·.1) ++ (x :: (k.nodes ++ r'.nodes)) = gn ∧ (∀ y ∈ k.nodes, S y)) := ⟨h4, h2, h3, h5, hys, hkg⟩
        have HLN : Hid (ys.length + (1 + (k.nodes.length + r'.nodes.length)) = gn.length ∧ k.nodes.length + r'.nodes.length + 1 = gk) := ⟨hl1, hl2⟩
        clear hh h1 h2 h3 h4 h5 hys hLr hxg hkg hl1 hl2 hk
        simp only [padr_some]
        dsimp only at hy
        gi_wp2
        refine hR.mono ?_
        clear hR hy
        rintro e W2 (⟨rfl, hJ2, hb2⟩ | ⟨rfl, hx2⟩)
        · have hL2 : Hid (LinksAt nb L M W2) := hb2 HX.out
          clear hb2
          gi_wp2_with fail
          refine (IH.out k x (n - 1) (pre ++ ys ++ [⟨x, hxS⟩]) W2 (by have := HLN.out; omega) hxM HK.out.1 HK.out.2.1 HK.out.2.2.2.2.2 hL2.out hJ2 (by have := HLN.out; simp only [List.length_append, List.length_cons, List.length_nil]; omega)).mono ?_
          rintro e W3 (⟨rfl, ys', hys', hJ3, hL3⟩ | ⟨rfl, q, hx3⟩)
          · have l5 := (hL3 x hxM).1
            generalize L.nx x = r1 at *
            have HN : Hid (r'.Ok L.lk i ∧ (ys ++ [(⟨x, hxS⟩ : {x : Nat // S x})] ++ ys').map (fun q => q.1) ++ r'.nodes = gn ∧ LinksAt nb L M W3 ∧ r1 = r'.root) := ⟨HK.out.2.2.2.1, by have := HK.out.2.2.2.2.1; simp only [List.map_append, List.map_cons, List.map_nil, hys']; simpa using this, hL3, HK.out.2.2.1⟩
            have hJ4 : J (pre ++ (ys ++ [⟨x, hxS⟩] ++ ys')) W3 := by simpa using hJ3
            clear hys' hJ3 hL3
            gi_wp2
            gi_roundg (r'.nodes.length)
            case measure => have := HLN.out; omega
            case rel => exact ⟨r', r1, ys ++ [⟨x, hxS⟩] ++ ys', ⟨rfl, HN.out⟩, rfl, hJ4⟩
          · gi_wp2
            go_ret
            exact .inr ⟨rfl, _, hx3⟩
        · gi_wp2
          go_ret
          exact .inr ⟨rfl, _, hx2⟩
set_option maxHeartbeats 1000000 in
theorem below1F_in (F : Fence) (hd : F.depth = none) (n : Nat) (hc : F.fn 109) (hw : F.fn 110) (hro : F.round = none) (l Bt : Nat) (nb : Nat → Nat) (L : L5) (M : Nat) (S : Nat → Prop) (hS : ∀ x, S x → x < M) (g : Fo) (i : Nat) (hi : i < M) (hok : g.Ok L.lk i) (hfi : L.fi i = g.root) (hgS : ∀ x ∈ g.nodes, S x) (J Jx : List {x : Nat // S x} → World → Prop)
    (hY : ∀ pre (x : {x : Nat // S x}) W, J pre W → pre.length < g.nodes.length → YieldAt F (n - 1) Tryd.prog l #[.pointer (some ⟨nb x.1, 0, none⟩)] W fun e W' =>
      (e = .returned (.bool true) ∧ J (pre ++ [x]) W' ∧ KeepsLinks nb L M W W') ∨ (e = .returned (.bool false) ∧ Jx (pre ++ [x]) W'))
    (W : World) (hBt : W.cell? ⟨Bt, 0, none⟩ = some (.pointer (some ⟨nb i, 0, none⟩))) (hL : LinksAt nb L M W) (h0 : J [] W) :
    CallsIn F n Tryd.prog 109 #[.func (.yield l) #[] #[], .pointer (some ⟨Bt, 0, none⟩)] W fun e W' => (∃ v, e = .returned v) ∧
      ((∃ ys, ys.map (·.1) = g.nodes ∧ J ys W') ∨ (∃ pre, True ∧ Jx pre W')) := by
  have hp := walkF_in F hd hw hro l g.nodes.length nb L M S hS J Jx (fun k pre x W hj hl => yield_any hd k (hY pre x W hj hl)) (g.nodes.length + 1) g i (n - 1) [] W (by omega) hi hok hfi hgS hL h0 (by simp)
  refine callsIn_of_wp Tryd.func109 rfl hc ?_ hro
  simp only [Tryd.ntmps109, List.size_toArray, List.length_cons, List.length_nil, Nat.reduceAdd, Nat.reduceSub, Array.replicate_succ, Array.replicate_zero, List.push_toArray, List.append_toArray, List.nil_append, List.cons_append]
  have HP := Lib.hid hp
  have HH : Hid (LinksAt nb L M W ∧ g.Ok L.lk i ∧ L.fi i = g.root) := ⟨hL, hok, hfi⟩
  clear hp hL hok hfi
  gi_wp2_with fail
  refine (HP.out).mono ?_
  rintro e W1 (⟨rfl, ys, hys, hJ1, _⟩ | ⟨rfl, q, hx⟩)
  · gi_wp2
    go_end0
    exact ⟨⟨_, rfl⟩, .inl ⟨ys, hys, by simpa using hJ1⟩⟩
  · gi_wp2
    go_end0
    exact ⟨⟨_, rfl⟩, .inr ⟨q, trivial, hx⟩⟩
theorem belowF_stops (F : Fence) (hd : F.depth = none) (n : Nat) (hc : F.fn 109) (hw : F.fn 110) (hro : F.round = none) (Bt : Nat) (nb : Nat → Nat) (L : L5) (M : Nat) (S : Nat → Prop) (hS : ∀ x, S x → x < M) (g : Fo) (i : Nat) (hi : i < M) (hok : g.Ok L.lk i) (hfi : L.fi i = g.root) (hgS : ∀ x ∈ g.nodes, S x) (w : World) (hBt : Bt < w.heap.size) (hnb : ∀ x, x < M → nb x < w.heap.size)
    (hcell : w.cell? ⟨Bt, 0, none⟩ = some (.pointer (some ⟨nb i, 0, none⟩))) (hL : LinksAt nb L M w) :
    SeqStopsK F n Tryd.prog 109 #[.pointer (some ⟨Bt, 0, none⟩)] (fun x : {x : Nat // S x} => #[Value.pointer (some ⟨nb x.1, 0, none⟩)]) (KeepsLinks nb L M) (fun ys => ys.map (·.1) = g.nodes) (fun _ => True) g.nodes.length w := fun l J Jx W hW _ _ hY h0 =>
  below1F_in F hd n hc hw hro l Bt nb L M S hS g i hi hok hfi hgS J Jx hY W ((hW.cell (p := ⟨Bt, 0, none⟩) hBt).trans hcell) (fun x hx => ⟨(hW.cell (p := ⟨nb x, 5, none⟩) (hnb x hx)).trans (hL x hx).1, (hW.cell (p := ⟨nb x, 6, none⟩) (hnb x hx)).trans (hL x hx).2⟩) h0
end Go.Proofs.YtclhjgcapalniaaDoor
/-
  Contract of the program's (*node).rows: the rows of a forest of nodes in preorder, with the depths of their places. Conditions: the nodes lie in memory with links that say the forest.
-/
namespace Go.Proofs.YtclhjgcapalniaaDoor
open Go.ChangeShapes Go.WideShapes Go.ChangeAt Go.RowKit Go.Joins Go.Shelf

attribute [local go_sem] Oper.semAt_some

theorem grownBy_set (W : World) (b o : Nat) (v : Value) : W.grownBy (W.setCell ⟨b, o, none⟩ v) (some b) :=
  ⟨rfl, rfl, rfl, (KeepsWalks.setCell W _ v).size, fun k _ hk => Below.heap_setCell _ _ _ k (fun e => hk (by rw [e]))⟩
theorem Lk.kept {W W' : World} {nb : Nat → Nat} {R : Nat → RowD} {L : L5} {M : Nat} {row : Option Nat} (h : Lk W nb R L M) (hg : W.grownBy W' row) (hr : ∀ r, row = some r → ∃ o : Obj, W.heap[r]? = some o ∧ o.isCells = false) : Lk W' nb R L M :=
  ⟨fun x hx => (hg.block (nb x) (h.lt hx) (fun e => by
    obtain ⟨o, ho, hc⟩ := hr (nb x) e.symm
    rw [h.blk x hx] at ho; cases ho; cases hc)).trans (h.blk x hx), h.inj⟩
theorem Lk.at_links {W : World} {nb : Nat → Nat} {R : Nat → RowD} {L : L5} {M : Nat} (h : Lk W nb R L M) : LinksAt nb L M W := fun _ hx => ⟨(h.links hx).2.2.1, (h.links hx).2.2.2.1⟩
theorem Lk.set1 {w : World} {nb : Nat → Nat} {R : Nat → RowD} {L : L5} {M : Nat} (h : Lk w nb R L M) {x : Nat} (hx : x < M) (d : Int) : Lk (w.setCell ⟨nb x, 1, none⟩ (.int .i64 d)) nb (fun y => if y = x then ⟨(R x).id, d, (R x).txt⟩ else R y) L M :=
  lk_set h hx (fun y hy => by simp [lkArr, hy]) (by simp [lkArr])
theorem Lk.set2 {w : World} {nb : Nat → Nat} {R : Nat → RowD} {L : L5} {M : Nat} (h : Lk w nb R L M) {x : Nat} (hx : x < M) (t : ByteArray) : Lk (w.setCell ⟨nb x, 2, none⟩ (.string t)) nb (fun y => if y = x then ⟨(R x).id, (R x).dep, t⟩ else R y) L M :=
  lk_set h hx (fun y hy => by simp [lkArr, hy]) (by simp [lkArr])
theorem boxed_set {W : World} {B b o : Nat} {t : TypeId} {v : Value} (h : Boxed W B t v) (hne : B ≠ b) (u : Value) : Boxed (W.setCell ⟨b, o, none⟩ u) B t v := h.kept (grownBy_set W b o u) (fun e => hne (by cases e; rfl))
/-- What is said of the rounds of rows. -/
def RowsI (S : Nat → Prop) (nb : Nat → Nat) (R : Nat → RowD) (L : L5) (M n₀ Bx : Nat) (w : World) (pre : List {x : Nat // S x}) (W : World) : Prop :=
  (Lk W nb (visitL L R (pre.map (·.1))).1 L M ∧ ∃ v, Boxed W Bx 23 v ∧ W.ownsRow w.heap.size 39 3 v (pre.map (·.1)).length (cellsL (visitL L R (pre.map (·.1))).2) ∧ True) ∧ Below n₀ w W
theorem rowsI_own (S : Nat → Prop) (nb : Nat → Nat) (R : Nat → RowD) (L : L5) (M n₀ Bx B : Nat) (w : World) (hn : n₀ ≤ w.heap.size) (hB : n₀ ≤ B) : OwnFrom B (RowsI S nb R L M n₀ Bx w) :=
  OwnFrom.and (Own.from (fun s A C row hs hg hr => ⟨hs.1.kept hg hr, holdsRow_own w.heap.size Bx 23 39 3 (fun s : List {x : Nat // S x} => (s.map (·.1)).length) (fun s => cellsL (visitL L R (s.map (·.1))).2) (fun _ _ => True) s A C row hs.2 hg hr⟩) B) (ownFrom_below hn hB)
/-- append onto a row of the call's own, as one step of a region that draws its order, inside a fence. -/
theorem stepIn_append_own {F : Fence} {n : Nat} {P : Program} {ops : Array Oper} {o : Oper} {a : Act} {w : World} {K : Act → World → Prop} {Q : Exit → Act → World → Prop} {E : Prop}
    (hg : o.guard = none) (s x : Operand) (t : TypeId) (hop : o.op = Op.call { callee := Callee.builtin Builtin.append, args := #[s, x], argTypes := #[t, t] })
    (base : Nat) (e : TypeId) (i : TypeInfo) (z : Value) (size bytes : Nat) (h1 : P.underlying t = some (.slice e)) (h2 : P.info? e = some i) (h3 : i.zero = some z) (h4 : i.size = size) (h5 : i.bytes = bytes) (h6 : z.cells.size = size) (h7 : 0 < size)
    (v : Value) (k : Nat) (xs : List Value) (hs : a.eval s = v) (hown : w.ownsRow base e size v k xs) (ad : Addr) (m c : Nat) (news : List Value) (hx : a.eval x = .slice (some ad) m c) (hn : news.length = m * size)
    (hc : ∀ j u, news[j]? = some u → w.cell? (ad.add j) = some u) (h1c : ∀ u ∈ news, u.oneCell' = true) (b1 : k + m ≤ maxLen) (b2 : (k + m) * bytes ≤ 140737488355328) (b3 : base ≤ w.heap.size)
    (hK : ∀ v' w', w'.ownsRow base e size v' (k + m) (xs ++ news) → w.grownBy w' v.ownBlock → K (a.put o.dst v') w') :
    if Region.wanted o (yielded ops a.tmps) = true then Oper.wpIn F n P o a w K Q else E := by
  have hw : Region.wanted o (yielded ops a.tmps) = true := by simp [Region.wanted, hg]
  rw [if_pos hw]
  obtain ⟨v', w', hrun, r1, r2, r3⟩ := run_append_own (P := P) w base t o.type e i z size bytes h1 h2 h3 h4 h5 h6 h7 v k xs hown ad m c news hn hc h1c b1 b2 b3
  unfold Oper.wpIn
  refine ⟨?_, ?_⟩
  · simp [Oper.about, hop, resolve, Target.leads, Sem.run_pure]
  · rw [Oper.semAt_plain F _ _ (by rw [hop]; intro c hc'; cases hc')]
    simp [execOp, hop, resolve, invoke, builtin, hs, hx, hrun, Result.andThen]
    exact hK v' w' r1 r2
theorem visit_at (L : L5) (R : Nat → RowD) (xs : List Nat) (x : Nat) : (visit L (visitL L R xs) x).2 = (visitL L R xs).2 ++ [stepV L (visitL L R xs).1 x x] := rfl
theorem lk_visit {W : World} {nb : Nat → Nat} {R' : Nat → RowD} {L : L5} {M x q : Nat} (h : Lk W nb R' L M) (hx : x < M) (hq : L.up x = some q) : Lk (W.setCell ⟨nb x, 1, none⟩ (.int .i64 ((R' q).dep + 1))) nb (stepV L R' x) L M := by
  have hu : upN L x = q := by simp [upN, hq]
  have e : stepV L R' x = fun y => if y = x then ⟨(R' x).id, (R' q).dep + 1, (R' x).txt⟩ else R' y := by unfold stepV; rw [hu]
  rw [e]
  exact h.set1 hx _
set_option maxRecDepth 100000 in
set_option maxHeartbeats 8000000 in
theorem rows_in (F : Fence) (hd : F.depth = none) (n : Nat) (hf : F.fn 52) (hb : F.fn 89) (hc : F.fn 109) (hw : F.fn 110) (hro : F.round = none) (hn : 3 ≤ n)
    (nb : Nat → Nat) (R : Nat → RowD) (L : L5) (M n₀ : Nat) (g : Fo) (w : World) (h : Lk w nb R L M) (h0 : ∀ y, y < M → n₀ ≤ nb y) (hM : 0 < M) (ho : g.Ok L.lk 0) (hfi : L.fi 0 = g.root) (hnd : g.nodes.Nodup) (hgM : ∀ x ∈ g.nodes, 1 ≤ x ∧ x < M)
    (hR0 : (R 0).dep = -1) (hRd : ∀ y, -1 ≤ (R y).dep ∧ (R y).dep ≤ 1000) (hl : g.nodes.length ≤ 1048576) :
    CallsIn F n Tryd.prog 52 #[.pointer (some ⟨nb 0, 0, none⟩)] w fun e w' => ∃ a cap, e = .returned (.slice a (toRs R (g.pre 0)).length cap) ∧ w'.ownsRow w.heap.size 39 3 (.slice a (toRs R (g.pre 0)).length cap) (toRs R (g.pre 0)).length (cellsL (toRs R (g.pre 0))) ∧ (toRs R (g.pre 0)).length ≤ cap ∧ Below n₀ w w' := by
  have h1 : 1 ≤ n := by omega
  have hn₀ : n₀ ≤ w.heap.size := Nat.le_trans (h0 0 hM) (Nat.le_of_lt (h.lt hM))
  obtain ⟨i0, hi, hz0, hz1, hz2⟩ := info_parts infoRow
  have hup : ∀ x ∈ g.nodes, ∃ q, q < M ∧ L.up x = some q := fun x hx => by
    rcases ho.ups x hx with e | ⟨y, hy, e⟩
    · exact ⟨0, hM, e⟩
    · exact ⟨y, (hgM y hy).2, e⟩
  have hvis : (visitL L R g.nodes).2 = toRs R (g.pre 0) := by
    have := visit_fo L g 0 0 R [] ho hnd (fun h => by have := (hgM 0 h).1; omega) (by rw [hR0]; rfl)
    simpa [visitL] using this
  refine callsIn_of_wp_marks Tryd.func52 rfl hf ?_ hro
  simp only [Tryd.ntmps52, List.size_toArray, List.length_cons, List.length_nil, Nat.reduceAdd, Nat.reduceSub, Array.replicate_succ, Array.replicate_zero, List.push_toArray, List.append_toArray, List.nil_append, List.cons_append]
  gi_wp2_with (gi_at_call 89; refine (below_in F (n - 1) hb hro _ _).mono ?_; rintro e w' ⟨rfl, rfl⟩)
  have bO := Boxed.new w 23 (.slice none 0 0)
  have bN := Boxed.new (w.alloc (.cells #[.slice none 0 0] 23)) 69 (.pointer (some ⟨nb 0, 0, none⟩))
  rw [World.size_alloc] at bN
  have hB0 : Below w.heap.size w ((w.alloc (.cells #[.slice none 0 0] 23)).alloc (.cells #[.pointer (some ⟨nb 0, 0, none⟩)] 69)) := ((Below.refl _ w).alloc (Nat.le_refl _) _).alloc (by simp) _
  have hL0 : Lk ((w.alloc (.cells #[.slice none 0 0] 23)).alloc (.cells #[.pointer (some ⟨nb 0, 0, none⟩)] 69)) nb R L M := h.below (fun x hx => h.lt hx) hB0
  refine wpIn_rangeFunc_ownF hro h1 (gf := 109) (lb := #[.pointer (some ⟨w.heap.size + 1, 0, none⟩)]) rfl hc (enters_of Tryd.func109 (by kernel_rfl) rfl)
    (belowF_stops F hd (n - 1) hc hw hro (w.heap.size + 1) nb L M (fun x => x ∈ g.nodes) (fun x hx => (hgM x hx).2) g 0 hM ho hfi (fun x hx => hx) _ (by simp) (fun x hx => by have := h.lt hx; simp; omega) bN.cell hL0.at_links)
    (fun h k => keepsLinks_t h k) (fun W l o o' _ hh hc' _ => keepsLinks_b W l o o' hh hc') (Below.refl _ _) (fun _ => rfl)
    (RowsI (fun x => x ∈ g.nodes) nb R L M n₀ w.heap.size w) (fun _ _ _ => False)
    (rowsI_own (fun x => x ∈ g.nodes) nb R L M n₀ w.heap.size _ w hn₀ (by simp; omega)) (fun _ _ _ _ _ hs _ _ => hs)
    ⟨⟨hL0, _, bO.alloc _, World.ownsRow_nil _ _ _ _, trivial⟩, hB0.mono hn₀⟩
    (fun x => { tmps := #[.pointer (some ⟨nb 0, 0, none⟩), undef, .slice none 0 0, .pointer (some ⟨w.heap.size, 0, none⟩), .pointer (some ⟨nb x.1, 0, none⟩), .pointer (some ⟨nb 0, 0, none⟩), .func (.func 109) #[] #[.pointer (some ⟨w.heap.size + 1, 0, none⟩)], .pointer (some ⟨nb x.1, 0, none⟩), undef, undef, undef, undef, undef, undef, undef, undef, undef, undef, undef, undef, undef, undef, undef, undef, undef, undef, undef, undef, undef], defers := [] }) ?assign ?body ?done ?stop
  case assign =>
    intro l x W K hK
    gi_wp2
    exact hK
  case body =>
    rintro l pre ⟨x, hxg⟩ W ⟨⟨hLk, v, hv, hrow, _⟩, hB⟩ hlt
    have hmo : Tryd.prog.follows Departure.mixedOrders = true := by kernel_rfl
    obtain ⟨q, hqM, hq⟩ := hup x hxg
    have hxM := (hgM x hxg).2
    have hsn := visitL_snoc L R (pre.map (·.1)) x
    have hvl := visitL_len L R (pre.map (·.1))
    have hdp := visit_dep L (pre.map (·.1)) (R, []) 1000 (by omega) hRd q
    have hpl : (pre.map (·.1)).length = pre.length := List.length_map _
    have HI : Hid (∀ W2, Lk W2 nb (stepV L (visitL L R (pre.map (·.1))).1 x) L M → (∃ v, Boxed W2 w.heap.size 23 v ∧ W2.ownsRow w.heap.size 39 3 v ((pre.map (·.1)).length + 1) (cellsL (visitL L R (pre.map (·.1))).2 ++ cellsL [stepV L (visitL L R (pre.map (·.1))).1 x x])) → Below n₀ w W2 → RowsI (fun x => x ∈ g.nodes) nb R L M n₀ w.heap.size w (pre ++ [⟨x, hxg⟩]) W2) := by
      rintro W2 a ⟨v, b, c⟩ d
      have e1 : (pre ++ [(⟨x, hxg⟩ : {x : Nat // x ∈ g.nodes})]).map (fun q => q.1) = pre.map (fun q => q.1) ++ [x] := by simp
      refine ⟨⟨?_, v, b, ?_, trivial⟩, d⟩
      · rw [e1, hsn]; exact a
      · rw [e1, hsn, visit_at, cellsL_append, List.length_append]; exact c
    change Lk W nb (visitL L R (pre.map (fun q => q.1))).1 L M at hLk
    have hd1 : ((visitL L R (pre.map (fun q => q.1))).1 q).dep = ((List.foldl (visit L) (R, []) (pre.map (fun q => q.1))).1 q).dep := rfl
    rw [← hd1] at hdp
    clear hd1 hsn hvl
    generalize (visitL L R (pre.map (fun q => q.1))).1 = R' at *
    generalize (visitL L R (pre.map (fun q => q.1))).2 = acc at *
    generalize (pre.map (fun q => q.1)).length = pl at *
    have hpl2 : pl < 1048576 := by omega
    clear hpl
    have hL1 := lk_visit hLk hxM hq
    have l3 := (hLk.links hxM).1
    rw [hq, padr_some] at l3
    obtain ⟨r0, r1, r2⟩ := hLk.row hxM
    have p1 := (hLk.row hqM).2.1
    have z1 := hLk.frozen hxM 1
    have hnx := h.lt hxM
    have hbx := boxed_set (o := 1) hv (show w.heap.size ≠ nb x by omega) (.int .i64 ((R' q).dep + 1))
    have hrow1 := hrow.kept (grownBy_set W (nb x) 1 (.int .i64 ((R' q).dep + 1))) (.inr (fun e => by have := own_block hrow _ e; omega))
    have hB1 : Below n₀ W (W.setCell ⟨nb x, 1, none⟩ (.int .i64 ((R' q).dep + 1))) := (Below.refl _ _).setCell (p := ⟨nb x, 1, none⟩) (h0 x hxM) _
    have hk1 := KeepsOthers.setCell W ⟨nb x, 1, none⟩ (.int .i64 ((R' q).dep + 1))
    have HH : Hid (Lk W nb R' L M ∧ Boxed W w.heap.size 23 v) := ⟨hLk, hv⟩
    clear hLk hv hrow
    gi_wp2
    have hk2 : Hid (KeepsOthers W (W.setCell ⟨nb x, 1, none⟩ (.int .i64 ((R' q).dep + 1)))) := hk1
    have hB2 : Hid (Below n₀ W (W.setCell ⟨nb x, 1, none⟩ (.int .i64 ((R' q).dep + 1)))) := hB1
    clear hk1 hB1 HH r0 r1 r2 p1 z1 l3 hdp bO bN hB0 hL0
    generalize W.setCell ⟨nb x, 1, none⟩ (.int .i64 ((R' q).dep + 1)) = W1 at *
    obtain ⟨s0, s1, s2⟩ := hL1.row hxM
    generalize hrx : stepV L R' x x = rx at *
    have hc1 := hbx.cell
    have hc3 : ∀ o, (W1.alloc o).cell? ⟨w.heap.size, 0, none⟩ = some v := fun o => cell_onbox o hc1
    have hW1 : w.heap.size ≤ W1.heap.size := Nat.le_of_lt hbx.lt
    refine wpIn_region_any hmo ?_
    change wpAnyIn _ _ _ _ _ _ _ _ _ (World.drew _)
    repeat' (first
      | (refine wpAnyIn_done (by decide +kernel) ?_ _)
      | (refine wpAnyIn_ready (rs := [0, 1]) (by decide +kernel) (by simp) ?_)
      | (refine wpAnyIn_ready (rs := [1]) (by decide +kernel) (by simp) ?_)
      | (refine wpAnyIn_ready (rs := [0, 2]) (by decide +kernel) (by simp) ?_)
      | (refine wpAnyIn_ready (rs := [2]) (by decide +kernel) (by simp) ?_)
      | (refine wpAnyIn_ready (rs := [0, 3]) (by decide +kernel) (by simp) ?_)
      | (refine wpAnyIn_ready (rs := [3]) (by decide +kernel) (by simp) ?_)
      | (refine wpAnyIn_ready (rs := [0, 4]) (by decide +kernel) (by simp) ?_)
      | (refine wpAnyIn_ready (rs := [4]) (by decide +kernel) (by simp) ?_)
      | (refine wpAnyIn_ready (rs := [0, 5]) (by decide +kernel) (by simp) ?_)
      | (refine wpAnyIn_ready (rs := [5]) (by decide +kernel) (by simp) ?_)
      | (refine wpAnyIn_ready (rs := [0]) (by decide +kernel) (by simp) ?_)
      | (refine wpAnyIn_ready (rs := [6]) (by decide +kernel) (by simp) ?_)
      | (refine wpAnyIn_ready (rs := [7]) (by decide +kernel) (by simp) ?_)
      | exact AllReadyIn.nil
      | (refine AllReadyIn.cons rfl (fun K hK => ?_) ?_)
      | (refine stepIn_append_own rfl (.tmp 21) (.tmp 26) 23 rfl w.heap.size 39 i0 (.agg #[.int .i64 0, .int .i64 0, .string ⟨#[]⟩]) 3 32 Tryd.underlying23 hi hz0 hz1 hz2 rfl (by decide) v pl (cellsL acc) rfl (hrow1.alloc _) ⟨W1.heap.size, 0, none⟩ 1 1 (cellsL [rx]) rfl rfl (cells_new3 W1.drew _ _ _ _ _ rfl) (cellsL_plain _) (by unfold maxLen; omega) (by omega) (by simp; omega) ?_
         intro v' w1 hown' hgrow
         obtain ⟨g', cap', rfl⟩ := ownsRow_succ hown'
         obtain ⟨hv1, hv2, hr2, hk3, hb3⟩ := Boxed.appended (W := W1.drew) hbx (by decide) hrow1 hW1 (Nat.le_refl _) hown' hgrow
         have hc2 := hv1.cell
         have hf2 := hv1.frozen
         refine hK _ _ ?_
         clear hK K)
      | (go_simp; refine hK _ _ ?_; clear hK K))
    all_goals
      have hL2 := (hL1.drewN 1).below (fun y hy => h.lt hy) hb3
      exact ⟨(hk2.out.trans (KeepsOthers.drew _)).trans hk3, fun _ => hL2.at_links, HI.out _ hL2 ⟨_, hv2, hr2⟩ ((hB.trans (hB2.out.trans ((Below.refl _ _).drew))).trans (hb3.mono hn₀))⟩
  case done =>
    rintro D ys W hD hys ⟨⟨hLk, v, hv, hrow, _⟩, hB⟩ hK
    have hys' : ys.map (fun q => q.1) = g.nodes := hys
    rw [hys', hvis] at hrow
    have hlen : (toRs R (g.pre 0)).length = g.nodes.length := by rw [← hvis, visitL_len]
    rw [← hlen] at hrow
    have hc := hv.cell
    obtain ⟨a, cap, rfl, hcap⟩ := own_slice hrow
    clear hys hys' hvis hlen
    gi_wp2
    refine ⟨by simp, .inl ⟨_, _, rfl, run_takeDeferred hK, ?_⟩⟩
    exact ⟨_, results_tmp rfl _ _ _, a, cap, rfl, ownsRow_putObj hrow _ hK rfl, hcap, hB.trans (belowK_b (w := w) hn₀ W D _ _ (by simp at hD; omega) hK rfl rfl)⟩
  case stop =>
    rintro D c pre W _ _ h _
    exact h.elim
/-- Rows of the call's own; below block n₀ nothing has turned. -/
def RetOwnB (n₀ : Nat) (rs : List RowD) (w : World) (e : Ending) (w' : World) : Prop :=
  ∃ a cap, e = .returned (.slice a rs.length cap) ∧ w'.ownsRow w.heap.size 39 3 (.slice a rs.length cap) rs.length (cellsL rs) ∧ rs.length ≤ cap ∧ Below n₀ w w'
theorem rows_any (nb : Nat → Nat) (R : Nat → RowD) (L : L5) (M n₀ : Nat) (rs : List RowD) (w : World) (h : Lk w nb R L M) (h0 : ∀ y, y < M → n₀ ≤ nb y) (hM : 0 < M) (hs : Shows L R M rs) (hR0 : (R 0).dep = -1) (hRd : ∀ y, -1 ≤ (R y).dep ∧ (R y).dep ≤ 1000) (hl : rs.length ≤ 1048576) :
    Calls Tryd.prog 52 #[.pointer (some ⟨nb 0, 0, none⟩)] w (RetOwnB n₀ rs w) := by
  obtain ⟨g, a, b, c, d, e⟩ := hs
  have hlen : g.nodes.length = rs.length := by rw [← e, toRs_len, ← Fo.pre_nodes g 0, List.length_map]
  have := callsIn_wide.1 (rows_in Fence.wide rfl 3 trivial trivial trivial trivial rfl (Nat.le_refl _) nb R L M n₀ g w h h0 hM a b c d hR0 hRd (by omega))
  rw [e] at this
  exact this
theorem nd_dep {rs : List RowD} (ht : treeB rs = true) (y : Nat) : -1 ≤ (nd rs y).dep ∧ (nd rs y).dep ≤ 1000 := by
  cases y with
  | zero => exact ⟨show (-1 : Int) ≤ -1 by decide, show (-1 : Int) ≤ 1000 by decide⟩
  | succ i =>
    show -1 ≤ (rat rs i).dep ∧ (rat rs i).dep ≤ 1000
    rcases Nat.lt_or_ge i rs.length with h | h
    · have := rok_dep ((treeP_of ht).rok i h); omega
    · have : rat rs i = rz := by unfold rat; rw [List.getD_eq_getElem?_getD, List.getElem?_eq_none h]; rfl
      rw [this]; exact ⟨by decide, by decide⟩
end Go.Proofs.YtclhjgcapalniaaDoor
/-
  Plain mathematics and memory: the nodes of an outline in memory with a new one beside them; bounds of links; how many rows an outline has. Conditions: as each theorem says.
-/
namespace Go.Proofs.YtclhjgcapalniaaDoor
open Go.ChangeShapes Go.WideShapes Go.ChangeAt Go.RowKit Go.Joins

theorem pigeon : ∀ (n len : Nat) (f : Nat → Nat), (∀ i, i < len → f i < n) → (∀ i j, i < j → j < len → f i ≠ f j) → len ≤ n
  | 0, len, f, h1, h2 => by
    rcases Nat.eq_zero_or_pos len with h | h
    · omega
    · have := h1 0 h; omega
  | n + 1, len, f, h1, h2 => by
    by_cases hx : ∃ i, i < len ∧ f i = n
    · obtain ⟨i0, hi0, e0⟩ := hx
      have := pigeon n (len - 1) (fun i => if i < i0 then f i else f (i + 1)) (fun i hi => by
        split
        · have a := h1 i (by omega)
          have b := h2 i i0 (by assumption) hi0
          omega
        · have a := h1 (i + 1) (by omega)
          have b := h2 i0 (i + 1) (by omega) (by omega)
          omega) (fun i j hij hj => by
        split <;> split
        · exact h2 i j hij (by omega)
        · exact h2 i (j + 1) (by omega) (by omega)
        · omega
        · exact h2 (i + 1) (j + 1) (by omega) (by omega))
      omega
    · have := pigeon n len f (fun i hi => by
        have a := h1 i hi
        have b : f i ≠ n := fun e => hx ⟨i, hi, e⟩
        omega) h2
      omega
theorem tree_len {rs : List RowD} (ht : treeB rs = true) : rs.length ≤ 37 := by
  have hT := treeP_of ht
  refine pigeon 37 rs.length (fun i => (rat rs i).id.toNat) (fun i hi => ?_) (fun i j hij hj => ?_)
  · have := rok_id (hT.rok i hi)
    omega
  · have a := rok_id (hT.rok i (by omega))
    have b := rok_id (hT.rok j hj)
    have c := hT.fresh j i hij hj
    omega
/-! ### a new node beside those of an outline -/
theorem lk_make {w w' : World} {nb : Nat → Nat} {rs : List RowD} {g : Nat} {o : OpD} (hD : Deps (dp rs) (rs.length + 1)) (h : Nodes w nb rs (rs.length + 1)) (hb : Below w.heap.size w w') (hg : w.heap.size ≤ g)
    (hnew : w'.heap[g]? = some (.cells #[.int .i64 o.id, .int .i64 0, .string o.txt, .pointer none, .pointer none, .pointer none, .pointer none, .pointer none] 73 (0, 0))) :
    Lk w' (fun j => if j = rs.length + 1 then g else nb j) (mkR rs o) (newL (l5D rs (rs.length + 1)) (rs.length + 1)) (rs.length + 2) := by
  have old : ∀ q : Option Nat, (∀ j, q = some j → j < rs.length + 1) → padr (fun j => if j = rs.length + 1 then g else nb j) q = padr nb q := fun q hq =>
    padr_congr fun j hj => if_neg (by have := hq j hj; omega)
  refine ⟨fun x hx => ?_, fun i j hi hj e => ?_⟩
  · by_cases ex : x = rs.length + 1
    · subst ex
      rw [if_pos rfl, hnew]
      simp [lkArr, newL, upd, padr, mkR]
    · have hxm : x < rs.length + 1 := by omega
      rw [if_neg ex, hb.block _ (h.lt hxm), h.blk x hxm]
      have e1 : padr (fun j => if j = rs.length + 1 then g else nb j) (upO rs x) = padr nb (upO rs x) := by
        refine old _ fun j hj => ?_
        unfold upO at hj; split at hj
        · cases hj
        · cases hj; have := (par_spec hD (show 1 ≤ x by omega) (by omega)).1; omega
      have e2 : padr (fun j => if j = rs.length + 1 then g else nb j) (ahO rs x) = padr nb (ahO rs x) := by
        refine old _ fun j hj => ?_
        unfold ahO at hj; split at hj
        · cases hj
        · have := (lstBelow_some _ _ _ hj).1; omega
      have e3 : padr (fun j => if j = rs.length + 1 then g else nb j) (nxO rs (rs.length + 1) x) = padr nb (nxO rs (rs.length + 1) x) := by
        refine old _ fun j hj => ?_
        unfold nxO at hj; split at hj
        · cases hj
        · exact (fstBelow_some _ _ _ hj).1
      have e4 : padr (fun j => if j = rs.length + 1 then g else nb j) (fi (dp rs) (rs.length + 1) x) = padr nb (fi (dp rs) (rs.length + 1) x) := old _ fun j hj => (fstBelow_some _ _ _ hj).1
      have e5 : padr (fun j => if j = rs.length + 1 then g else nb j) (la (dp rs) (rs.length + 1) x) = padr nb (la (dp rs) (rs.length + 1) x) := old _ fun j hj => (lstBelow_some _ _ _ hj).1
      simp only [lkArr, nodeArr, newL, l5D, mkR, if_neg ex, upd_ne ex, e1, e2, e3, e4, e5]
  · have hlt : ∀ i, i < rs.length + 1 → nb i < g := fun i hi => Nat.lt_of_lt_of_le (h.lt hi) hg
    by_cases ei : i = rs.length + 1 <;> by_cases ej : j = rs.length + 1
    · omega
    · rw [if_pos ei, if_neg ej] at e
      have := hlt j (by omega); omega
    · rw [if_neg ei, if_pos ej] at e
      have := hlt i (by omega); omega
    · rw [if_neg ei, if_neg ej] at e
      exact h.lk.inj i j (by omega) (by omega) e
/-! ### bounds of links -/
theorem l5D_fi_lt {rs : List RowD} {m x y : Nat} (h : (l5D rs m).fi x = some y) : y < m := (fstBelow_some _ _ _ h).1
theorem l5D_nx_lt {rs : List RowD} {m x y : Nat} (h : (l5D rs m).nx x = some y) : y < m := by
  have h' : nxO rs m x = some y := h
  unfold nxO at h'; split at h'
  · cases h'
  · exact (fstBelow_some _ _ _ h').1
theorem l5D_ah_lt {rs : List RowD} {m x y : Nat} (hx : x < m) (h : (l5D rs m).ah x = some y) : y < m := by
  have h' : ahO rs x = some y := h
  unfold ahO at h'; split at h'
  · cases h'
  · have := (lstBelow_some _ _ _ h').1; omega
theorem l5D_up {rs : List RowD} {m x : Nat} (hx : 1 ≤ x) : (l5D rs m).up x = some (par (dp rs) x) := by
  show upO rs x = _
  unfold upO; rw [if_neg (by omega)]
theorem cut5_fi_lt {rs : List RowD} {m n x y : Nat} (hD : Deps (dp rs) m) (hn : 1 ≤ n) (hm : n < m) (h : (cut5 (l5D rs m) n (par (dp rs) n)).fi x = some y) : y < m := by
  rw [(cut_links hD hn hm x).2.1] at h
  have h' : (if fi (dp rs) m x = some n then (linksD (dp rs) m).nx n else fi (dp rs) m x) = some y := h
  split at h'
  · exact l5D_nx_lt (rs := rs) (x := n) h'
  · exact (fstBelow_some _ _ _ h').1
theorem cut5_nx_lt {rs : List RowD} {m n x y : Nat} (hD : Deps (dp rs) m) (hn : 1 ≤ n) (hm : n < m) (hx : x ≠ n) (h : (cut5 (l5D rs m) n (par (dp rs) n)).nx x = some y) : y < m := by
  rw [(cut_links hD hn hm x).2.2 hx] at h
  have h' : (if (linksD (dp rs) m).nx x = some n then (linksD (dp rs) m).nx n else (linksD (dp rs) m).nx x) = some y := h
  split at h'
  · exact l5D_nx_lt (rs := rs) (x := n) h'
  · exact l5D_nx_lt (rs := rs) (x := x) h'
theorem whA_lt {rs : List RowD} {o : OpD} (ht : treeB rs = true) (hn : noWhereB rs o = false) {y : Nat} (h : whA rs o = some y) : y < rs.length + 1 ∧ y = atN rs (whereA rs o) + 1 ∧ 0 < whereA rs o := by
  unfold whA at h
  rw [hn] at h
  simp only [Bool.false_eq_true, if_false] at h
  split at h
  · rename_i hp
    cases h
    have := there_iff.1 (whereA_up ht hn hp).1
    exact ⟨by omega, rfl, hp⟩
  · cases h
theorem whA_ne {rs : List RowD} {o : OpD} (ht : treeB rs = true) (hk : o.kind = 3) (hn : noWhereB rs o = false) : whA rs o ≠ some (atN rs o.id + 1) := by
  intro h
  obtain ⟨_, e, hp⟩ := whA_lt ht hn h
  obtain ⟨g1, g2, g3, g4, g5⟩ := whereA_up ht hn hp
  have hid : thereB rs o.id = true := by
    have hno := noWhere3 (rs := rs) hk
    rw [hn] at hno
    cases h : thereB rs o.id <;> simp [h] at hno ⊢
  have := at_inj hid g1 (by omega)
  rw [g4] at this
  exact g5 this.symm
theorem whA_next {rs : List RowD} {o : OpD} (ht : treeB rs = true) (hn : noWhereB rs o = false) : ∀ y, nextOf (newL (l5D rs (rs.length + 1)) (rs.length + 1)) (atN rs (whereU rs o) + 1) (whA rs o) = some y → y < rs.length + 2 := by
  intro y hy
  have hq := whU_mem ht hn
  cases ha : whA rs o with
  | none =>
    rw [ha] at hy
    have hy' : upd (l5D rs (rs.length + 1)).fi (rs.length + 1) none (atN rs (whereU rs o) + 1) = some y := hy
    rw [upd_ne (by omega)] at hy'
    have := l5D_fi_lt hy'; omega
  | some a0 =>
    rw [ha] at hy
    have hy' : upd (l5D rs (rs.length + 1)).nx (rs.length + 1) none a0 = some y := hy
    have := (whA_lt ht hn ha).1
    rw [upd_ne (by omega)] at hy'
    have := l5D_nx_lt hy'; omega
theorem whA_next3 {rs : List RowD} {o : OpD} (ht : treeB rs = true) (hk : o.kind = 3) (hn : noWhereB rs o = false) (hid : thereB rs o.id = true) : ∀ y, nextOf (cut5 (l5D rs (rs.length + 1)) (atN rs o.id + 1) (par (dp rs) (atN rs o.id + 1))) (atN rs (whereU rs o) + 1) (whA rs o) = some y → y < rs.length + 1 := by
  intro y hy
  have hD := (treeP_of ht).deps
  have hil := there_iff.1 hid
  cases ha : whA rs o with
  | none =>
    rw [ha] at hy
    exact cut5_fi_lt hD (by omega) (by omega) hy
  | some a0 =>
    rw [ha] at hy
    refine cut5_nx_lt hD (by omega) (by omega) (fun e => ?_) hy
    exact whA_ne ht hk hn (by rw [ha, e])
end Go.Proofs.YtclhjgcapalniaaDoor
/-
  Contract of the program's OpDo: the outline after a change. Conditions: the rows lie in memory as a slice of rows; the table 'creators' holds what its initialiser lays.
-/
namespace Go.Proofs.YtclhjgcapalniaaDoor
open Go.ChangeShapes Go.WideShapes Go.ChangeAt Go.RowKit Go.Joins

theorem own_low {w : World} {base base' : Nat} {e : TypeId} {size : Nat} {v : Value} {n : Nat} {xs : List Value} (h : w.ownsRow base e size v n xs) (hb : base' ≤ base) : w.ownsRow base' e size v n xs := own_mono h hb
set_option maxRecDepth 100000 in
set_option maxHeartbeats 4000000 in
theorem implOpDo1 (B : Nat) (a : Option Addr) (cap : Nat) (rs : List RowD) (o : OpD) (w : World) (hB : B ≤ w.heap.size) (h : RowsAt B w a rs) (hf : Fit rs) (ho : OpFit o) (ht : Tab w) (hk1 : o.kind = 1) (hok : opokB o = true) (htb : treeB rs = true) :
    Calls Tryd.prog 13 #[.slice a rs.length cap, .agg #[.int .i64 o.kind, .int .i64 o.id, .int .i64 o.up, .int .i64 o.at_, .string o.txt]] w (RetOwn (doR rs o) w) := by
  have hz := ht.pos
  have hD := Lib.hid (treeP_of htb).deps
  have hb0 : Below w.heap.size w (w.alloc (.cells #[.int .i64 o.kind, .int .i64 o.id, .int .i64 o.up, .int .i64 o.at_, .string o.txt] 27)) := (Below.refl _ _).alloc (Nat.le_refl _) _
  have HC := Lib.hid (changeOf_any o (w.alloc (.cells #[.int .i64 o.kind, .int .i64 o.id, .int .i64 o.up, .int .i64 o.at_, .string o.txt] 27)) (ht.below hb0 hz) ho.txt)
  have HCV : Hid (chR o = .iface 81 (.agg #[.int .i64 o.id, .int .i64 o.up, .int .i64 o.at_, .string o.txt])) := by unfold Hid chR chV; rw [hok, if_pos rfl, if_pos hk1]
  rw [hok, HCV.out] at HC
  have HTB := Lib.hid htb
  have X1 := as_mak_mak
  have HW : Hid (∀ (nb : Nat → Nat) (x : World), Nodes x nb rs (rs.length + 1) → Calls Tryd.prog 49 #[.pointer (some ⟨nb 0, 0, none⟩), .iface 81 (.agg #[.int .i64 o.id, .int .i64 o.up, .int .i64 o.at_, .string o.txt])] x (RetBelow (.tuple #[.pointer (padr nb (whU rs o)), .pointer (padr nb (whA rs o))]) x)) := fun nb x hx => where1 nb rs htb o hk1 x hx
  have hl := tree_len htb
  cases hn : noWhereB rs o
  · have HU : Hid (whU rs o = some (atN rs (whereU rs o) + 1)) := by unfold Hid whU; rw [hn]; rfl
    have hq := whU_mem htb hn
    have HSH := Lib.hid (make_shows htb hk1 hn)
    have HNX := Lib.hid (whA_next htb hn)
    have HAL : Hid (∀ y, whA rs o = some y → y < rs.length + 1) := fun y hy => (whA_lt htb hn hy).1
    have hlen : (doR rs o).length ≤ 100 := by
      rw [doR_put hk1 hn]
      have := (placeN_bd (rs := rs) (up := whereU rs o) (at' := whereA rs o) (whereU_there hn (tree_three htb)) (fun g => whereA_there g)).2
      unfold putR; simp; omega
    have HLN := Lib.hid hlen
    clear hn hok htb HCV hk1 hlen
    generalize whA rs o = aO at *
    generalize atN rs (whereU rs o) = q at *
    generalize doR rs o = res at *
    go_enter Tryd.func13, Tryd.ntmps13
    go_wp2_with fail
    refine (HC.out).mono ?_
    rintro e w1 ⟨rfl, hb1'⟩
    have hb1 := hb0.trans (hb1'.mono hb0.size)
    go_wp2_with fail
    refine (implTreeOk_any B _ _ _ _ (Nat.le_trans hB hb1.size) (h.below (hb1.mono hB)) hf (ht.below hb1 hz)).mono ?_
    rintro e w2 ⟨rfl, hb2⟩
    rw [HTB.out]
    have b2 := hb1.trans (hb2.mono hb1.size)
    clear hb1 hb2 hb1'
    go_wp2_with fail
    refine (treeOf_any B _ _ _ _ (Nat.le_trans hB b2.size) (h.below (b2.mono hB)) hf (ht.below b2 hz)).mono ?_
    rintro e w3 ⟨nb, rfl, hn0, hN, hb3⟩
    rw [HTB.out] at hN
    have hN' : Nodes w3 nb rs (rs.length + 1) := hN
    have b3 := b2.trans (hb3.mono b2.size)
    have hnb : ∀ y, y < rs.length + 1 → w.heap.size ≤ nb y := fun y hy => Nat.le_trans b2.size (Nat.le_trans hn0 (hN'.ge hy))
    have HNB := Lib.hid hnb
    clear hb3 b2 hN hn0 hnb
    have hbx : Below w3.heap.size w3 (w3.alloc (.cells #[.int .i64 o.id, .int .i64 o.up, .int .i64 o.at_, .string o.txt] 81)) := (Below.refl _ _).alloc (Nat.le_refl _) _
    go_wp2_with fail
    refine (HW.out nb _ (hN'.below hbx)).mono ?_
    rintro e w4 ⟨rfl, hb4⟩
    rw [HU.out]
    simp only [padr_some]
    have b34 := hbx.trans (hb4.mono hbx.size)
    have hN4 := hN'.below b34
    have b4 := b3.trans (b34.mono b3.size)
    have c0 : w4.cell? ⟨w3.heap.size, 0, none⟩ = some (.int .i64 o.id) := (hb4.cell (p := ⟨w3.heap.size, 0, none⟩) (by simp)).trans (by simp [go_sem])
    have c3 : w4.cell? ⟨w3.heap.size, 3, none⟩ = some (.string o.txt) := (hb4.cell (p := ⟨w3.heap.size, 3, none⟩) (by simp)).trans (by simp [go_sem])
    clear hbx hb4 b34 b3
    have hax : Below w4.heap.size w4 (w4.alloc (.cells #[.int .i64 o.id, .int .i64 0, .string o.txt, .pointer none, .pointer none, .pointer none, .pointer none, .pointer none] 73)) := (Below.refl _ _).alloc (Nat.le_refl _) _
    have hlk := lk_make hD.out hN4 hax (Nat.le_refl _) (heap_alloc_new w4 _)
    obtain ⟨nb', hnb'⟩ : ∃ f : Nat → Nat, f = fun j => if j = rs.length + 1 then w4.heap.size else nb j := ⟨_, rfl⟩
    rw [← hnb'] at hlk
    have e0 : nb' 0 = nb 0 := by rw [hnb']; exact if_neg (by omega)
    have e1 : nb' (q + 1) = nb (q + 1) := by rw [hnb']; exact if_neg (by omega)
    have e2 : nb' (rs.length + 1) = w4.heap.size := by rw [hnb']; exact if_pos rfl
    have e3 : padr nb' aO = padr nb aO := padr_congr fun j hj => by rw [hnb']; exact if_neg (by have := HAL.out j hj; omega)
    have h0' : ∀ y, y < rs.length + 2 → w.heap.size ≤ nb' y := fun y hy => by
      rw [hnb']
      show w.heap.size ≤ if y = rs.length + 1 then w4.heap.size else nb y
      split
      · exact b4.size
      · exact HNB.out y (by omega)
    have b5 := b4.trans (hax.mono b4.size)
    have HP := Lib.hid (put_lk nb' (mkR rs o) (newL (l5D rs (rs.length + 1)) (rs.length + 1)) (rs.length + 2) w.heap.size (q + 1) (rs.length + 1) aO _ hlk h0' (by omega) (by omega) (fun y hy => by have := HAL.out y hy; omega) (fun e => by have := HAL.out _ e; omega) HNX.out)
    rw [e1, e2, e3] at HP
    have H0 := Lib.hid h0'
    have E0 := Lib.hid e0
    clear hax hlk hnb' e0 e1 e2 e3 h0' hN4 hN'
    go_wp2_with fail
    refine (HP.out).mono ?_
    rintro e w6 ⟨⟨v, rfl⟩, hl6, hb6, hs6⟩
    have HRW := Lib.hid (rows_any nb' (mkR rs o) _ (rs.length + 2) w.heap.size res w6 hl6 H0.out (by omega) HSH.out (by show (if 0 = rs.length + 1 then _ else _ : RowD).dep = -1; rw [if_neg (by omega)]; rfl) (fun y => by
      show -1 ≤ (if y = rs.length + 1 then (⟨o.id, 0, o.txt⟩ : RowD) else nd rs y).dep ∧ (if y = rs.length + 1 then (⟨o.id, 0, o.txt⟩ : RowD) else nd rs y).dep ≤ 1000
      split
      · exact ⟨by show (-1 : Int) ≤ 0; decide, by show (0 : Int) ≤ 1000; decide⟩
      · exact nd_dep HTB.out y) (by have := HLN.out; omega))
    rw [E0.out] at HRW
    have b6 := b5.trans hb6
    clear hl6 hb6 hs6 b5 b4 c0 c3
    go_wp2_with fail
    refine (HRW.out).mono ?_
    rintro e w7 ⟨ra, rc, rfl, own7, hrc, hb7⟩
    go_wp2
    go_ret
    exact ⟨ra, rc, rfl, own_mono own7 b6.size, hrc, b6.trans hb7⟩
  · obtain ⟨eU, eA⟩ := wh_no hn
    have HU := Lib.hid eU
    have HA := Lib.hid eA
    have HR : Hid (doR rs o = rs) := doR_no hk1 hn
    rw [HR.out]
    clear hn eU eA hok htb HCV hk1 HR
    go_enter Tryd.func13, Tryd.ntmps13
    go_wp2_with fail
    refine (HC.out).mono ?_
    rintro e w1 ⟨rfl, hb1'⟩
    have hb1 := hb0.trans (hb1'.mono hb0.size)
    go_wp2_with fail
    refine (implTreeOk_any B _ _ _ _ (Nat.le_trans hB hb1.size) (h.below (hb1.mono hB)) hf (ht.below hb1 hz)).mono ?_
    rintro e w2 ⟨rfl, hb2⟩
    rw [HTB.out]
    have b2 := hb1.trans (hb2.mono hb1.size)
    clear hb1 hb2 hb1'
    go_wp2_with fail
    refine (treeOf_any B _ _ _ _ (Nat.le_trans hB b2.size) (h.below (b2.mono hB)) hf (ht.below b2 hz)).mono ?_
    rintro e w3 ⟨nb, rfl, hn0, hN, hb3⟩
    rw [HTB.out] at hN
    have hN' : Nodes w3 nb rs (rs.length + 1) := hN
    have b3 := b2.trans (hb3.mono b2.size)
    have hnb : ∀ y, y < rs.length + 1 → w.heap.size ≤ nb y := fun y hy => Nat.le_trans b2.size (Nat.le_trans hn0 (hN'.ge hy))
    have HNB := Lib.hid hnb
    clear hb3 b2 hN hn0 hnb
    have hbx : Below w3.heap.size w3 (w3.alloc (.cells #[.int .i64 o.id, .int .i64 o.up, .int .i64 o.at_, .string o.txt] 81)) := (Below.refl _ _).alloc (Nat.le_refl _) _
    go_wp2_with fail
    refine (HW.out nb _ (hN'.below hbx)).mono ?_
    rintro e w4 ⟨rfl, hb4⟩
    rw [HU.out, HA.out]
    simp only [padr_none]
    have b34 := hbx.trans (hb4.mono hbx.size)
    have hN4 := hN'.below b34
    have b4 := b3.trans (b34.mono b3.size)
    clear hbx hb4 b34 b3
    go_wp2_with fail
    refine (rows_any nb (nd rs) (l5D rs (rs.length + 1)) (rs.length + 1) w.heap.size rs w4 hN4.lk HNB.out (by omega) (tree_shows HTB.out) rfl (nd_dep HTB.out) (by omega)).mono ?_
    rintro e w5 ⟨ra, rc, rfl, own5, hrc, hb5⟩
    go_wp2
    go_ret
    exact ⟨ra, rc, rfl, own_mono own5 b4.size, hrc, b4.trans hb5⟩
set_option maxRecDepth 100000 in
set_option maxHeartbeats 4000000 in
theorem implOpDo2 (B : Nat) (a : Option Addr) (cap : Nat) (rs : List RowD) (o : OpD) (w : World) (hB : B ≤ w.heap.size) (h : RowsAt B w a rs) (hf : Fit rs) (ho : OpFit o) (ht : Tab w) (hk2 : o.kind = 2) (hok : opokB o = true) (htb : treeB rs = true) :
    Calls Tryd.prog 13 #[.slice a rs.length cap, .agg #[.int .i64 o.kind, .int .i64 o.id, .int .i64 o.up, .int .i64 o.at_, .string o.txt]] w (RetOwn (doR rs o) w) := by
  have hz := ht.pos
  have hD := Lib.hid (treeP_of htb).deps
  have hb0 : Below w.heap.size w (w.alloc (.cells #[.int .i64 o.kind, .int .i64 o.id, .int .i64 o.up, .int .i64 o.at_, .string o.txt] 27)) := (Below.refl _ _).alloc (Nat.le_refl _) _
  have HC := Lib.hid (changeOf_any o (w.alloc (.cells #[.int .i64 o.kind, .int .i64 o.id, .int .i64 o.up, .int .i64 o.at_, .string o.txt] 27)) (ht.below hb0 hz) ho.txt)
  have HCV : Hid (chR o = .iface 86 (.agg #[.int .i64 o.id, .string o.txt])) := by unfold Hid chR chV; rw [hok, if_pos rfl, if_neg (by omega), if_pos hk2]
  rw [hok, HCV.out] at HC
  have HTB := Lib.hid htb
  have X1 := as_wor_mak
  have X2 := as_wor_wor
  have HF : Hid (∀ (nb : Nat → Nat) (x : World), Nodes x nb rs (rs.length + 1) → Calls Tryd.prog 47 #[.pointer (some ⟨nb 0, 0, none⟩), .int .i64 o.id] x (RetBelow (.pointer (padr nb (nodeO rs o.id))) x)) := fun nb x hx => find_tree nb rs htb o.id x hx
  have hl := tree_len htb
  cases hi : thereB rs o.id
  · have HR : Hid (doR rs o = rs) := by unfold Hid doR; rw [if_pos hk2, hi]; rfl
    have HN := Lib.hid (nodeO_no hi)
    rw [HR.out]
    clear hi hok htb HCV hk2 HR
    go_enter Tryd.func13, Tryd.ntmps13
    go_wp2_with fail
    refine (HC.out).mono ?_
    rintro e w1 ⟨rfl, hb1'⟩
    have hb1 := hb0.trans (hb1'.mono hb0.size)
    go_wp2_with fail
    refine (implTreeOk_any B _ _ _ _ (Nat.le_trans hB hb1.size) (h.below (hb1.mono hB)) hf (ht.below hb1 hz)).mono ?_
    rintro e w2 ⟨rfl, hb2⟩
    rw [HTB.out]
    have b2 := hb1.trans (hb2.mono hb1.size)
    clear hb1 hb2 hb1'
    go_wp2_with fail
    refine (treeOf_any B _ _ _ _ (Nat.le_trans hB b2.size) (h.below (b2.mono hB)) hf (ht.below b2 hz)).mono ?_
    rintro e w3 ⟨nb, rfl, hn0, hN, hb3⟩
    rw [HTB.out] at hN
    have hN' : Nodes w3 nb rs (rs.length + 1) := hN
    have b3 := b2.trans (hb3.mono b2.size)
    have hnb : ∀ y, y < rs.length + 1 → w.heap.size ≤ nb y := fun y hy => Nat.le_trans b2.size (Nat.le_trans hn0 (hN'.ge hy))
    have HNB := Lib.hid hnb
    clear hb3 b2 hN hn0 hnb
    have hbx : Below w3.heap.size w3 (w3.alloc (.cells #[.int .i64 o.id, .string o.txt] 86)) := (Below.refl _ _).alloc (Nat.le_refl _) _
    go_wp2_with fail
    refine (HF.out nb _ (hN'.below hbx)).mono ?_
    rintro e w4 ⟨rfl, hb4⟩
    rw [HN.out, padr_none]
    have b34 := hbx.trans (hb4.mono hbx.size)
    have hN4 := hN'.below b34
    have b4 := b3.trans (b34.mono b3.size)
    clear hbx hb4 b34 b3
    go_wp2_with fail
    refine (rows_any nb (nd rs) (l5D rs (rs.length + 1)) (rs.length + 1) w.heap.size rs w4 hN4.lk HNB.out (by omega) (tree_shows HTB.out) rfl (nd_dep HTB.out) (by omega)).mono ?_
    rintro e w5 ⟨ra, rc, rfl, own5, hrc, hb5⟩
    go_wp2
    go_ret
    exact ⟨ra, rc, rfl, own_mono own5 b4.size, hrc, b4.trans hb5⟩
  · have HR : Hid (doR rs o = setTxt rs (atN rs o.id) o.txt) := by unfold Hid doR; rw [if_pos hk2, hi]; rfl
    have HN := Lib.hid (nodeO_yes hi)
    have hil := there_iff.1 hi
    have HSH := Lib.hid (text_shows htb (k := atN rs o.id) o.txt)
    have HLN : Hid ((setTxt rs (atN rs o.id) o.txt).length = rs.length) := by simp [Hid, setTxt]
    rw [HR.out]
    clear hi hok htb HCV hk2 HR
    go_enter Tryd.func13, Tryd.ntmps13
    go_wp2_with fail
    refine (HC.out).mono ?_
    rintro e w1 ⟨rfl, hb1'⟩
    have hb1 := hb0.trans (hb1'.mono hb0.size)
    go_wp2_with fail
    refine (implTreeOk_any B _ _ _ _ (Nat.le_trans hB hb1.size) (h.below (hb1.mono hB)) hf (ht.below hb1 hz)).mono ?_
    rintro e w2 ⟨rfl, hb2⟩
    rw [HTB.out]
    have b2 := hb1.trans (hb2.mono hb1.size)
    clear hb1 hb2 hb1'
    go_wp2_with fail
    refine (treeOf_any B _ _ _ _ (Nat.le_trans hB b2.size) (h.below (b2.mono hB)) hf (ht.below b2 hz)).mono ?_
    rintro e w3 ⟨nb, rfl, hn0, hN, hb3⟩
    rw [HTB.out] at hN
    have hN' : Nodes w3 nb rs (rs.length + 1) := hN
    have b3 := b2.trans (hb3.mono b2.size)
    have hnb : ∀ y, y < rs.length + 1 → w.heap.size ≤ nb y := fun y hy => Nat.le_trans b2.size (Nat.le_trans hn0 (hN'.ge hy))
    have HNB := Lib.hid hnb
    clear hb3 b2 hN hn0 hnb
    have hbx : Below w3.heap.size w3 (w3.alloc (.cells #[.int .i64 o.id, .string o.txt] 86)) := (Below.refl _ _).alloc (Nat.le_refl _) _
    go_wp2_with fail
    refine (HF.out nb _ (hN'.below hbx)).mono ?_
    rintro e w4 ⟨rfl, hb4⟩
    rw [HN.out, padr_some]
    have b34 := hbx.trans (hb4.mono hbx.size)
    have hN4 := hN'.below b34
    have b4 := b3.trans (b34.mono b3.size)
    have c1 : w4.cell? ⟨w3.heap.size, 1, none⟩ = some (.string o.txt) := (hb4.cell (p := ⟨w3.heap.size, 1, none⟩) (by simp)).trans (by simp [go_sem])
    have hlk := hN4.lk
    have r2 := (hlk.row (show atN rs o.id + 1 < rs.length + 1 by omega)).2.2
    have z2 := hlk.frozen (show atN rs o.id + 1 < rs.length + 1 by omega) 2
    have HL : Hid (Lk (w4.setCell ⟨nb (atN rs o.id + 1), 2, none⟩ (.string o.txt)) nb (txR rs (atN rs o.id + 1) o.txt) (l5D rs (rs.length + 1)) (rs.length + 1)) := hlk.set2 (by omega) o.txt
    have b5 : Below w.heap.size w (w4.setCell ⟨nb (atN rs o.id + 1), 2, none⟩ (.string o.txt)) := b4.setCell (p := ⟨nb (atN rs o.id + 1), 2, none⟩) (HNB.out _ (by omega)) _
    have HRW : Hid (Calls Tryd.prog 52 #[.pointer (some ⟨nb 0, 0, none⟩)] (w4.setCell ⟨nb (atN rs o.id + 1), 2, none⟩ (.string o.txt)) (RetOwnB w.heap.size (setTxt rs (atN rs o.id) o.txt) (w4.setCell ⟨nb (atN rs o.id + 1), 2, none⟩ (.string o.txt)))) :=
      rows_any nb (txR rs (atN rs o.id + 1) o.txt) _ (rs.length + 1) w.heap.size _ _ HL.out HNB.out (by omega) HSH.out (by show (if 0 = atN rs o.id + 1 then _ else _ : RowD).dep = -1; rw [if_neg (by omega)]; rfl) (fun y => by
        unfold txR
        split
        · exact nd_dep HTB.out _
        · exact nd_dep HTB.out y) (by rw [HLN.out]; omega)
    clear hbx hb4 b34 b3 hlk hN4 hN' b4
    go_wp2_with fail
    refine (HRW.out).mono ?_
    rintro e w7 ⟨ra, rc, rfl, own7, hrc, hb7⟩
    go_wp2
    go_ret
    exact ⟨ra, rc, rfl, own_mono own7 b5.size, hrc, b5.trans hb7⟩
set_option maxRecDepth 100000 in
set_option maxHeartbeats 4000000 in
theorem implOpDo3 (B : Nat) (a : Option Addr) (cap : Nat) (rs : List RowD) (o : OpD) (w : World) (hB : B ≤ w.heap.size) (h : RowsAt B w a rs) (hf : Fit rs) (ho : OpFit o) (ht : Tab w) (hk3 : o.kind = 3) (hok : opokB o = true) (htb : treeB rs = true) :
    Calls Tryd.prog 13 #[.slice a rs.length cap, .agg #[.int .i64 o.kind, .int .i64 o.id, .int .i64 o.up, .int .i64 o.at_, .string o.txt]] w (RetOwn (doR rs o) w) := by
  have hz := ht.pos
  have hD := Lib.hid (treeP_of htb).deps
  have hb0 : Below w.heap.size w (w.alloc (.cells #[.int .i64 o.kind, .int .i64 o.id, .int .i64 o.up, .int .i64 o.at_, .string o.txt] 27)) := (Below.refl _ _).alloc (Nat.le_refl _) _
  have HC := Lib.hid (changeOf_any o (w.alloc (.cells #[.int .i64 o.kind, .int .i64 o.id, .int .i64 o.up, .int .i64 o.at_, .string o.txt] 27)) (ht.below hb0 hz) ho.txt)
  have HCV : Hid (chR o = .iface 88 (.agg #[.int .i64 o.id, .int .i64 o.up, .int .i64 o.at_])) := by unfold Hid chR chV; rw [hok, if_pos rfl, if_neg (by omega), if_neg (by omega)]
  have hmd : madeB o.id = true := by
    have := hok
    unfold opokB at this
    rw [if_neg (by omega), if_neg (by omega), if_pos hk3] at this
    simp only [Bool.and_eq_true] at this
    exact this.1.2
  rw [hok, HCV.out] at HC
  have HTB := Lib.hid htb
  have X1 := as_mov_mak
  have X2 := as_mov_wor
  have X3 := as_mov_mov
  have HW : Hid (∀ (nb : Nat → Nat) (x : World), Nodes x nb rs (rs.length + 1) → Calls Tryd.prog 49 #[.pointer (some ⟨nb 0, 0, none⟩), .iface 88 (.agg #[.int .i64 o.id, .int .i64 o.up, .int .i64 o.at_])] x (RetBelow (.tuple #[.pointer (padr nb (whU rs o)), .pointer (padr nb (whA rs o))]) x)) := fun nb x hx => where3 nb rs htb o hk3 x hx
  have HF : Hid (∀ (nb : Nat → Nat) (x : World), Nodes x nb rs (rs.length + 1) → Calls Tryd.prog 47 #[.pointer (some ⟨nb 0, 0, none⟩), .int .i64 o.id] x (RetBelow (.pointer (padr nb (nodeO rs o.id))) x)) := fun nb x hx => find_tree nb rs htb o.id x hx
  have hl := tree_len htb
  cases hn : noWhereB rs o
  · have HU : Hid (whU rs o = some (atN rs (whereU rs o) + 1)) := by unfold Hid whU; rw [hn]; rfl
    have hq := whU_mem htb hn
    have hid : thereB rs o.id = true := by
      have hno := noWhere3 (rs := rs) hk3
      rw [hn] at hno
      cases h : thereB rs o.id <;> simp [h] at hno ⊢
    have hil := there_iff.1 hid
    have HN := Lib.hid (nodeO_yes hid)
    have HSH := Lib.hid (move_shows htb hk3 hmd hn)
    have HNX := Lib.hid (whA_next3 htb hk3 hn hid)
    have HNE := Lib.hid (whA_ne htb hk3 hn)
    have HAL : Hid (∀ y, whA rs o = some y → y < rs.length + 1) := fun y hy => (whA_lt htb hn hy).1
    have hpn := (par_spec hD.out (show 1 ≤ atN rs o.id + 1 by omega) (by omega)).1
    have HLN : Hid ((doR rs o).length ≤ 100) := by
      obtain ⟨g, a, b, c, d, e⟩ := HSH.out
      rw [← e, toRs_len]
      have h1 : (g.pre 0).length = g.nodes.length := by rw [← Fo.pre_nodes g 0, List.length_map]
      rw [h1]
      have := pigeon 100 g.nodes.length (fun i => g.nodes.getD i 0) (fun i hi => by
        have : g.nodes.getD i 0 ∈ g.nodes := by rw [List.getD_eq_getElem?_getD, List.getElem?_eq_getElem hi]; exact List.getElem_mem hi
        have := (d _ this).2
        omega) (fun i j hij hj => by
        rw [List.getD_eq_getElem?_getD, List.getD_eq_getElem?_getD, List.getElem?_eq_getElem hj, List.getElem?_eq_getElem (by omega)]
        have := List.pairwise_iff_getElem.1 c i j (by omega) hj hij
        simpa using this)
      exact this
    clear hn hok htb HCV hk3 hid
    generalize whA rs o = aO at *
    generalize atN rs (whereU rs o) = q at *
    generalize doR rs o = res at *
    generalize atN rs o.id = n at *
    go_enter Tryd.func13, Tryd.ntmps13
    go_wp2_with fail
    refine (HC.out).mono ?_
    rintro e w1 ⟨rfl, hb1'⟩
    have hb1 := hb0.trans (hb1'.mono hb0.size)
    go_wp2_with fail
    refine (implTreeOk_any B _ _ _ _ (Nat.le_trans hB hb1.size) (h.below (hb1.mono hB)) hf (ht.below hb1 hz)).mono ?_
    rintro e w2 ⟨rfl, hb2⟩
    rw [HTB.out]
    have b2 := hb1.trans (hb2.mono hb1.size)
    clear hb1 hb2 hb1'
    go_wp2_with fail
    refine (treeOf_any B _ _ _ _ (Nat.le_trans hB b2.size) (h.below (b2.mono hB)) hf (ht.below b2 hz)).mono ?_
    rintro e w3 ⟨nb, rfl, hn0, hN, hb3⟩
    rw [HTB.out] at hN
    have hN' : Nodes w3 nb rs (rs.length + 1) := hN
    have b3 := b2.trans (hb3.mono b2.size)
    have hnb : ∀ y, y < rs.length + 1 → w.heap.size ≤ nb y := fun y hy => Nat.le_trans b2.size (Nat.le_trans hn0 (hN'.ge hy))
    have HNB := Lib.hid hnb
    clear hb3 b2 hN hn0 hnb
    have hbx : Below w3.heap.size w3 (w3.alloc (.cells #[.int .i64 o.id, .int .i64 o.up, .int .i64 o.at_] 88)) := (Below.refl _ _).alloc (Nat.le_refl _) _
    go_wp2_with fail
    refine (HW.out nb _ (hN'.below hbx)).mono ?_
    rintro e w4 ⟨rfl, hb4⟩
    rw [HU.out]
    simp only [padr_some]
    have b34 := hbx.trans (hb4.mono hbx.size)
    have hN4 := hN'.below b34
    have b4 := b3.trans (b34.mono b3.size)
    have c0 : w4.cell? ⟨w3.heap.size, 0, none⟩ = some (.int .i64 o.id) := (hb4.cell (p := ⟨w3.heap.size, 0, none⟩) (by simp)).trans (by simp [go_sem])
    clear hbx hb4 b34 b3 hN'
    go_wp2_with fail
    refine (HF.out nb _ hN4).mono ?_
    rintro e w5 ⟨rfl, hb5⟩
    rw [HN.out, padr_some]
    have hN5 := hN4.below hb5
    have b5 := b4.trans (hb5.mono b4.size)
    clear hN4 hb5 b4 c0
    have HCT := Lib.hid (cut_lk nb (nd rs) (l5D rs (rs.length + 1)) (rs.length + 1) w.heap.size (n + 1) (par (dp rs) (n + 1)) w5 hN5.lk HNB.out (by omega) (by omega) (l5D_up (by omega)) (fun y hy => l5D_ah_lt (by omega) hy) (fun y hy => l5D_nx_lt hy))
    clear hN5
    go_wp2_with fail
    refine (HCT.out).mono ?_
    rintro e w6 ⟨⟨v, rfl⟩, hl6, hb6, hs6⟩
    have b6 := b5.trans hb6
    have HP := Lib.hid (put_lk nb (nd rs) _ (rs.length + 1) w.heap.size (q + 1) (n + 1) aO w6 hl6 HNB.out (by omega) (by omega) HAL.out HNE.out HNX.out)
    clear hl6 hb6 hs6 b5
    go_wp2_with fail
    refine (HP.out).mono ?_
    rintro e w7 ⟨⟨v7, rfl⟩, hl7, hb7, hs7⟩
    have b7 := b6.trans hb7
    have HRW := Lib.hid (rows_any nb (nd rs) _ (rs.length + 1) w.heap.size res w7 hl7 HNB.out (by omega) HSH.out rfl (nd_dep HTB.out) (by have := HLN.out; omega))
    clear hl7 hb7 hs7 b6
    go_wp2_with fail
    refine (HRW.out).mono ?_
    rintro e w8 ⟨ra, rc, rfl, own8, hrc, hb8⟩
    go_wp2
    go_ret
    exact ⟨ra, rc, rfl, own_mono own8 b7.size, hrc, b7.trans hb8⟩
  · obtain ⟨eU, eA⟩ := wh_no hn
    have HU := Lib.hid eU
    have HA := Lib.hid eA
    have HR : Hid (doR rs o = rs) := by unfold Hid doR; rw [if_neg (by omega), hn]; rfl
    rw [HR.out]
    clear hn eU eA hok htb HCV hk3 HR
    go_enter Tryd.func13, Tryd.ntmps13
    go_wp2_with fail
    refine (HC.out).mono ?_
    rintro e w1 ⟨rfl, hb1'⟩
    have hb1 := hb0.trans (hb1'.mono hb0.size)
    go_wp2_with fail
    refine (implTreeOk_any B _ _ _ _ (Nat.le_trans hB hb1.size) (h.below (hb1.mono hB)) hf (ht.below hb1 hz)).mono ?_
    rintro e w2 ⟨rfl, hb2⟩
    rw [HTB.out]
    have b2 := hb1.trans (hb2.mono hb1.size)
    clear hb1 hb2 hb1'
    go_wp2_with fail
    refine (treeOf_any B _ _ _ _ (Nat.le_trans hB b2.size) (h.below (b2.mono hB)) hf (ht.below b2 hz)).mono ?_
    rintro e w3 ⟨nb, rfl, hn0, hN, hb3⟩
    rw [HTB.out] at hN
    have hN' : Nodes w3 nb rs (rs.length + 1) := hN
    have b3 := b2.trans (hb3.mono b2.size)
    have hnb : ∀ y, y < rs.length + 1 → w.heap.size ≤ nb y := fun y hy => Nat.le_trans b2.size (Nat.le_trans hn0 (hN'.ge hy))
    have HNB := Lib.hid hnb
    clear hb3 b2 hN hn0 hnb
    have hbx : Below w3.heap.size w3 (w3.alloc (.cells #[.int .i64 o.id, .int .i64 o.up, .int .i64 o.at_] 88)) := (Below.refl _ _).alloc (Nat.le_refl _) _
    go_wp2_with fail
    refine (HW.out nb _ (hN'.below hbx)).mono ?_
    rintro e w4 ⟨rfl, hb4⟩
    rw [HU.out, HA.out]
    simp only [padr_none]
    have b34 := hbx.trans (hb4.mono hbx.size)
    have hN4 := hN'.below b34
    have b4 := b3.trans (b34.mono b3.size)
    clear hbx hb4 b34 b3
    go_wp2_with fail
    refine (rows_any nb (nd rs) (l5D rs (rs.length + 1)) (rs.length + 1) w.heap.size rs w4 hN4.lk HNB.out (by omega) (tree_shows HTB.out) rfl (nd_dep HTB.out) (by omega)).mono ?_
    rintro e w5 ⟨ra, rc, rfl, own5, hrc, hb5⟩
    go_wp2
    go_ret
    exact ⟨ra, rc, rfl, own_mono own5 b4.size, hrc, b4.trans hb5⟩
/-- The outline after a change, for every argument. -/
def doT (rs : List RowD) (o : OpD) : List RowD := if treeB rs && opokB o then doR rs o else []
theorem own_nil (w : World) (base : Nat) : w.ownsRow base 39 3 (.slice none 0 0) 0 (cellsL []) := World.ownsRow_nil _ _ _ _
set_option maxRecDepth 100000 in
theorem implOpDo_any (B : Nat) (a : Option Addr) (cap : Nat) (rs : List RowD) (o : OpD) (w : World) (hB : B ≤ w.heap.size) (h : RowsAt B w a rs) (hf : Fit rs) (ho : OpFit o) (ht : Tab w) :
    Calls Tryd.prog 13 #[.slice a rs.length cap, .agg #[.int .i64 o.kind, .int .i64 o.id, .int .i64 o.up, .int .i64 o.at_, .string o.txt]] w (RetOwn (doT rs o) w) := by
  cases hok : opokB o
  · have e : doT rs o = [] := by simp [doT, hok]
    rw [e]
    have hz := ht.pos
    have hb0 : Below w.heap.size w (w.alloc (.cells #[.int .i64 o.kind, .int .i64 o.id, .int .i64 o.up, .int .i64 o.at_, .string o.txt] 27)) := (Below.refl _ _).alloc (Nat.le_refl _) _
    have HC := Lib.hid (changeOf_any o (w.alloc (.cells #[.int .i64 o.kind, .int .i64 o.id, .int .i64 o.up, .int .i64 o.at_, .string o.txt] 27)) (ht.below hb0 hz) ho.txt)
    rw [hok] at HC
    generalize chR o = c at *
    go_enter Tryd.func13, Tryd.ntmps13
    go_wp2_with fail
    refine (HC.out).mono ?_
    rintro e w1 ⟨rfl, hb1⟩
    go_wp2
    go_ret
    exact ⟨none, 0, rfl, own_nil _ _, Nat.le_refl _, hb0.trans (hb1.mono hb0.size)⟩
  · cases htb : treeB rs
    · have e : doT rs o = [] := by simp [doT, htb]
      rw [e]
      have hz := ht.pos
      have hb0 : Below w.heap.size w (w.alloc (.cells #[.int .i64 o.kind, .int .i64 o.id, .int .i64 o.up, .int .i64 o.at_, .string o.txt] 27)) := (Below.refl _ _).alloc (Nat.le_refl _) _
      have HC := Lib.hid (changeOf_any o (w.alloc (.cells #[.int .i64 o.kind, .int .i64 o.id, .int .i64 o.up, .int .i64 o.at_, .string o.txt] 27)) (ht.below hb0 hz) ho.txt)
      rw [hok] at HC
      generalize chR o = c at *
      go_enter Tryd.func13, Tryd.ntmps13
      go_wp2_with fail
      refine (HC.out).mono ?_
      rintro e w1 ⟨rfl, hb1'⟩
      have hb1 := hb0.trans (hb1'.mono hb0.size)
      go_wp2_with fail
      refine (implTreeOk_any B _ _ _ _ (Nat.le_trans hB hb1.size) (h.below (hb1.mono hB)) hf (ht.below hb1 hz)).mono ?_
      rintro e w2 ⟨rfl, hb2⟩
      rw [htb]
      go_wp2
      go_ret
      exact ⟨none, 0, rfl, own_nil _ _, Nat.le_refl _, hb1.trans (hb2.mono hb1.size)⟩
    · have e : doT rs o = doR rs o := by simp [doT, htb, hok]
      rw [e]
      rcases opok_kind hok with k | k | k
      · exact implOpDo1 B a cap rs o w hB h hf ho ht k hok htb
      · exact implOpDo2 B a cap rs o w hB h hf ho ht k hok htb
      · exact implOpDo3 B a cap rs o w hB h hf ho ht k hok htb
end Go.Proofs.YtclhjgcapalniaaDoor
