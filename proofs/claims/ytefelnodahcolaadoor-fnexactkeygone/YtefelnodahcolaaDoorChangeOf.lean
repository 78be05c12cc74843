/-
  Contract of the program's changeOf: the change that is given by fields, if it is valid. Conditions: the table 'creators' holds what its initialiser lays; texts are not too long.
-/
import Derived.Test.YtefelnodahcolaaDoorChange
namespace Go.Proofs.YtefelnodahcolaaDoor
open Go.ChangeShapes Go.WideShapes Go.ChangeAt Go.RowKit Go.Joins

theorem meth_mak_op (v : Value) (fuel : Nat) (w : World) : (method (fuel + 1) 69 v "loop.example/plashet/impl.op").run Tryd.prog w = .ok (97, v) w := by kernel_rfl
theorem meth_mak_ok (v : Value) (fuel : Nat) (w : World) : (method (fuel + 1) 69 v "loop.example/plashet/impl.ok").run Tryd.prog w = .ok (96, v) w := by kernel_rfl
theorem meth_wor_op (v : Value) (fuel : Nat) (w : World) : (method (fuel + 1) 75 v "loop.example/plashet/impl.op").run Tryd.prog w = .ok (47, v) w := by kernel_rfl
theorem meth_wor_ok (v : Value) (fuel : Nat) (w : World) : (method (fuel + 1) 75 v "loop.example/plashet/impl.ok").run Tryd.prog w = .ok (101, v) w := by kernel_rfl
theorem meth_mov_op (v : Value) (fuel : Nat) (w : World) : (method (fuel + 1) 72 v "loop.example/plashet/impl.op").run Tryd.prog w = .ok (46, v) w := by kernel_rfl
theorem meth_mov_ok (v : Value) (fuel : Nat) (w : World) : (method (fuel + 1) 72 v "loop.example/plashet/impl.ok").run Tryd.prog w = .ok (99, v) w := by kernel_rfl
set_option maxRecDepth 10000 in
theorem neq_op (k i u a k' i' u' a' : Int) (t t' : ByteArray) (w : World) : (binOp .neq 25 (.agg #[.int .i64 k, .int .i64 i, .int .i64 u, .int .i64 a, .string t]) (.agg #[.int .i64 k', .int .i64 i', .int .i64 u', .int .i64 a', .string t'])).run Tryd.prog w = .ok (.bool (!((k == k') && (i == i') && (u == u') && (a == a') && (t.toList == t'.toList)))) w := by
  have hS : Tryd.prog.stoodInHeld 25 = false := by kernel_rfl
  rw [run_neq_struct, run_equalIn_agg w 9999 _ _ _ (by kernel_rfl) hS]
  have hF : (Tryd.prog.fieldsOf 25).toList.map (fun f => (f.name, f.type, f.offset)) = [("Kind", 3, 0), ("Id", 3, 1), ("Up", 3, 2), ("At", 3, 3), ("Text", 9, 4)] := by kernel_rfl
  generalize (Tryd.prog.fieldsOf 25).toList = fs at hF
  have hl : fs.length = 5 := by have := congrArg List.length hF; simpa using this
  obtain ⟨f0, f1, f2, f3, f4, rfl⟩ : ∃ f0 f1 f2 f3 f4, fs = [f0, f1, f2, f3, f4] := by
    match fs, hl with
    | [f0, f1, f2, f3, f4], _ => exact ⟨f0, f1, f2, f3, f4, rfl⟩
  simp only [List.map_cons, List.map_nil, List.cons.injEq, Prod.mk.injEq, and_true] at hF
  obtain ⟨⟨a0, b0, c0⟩, ⟨a1, b1, c1⟩, ⟨a2, b2, c2⟩, ⟨a3, b3, c3⟩, ⟨a4, b4, c4⟩⟩ := hF
  simp [Op.eqFields, a0, b0, c0, a1, b1, c1, a2, b2, c2, a3, b3, c3, a4, b4, c4, go_sem]
  by_cases h0 : k = k' <;> by_cases h1 : i = i' <;> by_cases h2 : u = u' <;> by_cases h3 : a = a' <;> by_cases h4 : t.toList = t'.toList <;> simp [h0, h1, h2, h3, h4]
/-- Whether the fields are those of a valid change. -/
def opokB (o : OpD) : Bool :=
  if o.kind = 1 then madeB o.id && spotB o.up o.at_ && textB o.txt
  else if o.kind = 2 then (o.up == 0) && (o.at_ == 0) && madeB o.id && textB o.txt
  else if o.kind = 3 then (o.txt.toList == []) && madeB o.id && spotB o.up o.at_
  else false
/-- The change as a value of the interface. -/
def chV (o : OpD) : Value :=
  if o.kind = 1 then .iface 69 (.agg #[.int .i64 o.id, .int .i64 o.up, .int .i64 o.at_, .string o.txt])
  else if o.kind = 2 then .iface 75 (.agg #[.int .i64 o.id, .string o.txt])
  else .iface 72 (.agg #[.int .i64 o.id, .int .i64 o.up, .int .i64 o.at_])
def chR (o : OpD) : Value := if opokB o then chV o else .nilIface
theorem opbox_cells (w : World) (k i u a : Int) (t : ByteArray) : let W := w.alloc (.cells #[.int .i64 k, .int .i64 i, .int .i64 u, .int .i64 a, .string t] 25);
    (∀ x : Later W, x.x.cell? ⟨w.heap.size, 0, none⟩ = some (.int .i64 k)) ∧ (∀ x : Later W, x.x.cell? ⟨w.heap.size, 1, none⟩ = some (.int .i64 i)) ∧ (∀ x : Later W, x.x.cell? ⟨w.heap.size, 2, none⟩ = some (.int .i64 u)) ∧ (∀ x : Later W, x.x.cell? ⟨w.heap.size, 3, none⟩ = some (.int .i64 a)) ∧ (∀ x : Later W, x.x.cell? ⟨w.heap.size, 4, none⟩ = some (.string t)) :=
  ⟨later_cell (by simp [go_sem]) (by simp), later_cell (by simp [go_sem]) (by simp), later_cell (by simp [go_sem]) (by simp), later_cell (by simp [go_sem]) (by simp), later_cell (by simp [go_sem]) (by simp)⟩
set_option maxHeartbeats 1000000 in
theorem changeOf1 (o : OpD) (hk : o.kind = 1) (w : World) (ht : Tab w) (hs : o.txt.size ≤ maxLen) :
    Calls Tryd.prog 39 #[.agg #[.int .i64 o.kind, .int .i64 o.id, .int .i64 o.up, .int .i64 o.at_, .string o.txt]] w (RetBelow (.tuple #[chR o, .bool (opokB o)]) w) := by
  have hb : Below w.heap.size w (w.alloc (.cells #[.int .i64 1, .int .i64 o.id, .int .i64 o.up, .int .i64 o.at_, .string o.txt] 25)) := (Below.refl _ _).alloc (Nat.le_refl _) _
  have ht1 : Tab (w.alloc (.cells #[.int .i64 1, .int .i64 o.id, .int .i64 o.up, .int .i64 o.at_, .string o.txt] 25)) := ht.below hb ht.pos
  have HC : Hid (∀ x : Later (w.alloc (.cells #[.int .i64 1, .int .i64 o.id, .int .i64 o.up, .int .i64 o.at_, .string o.txt] 25)), Calls Tryd.prog 96 #[.agg #[.int .i64 o.id, .int .i64 o.up, .int .i64 o.at_, .string o.txt]] x.x (RetBelow (.bool (madeB o.id && spotB o.up o.at_ && textB o.txt)) x.x)) := fun x => makingOk_any o x.x (ht1.below x.h ht1.pos) hs
  have HE : Hid (opokB o = (madeB o.id && spotB o.up o.at_ && textB o.txt)) := by simp [Hid, opokB, hk]
  have HV : Hid (chV o = .iface 69 (.agg #[.int .i64 o.id, .int .i64 o.up, .int .i64 o.at_, .string o.txt])) := by simp [Hid, chV, hk]
  obtain ⟨L0, L1, L2, L3, L4⟩ := opbox_cells w 1 o.id o.up o.at_ o.txt
  rw [hk]
  have M1 := meth_mak_op
  have M2 := meth_mak_ok
  have M3 := neq_op
  clear hk
  cases hv : (madeB o.id && spotB o.up o.at_ && textB o.txt)
  · rw [hv] at HE HC
    have HR : Hid (chR o = .nilIface) := by simp [Hid, chR, HE.out]
    clear hv
    go_enter Tryd.func39, Tryd.ntmps39
    go_wp2_with fail
    refine wp_region_later (by kernel_rfl) (by kernel_rfl) ?_
    repeat (go_big_quiet_step (first | (go_at_call 97; exact later_of (makingOp_any o _)) | (go_at_call 96; exact later_of (HC.out _))))
    refine wpQuiet_nil ?_
    rintro wn ⟨⟨_, hbn⟩, rfl⟩
    clear L0 L1 L2 L3 L4 M1 M2 M3
    go_wp2
    go_ret2
    exact ⟨by rw [HR.out, HE.out]; rfl, hb.trans (hbn.mono hb.size)⟩
  · rw [hv] at HE HC
    have HR : Hid (chR o = chV o) := by simp [Hid, chR, HE.out]
    clear hv
    go_enter Tryd.func39, Tryd.ntmps39
    go_wp2_with fail
    refine wp_region_later (by kernel_rfl) (by kernel_rfl) ?_
    repeat (go_big_quiet_step (first | (go_at_call 97; exact later_of (makingOp_any o _)) | (go_at_call 96; exact later_of (HC.out _))))
    refine wpQuiet_nil ?_
    rintro wn ⟨⟨_, hbn⟩, rfl⟩
    clear L0 L1 L2 L3 L4 M1 M2 M3
    go_wp2
    go_ret2
    exact ⟨by rw [HR.out, HE.out, HV.out]; rfl, hb.trans (hbn.mono hb.size)⟩
set_option maxHeartbeats 1000000 in
theorem changeOf2 (o : OpD) (hk : o.kind = 2) (w : World) (ht : Tab w) (hs : o.txt.size ≤ maxLen) :
    Calls Tryd.prog 39 #[.agg #[.int .i64 o.kind, .int .i64 o.id, .int .i64 o.up, .int .i64 o.at_, .string o.txt]] w (RetBelow (.tuple #[chR o, .bool (opokB o)]) w) := by
  have hb : Below w.heap.size w (w.alloc (.cells #[.int .i64 2, .int .i64 o.id, .int .i64 o.up, .int .i64 o.at_, .string o.txt] 25)) := (Below.refl _ _).alloc (Nat.le_refl _) _
  have ht1 : Tab (w.alloc (.cells #[.int .i64 2, .int .i64 o.id, .int .i64 o.up, .int .i64 o.at_, .string o.txt] 25)) := ht.below hb ht.pos
  have HC : Hid (∀ x : Later (w.alloc (.cells #[.int .i64 2, .int .i64 o.id, .int .i64 o.up, .int .i64 o.at_, .string o.txt] 25)), Calls Tryd.prog 101 #[.agg #[.int .i64 o.id, .string o.txt]] x.x (RetBelow (.bool (madeB o.id && textB o.txt)) x.x)) := fun x => wordingOk_any o x.x (ht1.below x.h ht1.pos) hs
  have HE : Hid (opokB o = ((o.up == 0) && (o.at_ == 0) && madeB o.id && textB o.txt)) := by simp [Hid, opokB, hk]
  have HV : Hid (chV o = .iface 75 (.agg #[.int .i64 o.id, .string o.txt])) := by simp [Hid, chV, hk]
  have HO : Hid (∀ x : World, Calls Tryd.prog 47 #[.agg #[.int .i64 o.id, .string o.txt]] x (RetBelow (.agg #[.int .i64 2, .int .i64 o.id, .int .i64 0, .int .i64 0, .string o.txt]) x)) := fun x => wordingOp_any o x
  obtain ⟨L0, L1, L2, L3, L4⟩ := opbox_cells w 2 o.id o.up o.at_ o.txt
  have HRD : Hid (chR o = if opokB o then chV o else .nilIface) := rfl
  rw [hk]
  have M1 := meth_wor_op
  have M2 := meth_wor_ok
  have M3 := neq_op
  clear hk ht ht1
  generalize hR : chR o = R at *
  generalize hOK : opokB o = OK at *
  generalize hVV : chV o = VV at *
  clear hR hOK hVV hs
  obtain ⟨kind, id, u, a, t⟩ := o
  simp only at *
  by_cases hu : u = 0
  · by_cases ha : a = 0
    · subst hu ha
      have HE2 : Hid (OK = (madeB id && textB t)) := by rw [Hid, HE.out]; simp
      cases hv : (madeB id && textB t)
      · rw [hv] at HE2 HC
        have HR : Hid (R = .nilIface) := by rw [Hid, HRD.out, HE2.out]; rfl
        clear hv
        go_enter Tryd.func39, Tryd.ntmps39
        go_wp2_with fail
        refine wp_region_later (by kernel_rfl) (by kernel_rfl) ?_
        repeat (go_big_quiet_step (first | (go_at_call 47; exact later_of (HO.out _)) | (go_at_call 101; exact later_of (HC.out _))))
        refine wpQuiet_nil ?_
        rintro wn ⟨⟨_, hbn⟩, rfl⟩
        clear L0 L1 L2 L3 L4 M1 M2 M3
        go_wp2
        go_ret2
        exact ⟨by rw [HR.out, HE2.out]; rfl, hb.trans (hbn.mono hb.size)⟩
      · rw [hv] at HE2 HC
        have HR : Hid (R = VV) := by rw [Hid, HRD.out, HE2.out]; rfl
        clear hv
        go_enter Tryd.func39, Tryd.ntmps39
        go_wp2_with fail
        refine wp_region_later (by kernel_rfl) (by kernel_rfl) ?_
        repeat (go_big_quiet_step (first | (go_at_call 47; exact later_of (HO.out _)) | (go_at_call 101; exact later_of (HC.out _))))
        refine wpQuiet_nil ?_
        rintro wn ⟨⟨_, hbn⟩, rfl⟩
        clear L0 L1 L2 L3 L4 M1 M2 M3
        go_wp2
        go_ret2
        exact ⟨by rw [HR.out, HE2.out, HV.out]; rfl, hb.trans (hbn.mono hb.size)⟩
    · have q : ((0 : Int) == a) = false := by simpa using fun e => ha e.symm
      have HE2 : Hid (OK = false) := by rw [Hid, HE.out]; simp [ha]
      have HR : Hid (R = .nilIface) := by rw [Hid, HRD.out, HE2.out]; rfl
      subst hu
      clear ha
      go_enter Tryd.func39, Tryd.ntmps39
      go_wp2_with fail
      refine wp_region_later (by kernel_rfl) (by kernel_rfl) ?_
      repeat (go_big_quiet_step (first | (go_at_call 47; exact later_of (HO.out _)) | (go_at_call 101; exact later_of (HC.out _))))
      refine wpQuiet_nil ?_
      rintro wn ⟨⟨_, hbn⟩, rfl⟩
      clear L0 L1 L2 L3 L4 M1 M2 M3
      go_wp2
      go_ret2
      exact ⟨by rw [HR.out, HE2.out]; rfl, hb.trans (hbn.mono hb.size)⟩
  · have q : ((0 : Int) == u) = false := by simpa using fun e => hu e.symm
    have HE2 : Hid (OK = false) := by rw [Hid, HE.out]; simp [hu]
    have HR : Hid (R = .nilIface) := by rw [Hid, HRD.out, HE2.out]; rfl
    clear hu
    go_enter Tryd.func39, Tryd.ntmps39
    go_wp2_with fail
    refine wp_region_later (by kernel_rfl) (by kernel_rfl) ?_
    repeat (go_big_quiet_step (first | (go_at_call 47; exact later_of (HO.out _)) | (go_at_call 101; exact later_of (HC.out _))))
    refine wpQuiet_nil ?_
    rintro wn ⟨⟨_, hbn⟩, rfl⟩
    clear L0 L1 L2 L3 L4 M1 M2 M3
    go_wp2
    go_ret2
    exact ⟨by rw [HR.out, HE2.out]; rfl, hb.trans (hbn.mono hb.size)⟩
set_option maxHeartbeats 1000000 in
theorem changeOf3 (o : OpD) (hk : o.kind = 3) (w : World) (ht : Tab w) :
    Calls Tryd.prog 39 #[.agg #[.int .i64 o.kind, .int .i64 o.id, .int .i64 o.up, .int .i64 o.at_, .string o.txt]] w (RetBelow (.tuple #[chR o, .bool (opokB o)]) w) := by
  have hb : Below w.heap.size w (w.alloc (.cells #[.int .i64 3, .int .i64 o.id, .int .i64 o.up, .int .i64 o.at_, .string o.txt] 25)) := (Below.refl _ _).alloc (Nat.le_refl _) _
  have ht1 : Tab (w.alloc (.cells #[.int .i64 3, .int .i64 o.id, .int .i64 o.up, .int .i64 o.at_, .string o.txt] 25)) := ht.below hb ht.pos
  have HC : Hid (∀ x : Later (w.alloc (.cells #[.int .i64 3, .int .i64 o.id, .int .i64 o.up, .int .i64 o.at_, .string o.txt] 25)), Calls Tryd.prog 99 #[.agg #[.int .i64 o.id, .int .i64 o.up, .int .i64 o.at_]] x.x (RetBelow (.bool (madeB o.id && spotB o.up o.at_)) x.x)) := fun x => movingOk_any o x.x (ht1.below x.h ht1.pos)
  have HE : Hid (opokB o = ((o.txt.toList == []) && madeB o.id && spotB o.up o.at_)) := by simp [Hid, opokB, hk]
  have HV : Hid (chV o = .iface 72 (.agg #[.int .i64 o.id, .int .i64 o.up, .int .i64 o.at_])) := by simp [Hid, chV, hk]
  have HO : Hid (∀ x : World, Calls Tryd.prog 46 #[.agg #[.int .i64 o.id, .int .i64 o.up, .int .i64 o.at_]] x (RetBelow (.agg #[.int .i64 3, .int .i64 o.id, .int .i64 o.up, .int .i64 o.at_, .string ⟨#[]⟩]) x)) := fun x => movingOp_any o x
  obtain ⟨L0, L1, L2, L3, L4⟩ := opbox_cells w 3 o.id o.up o.at_ o.txt
  have HRD : Hid (chR o = if opokB o then chV o else .nilIface) := rfl
  rw [hk]
  have M1 := meth_mov_op
  have M2 := meth_mov_ok
  have M3 := neq_op
  have q0 : (ByteArray.mk #[]).toList = [] := by simp [ByteArray.toList_eq]
  clear hk ht ht1
  generalize hR : chR o = R at *
  generalize hOK : opokB o = OK at *
  generalize hVV : chV o = VV at *
  clear hR hOK hVV
  obtain ⟨kind, id, u, a, t⟩ := o
  simp only at *
  cases hte : (t.toList == [])
  · have q : (([] : List UInt8) == t.toList) = false := by
      rw [Bool.eq_false_iff] at hte ⊢
      intro e; apply hte
      rw [beq_iff_eq] at e ⊢; exact e.symm
    have HE2 : Hid (OK = false) := by rw [Hid, HE.out, hte]; rfl
    have HR : Hid (R = .nilIface) := by rw [Hid, HRD.out, HE2.out]; rfl
    clear hte
    go_enter Tryd.func39, Tryd.ntmps39
    go_wp2_with fail
    refine wp_region_later (by kernel_rfl) (by kernel_rfl) ?_
    repeat (go_big_quiet_step (first | (go_at_call 46; exact later_of (HO.out _)) | (go_at_call 99; exact later_of (HC.out _))))
    refine wpQuiet_nil ?_
    rintro wn ⟨⟨_, hbn⟩, rfl⟩
    clear L0 L1 L2 L3 L4 M1 M2 M3
    go_wp2
    go_ret2
    exact ⟨by rw [HR.out, HE2.out]; rfl, hb.trans (hbn.mono hb.size)⟩
  · have HE2 : Hid (OK = (madeB id && spotB u a)) := by rw [Hid, HE.out, hte]; simp
    have q : (([] : List UInt8) == t.toList) = true := by
      rw [beq_iff_eq] at hte ⊢; exact hte.symm
    have q1 := beq_iff_eq.1 hte
    clear hte
    cases hv : (madeB id && spotB u a)
    · rw [hv] at HE2 HC
      have HR : Hid (R = .nilIface) := by rw [Hid, HRD.out, HE2.out]; rfl
      clear hv
      go_enter Tryd.func39, Tryd.ntmps39
      go_wp2_with fail
      refine wp_region_later (by kernel_rfl) (by kernel_rfl) ?_
      repeat (go_big_quiet_step (first | (go_at_call 46; exact later_of (HO.out _)) | (go_at_call 99; exact later_of (HC.out _))))
      refine wpQuiet_nil ?_
      rintro wn ⟨⟨_, hbn⟩, rfl⟩
      clear L0 L1 L2 L3 L4 M1 M2 M3
      go_wp2
      go_ret2
      exact ⟨by rw [HR.out, HE2.out]; rfl, hb.trans (hbn.mono hb.size)⟩
    · rw [hv] at HE2 HC
      have HR : Hid (R = VV) := by rw [Hid, HRD.out, HE2.out]; rfl
      clear hv
      go_enter Tryd.func39, Tryd.ntmps39
      go_wp2_with fail
      refine wp_region_later (by kernel_rfl) (by kernel_rfl) ?_
      repeat (go_big_quiet_step (first | (go_at_call 46; exact later_of (HO.out _)) | (go_at_call 99; exact later_of (HC.out _))))
      refine wpQuiet_nil ?_
      rintro wn ⟨⟨_, hbn⟩, rfl⟩
      clear L0 L1 L2 L3 L4 M1 M2 M3
      go_wp2
      go_ret2
      exact ⟨by rw [HR.out, HE2.out, HV.out]; rfl, hb.trans (hbn.mono hb.size)⟩
theorem changeOf0 (o : OpD) (h1 : o.kind ≠ 1) (h2 : o.kind ≠ 2) (h3 : o.kind ≠ 3) (w : World) :
    Calls Tryd.prog 39 #[.agg #[.int .i64 o.kind, .int .i64 o.id, .int .i64 o.up, .int .i64 o.at_, .string o.txt]] w (RetBelow (.tuple #[chR o, .bool (opokB o)]) w) := by
  have hb : Below w.heap.size w (w.alloc (.cells #[.int .i64 o.kind, .int .i64 o.id, .int .i64 o.up, .int .i64 o.at_, .string o.txt] 25)) := (Below.refl _ _).alloc (Nat.le_refl _) _
  have HE : Hid (opokB o = false) := by simp [Hid, opokB, h1, h2, h3]
  have HR : Hid (chR o = .nilIface) := by rw [Hid, chR, HE.out]; rfl
  go_enter Tryd.func39, Tryd.ntmps39
  go_wp2
  go_ret2
  exact ⟨by rw [HR.out, HE.out]; rfl, hb⟩
theorem changeOf_any (o : OpD) (w : World) (ht : Tab w) (hs : o.txt.size ≤ maxLen) :
    Calls Tryd.prog 39 #[.agg #[.int .i64 o.kind, .int .i64 o.id, .int .i64 o.up, .int .i64 o.at_, .string o.txt]] w (RetBelow (.tuple #[chR o, .bool (opokB o)]) w) := by
  by_cases h1 : o.kind = 1
  · exact changeOf1 o h1 w ht hs
  · by_cases h2 : o.kind = 2
    · exact changeOf2 o h2 w ht hs
    · by_cases h3 : o.kind = 3
      · exact changeOf3 o h3 w ht
      · exact changeOf0 o h1 h2 h3 w
end Go.Proofs.YtefelnodahcolaaDoor
