/-
  Joined texts, each with its own head: what it holds, and its conditions.
-/
import Derived.Test.YtlhlkbbjmbpgpaaDoorGA
import Derived.Handy
import Derived.Test.YtlhlkbbjmbpgpaaDoorGB
import Derived.Test.YtlhlkbbjmbpgpaaDoorGC

/-
  The editing commands as plain functions of an outline, and contracts of the model's KeyIn, KeyOut, KeyGone. Conditions: the rows lie in memory as a slice of rows.
-/
namespace Go.Proofs.YtlhlkbbjmbpgpaaDoor
open Go.ChangeShapes Go.WideShapes Go.ChangeAt Go.RowKit Go.Joins

def kz : OpD := ⟨0, 0, 0, 0, ⟨#[]⟩⟩
def moveO (id up at' : Int) : OpD := ⟨3, id, up, at', ⟨#[]⟩⟩
/-- What a command answers. -/
def keyV (o : OpD) (b : Bool) : Value := .tuple #[.agg #[.int .i64 o.kind, .int .i64 o.id, .int .i64 o.up, .int .i64 o.at_, .string o.txt], .bool b]
def lastK (rs : List RowD) (id : Int) : Int := (kidsL rs id).getD ((kidsL rs id).length - 1) 0
def kinB (rs : List RowD) (id : Int) : Bool := ahB rs id && (ahI rs id != 0)
def kinO (rs : List RowD) (id : Int) : OpD := if kinB rs id then moveO id (ahI rs id) (lastK rs (ahI rs id)) else kz
def koutB (rs : List RowD) (id : Int) : Bool := hasB rs id && madeB id && madeB (upI rs id)
def koutO (rs : List RowD) (id : Int) : OpD := if koutB rs id then moveO id (upI rs (upI rs id)) (upI rs id) else kz
def kgoneB (rs : List RowD) (id : Int) : Bool := treeB rs && madeB id && thereB rs id && !undB rs id 2
def kgoneO (rs : List RowD) (id : Int) : OpD := if kgoneB rs id then moveO id 2 0 else kz

/-- Block B is the box of a change that is returned. -/
def KBox (w : World) (B : Nat) (o : OpD) : Prop := w.heap[B]? = some (.cells #[.int .i64 o.kind, .int .i64 o.id, .int .i64 o.up, .int .i64 o.at_, .string o.txt] 25 (0, 0))
theorem KBox.lt {w : World} {B : Nat} {o : OpD} (h : KBox w B o) : B < w.heap.size := (Array.getElem?_eq_some_iff.1 h).1
theorem KBox.cells {w : World} {B : Nat} {o : OpD} (h : KBox w B o) : w.cell? ⟨B, 0, none⟩ = some (.int .i64 o.kind) ∧ w.cell? ⟨B, 1, none⟩ = some (.int .i64 o.id) ∧ w.cell? ⟨B, 2, none⟩ = some (.int .i64 o.up) ∧ w.cell? ⟨B, 3, none⟩ = some (.int .i64 o.at_) ∧ w.cell? ⟨B, 4, none⟩ = some (.string o.txt) := by
  refine ⟨?_, ?_, ?_, ?_, ?_⟩ <;> simp [World.cell?, show w.heap[B]? = _ from h]
theorem KBox.frozen {w : World} {B : Nat} {o : OpD} (h : KBox w B o) (k : Nat) : w.frozen? ⟨B, k, none⟩ = false := by simp [World.frozen?, show w.heap[B]? = _ from h]
theorem KBox.below {w w' : World} {B n : Nat} {o : OpD} (h : KBox w B o) (hb : Below n w w') (hn : B < n) : KBox w' B o := (hb.block B hn).trans h
theorem KBox.new (w : World) (o : OpD) : KBox (w.alloc (.cells #[.int .i64 o.kind, .int .i64 o.id, .int .i64 o.up, .int .i64 o.at_, .string o.txt] 25)) w.heap.size o := heap_alloc_new _ _
/-- What the result's box is given. -/
def kgiven (w : World) (B : Nat) (o : OpD) : World := ((((w.setCell ⟨B, 0, none⟩ (.int .i64 o.kind)).setCell ⟨B, 1, none⟩ (.int .i64 o.id)).setCell ⟨B, 2, none⟩ (.int .i64 o.up)).setCell ⟨B, 3, none⟩ (.int .i64 o.at_)).setCell ⟨B, 4, none⟩ (.string o.txt)
theorem kgiven_below {n : Nat} (w : World) (B : Nat) (o : OpD) (h : n ≤ B) : Below n w (kgiven w B o) := by
  unfold kgiven
  exact (((((Below.refl _ _).setCell (p := ⟨B, 0, none⟩) h _).setCell (p := ⟨B, 1, none⟩) h _).setCell (p := ⟨B, 2, none⟩) h _).setCell (p := ⟨B, 3, none⟩) h _).setCell (p := ⟨B, 4, none⟩) h _
structure KSt (w : World) (a : Option Addr) (rs : List RowD) (wk : World) : Prop where
  rows : RowsAt wk.heap.size wk a rs
  box : KBox wk w.heap.size kz
  b : Below w.heap.size w wk
theorem KSt.step {w : World} {a : Option Addr} {rs : List RowD} {wk wl : World} (h : KSt w a rs wk) (hb : Below wk.heap.size wk wl) : KSt w a rs wl :=
  ⟨(h.rows.below hb).mono hb.size, h.box.below hb h.box.lt, h.b.trans (hb.mono h.b.size)⟩
theorem KSt.start {B : Nat} {w : World} {a : Option Addr} {rs : List RowD} (hB : B ≤ w.heap.size) (h : RowsAt B w a rs) : KSt w a rs (w.alloc (.cells #[.int .i64 0, .int .i64 0, .int .i64 0, .int .i64 0, .string ⟨#[]⟩] 25)) :=
  have hal : Below w.heap.size w (w.alloc (.cells #[.int .i64 0, .int .i64 0, .int .i64 0, .int .i64 0, .string ⟨#[]⟩] 25)) := (Below.refl _ _).alloc (Nat.le_refl _) _
  ⟨((h.mono hB).below hal).mono hal.size, KBox.new w kz, hal⟩
theorem KSt.post {w : World} {a : Option Addr} {rs : List RowD} {wk : World} (h : KSt w a rs wk) (o : OpD) : Below w.heap.size w (kgiven wk w.heap.size o) := h.b.trans (kgiven_below _ _ _ (Nat.le_refl _))
theorem l11Move_any (id up at' : Int) (w : World) :
    Calls Tryd.prog 76 #[.int .i64 id, .int .i64 up, .int .i64 at'] w (RetBelow (.agg #[.int .i64 3, .int .i64 id, .int .i64 up, .int .i64 at', .string ⟨#[]⟩]) w) := by
  go_enter Tryd.func76, Tryd.ntmps76
  go_wp2
  go_returns
  exact ⟨rfl, by go_grown⟩
end Go.Proofs.YtlhlkbbjmbpgpaaDoor
/-
  Contract of the model's KeyIn. Conditions: the rows lie in memory as a slice of rows.
-/
namespace Go.Proofs.YtlhlkbbjmbpgpaaDoor
open Go.ChangeShapes Go.WideShapes Go.ChangeAt Go.RowKit Go.Joins

theorem kids_len {rs : List RowD} {id : Int} (hl : rs.length ≤ 1048576) : (kidsL rs id).length ≤ 1048576 := by
  unfold kidsL
  split
  · rename_i h
    have := kidsOf_len rs (atN rs id) (enR rs (atN rs id) - (atN rs id + 1)) (atN rs id + 1)
    have e : enR rs (atN rs id) ≤ rs.length := (en_spec (D := rdep rs) h).2.1
    unfold kidsAt; omega
  · simp
set_option maxRecDepth 100000 in
set_option maxHeartbeats 1000000 in
theorem specKeyIn_any (B : Nat) (a : Option Addr) (cap : Nat) (rs : List RowD) (id : Int) (w : World) (hB : B ≤ w.heap.size) (h : RowsAt B w a rs) (hf : Fit rs) :
    Calls Tryd.prog 42 #[.slice a rs.length cap, .int .i64 id] w (RetBelow (keyV (kinO rs id) (kinB rs id)) w) := by
  have hl := hf.1
  cases hb : ahB rs id
  · have e1 : kinB rs id = false := by simp [kinB, hb]
    have e2 : kinO rs id = kz := by simp [kinO, e1]
    rw [e1, e2]
    clear e1 e2
    have hk0 := KSt.start hB h
    go_enter Tryd.func42, Tryd.ntmps42
    go_wp2_with fail
    refine (specTreeAhead_any _ _ _ _ _ _ (Nat.le_refl _) hk0.rows hf).mono ?_
    rintro e w1 ⟨rfl, hb1⟩
    have hk1 := hk0.step hb1
    clear hk0 hb1
    rw [hb]
    obtain ⟨d0, d1, d2, d3, d4⟩ := hk1.box.cells
    have y0 := hk1.box.frozen 0
    have y1 := hk1.box.frozen 1
    have y2 := hk1.box.frozen 2
    have y3 := hk1.box.frozen 3
    have y4 := hk1.box.frozen 4
    have HP := Lib.hid (hk1.post (kz))
    clear hk1
    go_wp2
    exact bodyPost_ret (by simp [results, Tryd.results42, go_sem, d0, d1, d2, d3, d4, keyV, kz]) rfl ⟨rfl, HP.out⟩
  · have htb : treeB rs = true := by
      cases g : treeB rs
      · simp [ahB, hasB, g] at hb
      · rfl
    by_cases h0 : ahI rs id = 0
    · have e1 : kinB rs id = false := by simp [kinB, h0]
      have e2 : kinO rs id = kz := by simp [kinO, e1]
      rw [e1, e2]
      clear e1 e2
      have hk0 := KSt.start hB h
      go_enter Tryd.func42, Tryd.ntmps42
      go_wp2_with fail
      refine (specTreeAhead_any _ _ _ _ _ _ (Nat.le_refl _) hk0.rows hf).mono ?_
      rintro e w1 ⟨rfl, hb1⟩
      have hk1 := hk0.step hb1
      clear hk0 hb1
      rw [hb, h0]
      obtain ⟨d0, d1, d2, d3, d4⟩ := hk1.box.cells
      have y0 := hk1.box.frozen 0
      have y1 := hk1.box.frozen 1
      have y2 := hk1.box.frozen 2
      have y3 := hk1.box.frozen 3
      have y4 := hk1.box.frozen 4
      have HP := Lib.hid (hk1.post (kz))
      clear hk1
      go_wp2
      exact bodyPost_ret (by simp [results, Tryd.results42, go_sem, d0, d1, d2, d3, d4, keyV, kz]) rfl ⟨rfl, HP.out⟩
    · have e1 : kinB rs id = true := by simp [kinB, hb, h0]
      have e2 : kinO rs id = moveO id (ahI rs id) ((kidsL rs (ahI rs id)).getD ((kidsL rs (ahI rs id)).length - 1) 0) := by simp [kinO, e1, lastK]
      rw [e1, e2]
      clear e1 e2
      have hkl := kids_len (rs := rs) (id := ahI rs id) hl
      have HS := Lib.hid (treeP_small htb)
      obtain ⟨u, hu⟩ : ∃ u, ahI rs id = u := ⟨_, rfl⟩
      rw [hu] at hkl h0 ⊢
      obtain ⟨ks, hks⟩ : ∃ ks, kidsL rs u = ks := ⟨_, rfl⟩
      rw [hks] at hkl ⊢
      have HK := Lib.hid hks
      have HU := Lib.hid hu
      clear hks hu
      by_cases hk : ks.length = 0
      · obtain rfl : ks = [] := List.length_eq_zero_iff.1 hk
        have hk0 := KSt.start hB h
        go_enter Tryd.func42, Tryd.ntmps42
        go_wp2_with fail
        refine (specTreeAhead_any _ _ _ _ _ _ (Nat.le_refl _) hk0.rows hf).mono ?_
        rintro e w1 ⟨rfl, hb1⟩
        have hk1 := hk0.step hb1
        clear hk0 hb1
        rw [hb, HU.out]
        go_wp2_with fail
        refine (l2Kids_any w1.heap.size _ _ _ _ _ (Nat.le_refl _) hk1.rows hf HS.out).mono ?_
        rintro e w2 ⟨v, rfl, own, hb2⟩
        rw [HK.out] at own
        have hk2 := hk1.step hb2
        clear hk1 hb2
        obtain ⟨ka, kc, rfl, hkc⟩ := own_slice own
        clear own
        go_wp2_with fail
        refine (l11Move_any _ _ _ _).mono ?_
        rintro e w3 ⟨rfl, hb3⟩
        have hk3 := hk2.step hb3
        clear hk2 hb3
        obtain ⟨d0, d1, d2, d3, d4⟩ := hk3.box.cells
        have y0 := hk3.box.frozen 0
        have y1 := hk3.box.frozen 1
        have y2 := hk3.box.frozen 2
        have y3 := hk3.box.frozen 3
        have y4 := hk3.box.frozen 4
        have HP := Lib.hid (hk3.post (moveO id u 0))
        clear hk3
        go_wp2
        exact bodyPost_ret (by simp [results, Tryd.results42, go_sem, d0, d1, d2, d3, d4, keyV, moveO]) rfl ⟨rfl, HP.out⟩
      · obtain ⟨n, hn⟩ : ∃ n, ks.length = n + 1 := ⟨ks.length - 1, by omega⟩
        rw [hn, Nat.add_sub_cancel]
        obtain ⟨z, hz⟩ : ∃ z, ks.getD n 0 = z := ⟨_, rfl⟩
        rw [hz]
        have hk0 := KSt.start hB h
        go_enter Tryd.func42, Tryd.ntmps42
        go_wp2_with fail
        refine (specTreeAhead_any _ _ _ _ _ _ (Nat.le_refl _) hk0.rows hf).mono ?_
        rintro e w1 ⟨rfl, hb1⟩
        have hk1 := hk0.step hb1
        clear hk0 hb1
        rw [hb, HU.out]
        go_wp2_with fail
        refine (l2Kids_any w1.heap.size _ _ _ _ _ (Nat.le_refl _) hk1.rows hf HS.out).mono ?_
        rintro e w2 ⟨v, rfl, own, hb2⟩
        rw [HK.out] at own
        have hk2 := hk1.step hb2
        clear hk1 hb2
        obtain ⟨ka, kc, rfl, hkc⟩ := own_slice own
        obtain ⟨g, rfl, hg, hc⟩ := (ints_of_own own).low.at_ (show n < ks.length by omega)
        rw [hz] at hc
        rw [hn] at hkl hkc ⊢
        clear own hk hz
        go_wp2_with fail
        refine (l11Move_any _ _ _ _).mono ?_
        rintro e w3 ⟨rfl, hb3⟩
        have hk3 := hk2.step hb3
        clear hk2 hb3
        obtain ⟨d0, d1, d2, d3, d4⟩ := hk3.box.cells
        have y0 := hk3.box.frozen 0
        have y1 := hk3.box.frozen 1
        have y2 := hk3.box.frozen 2
        have y3 := hk3.box.frozen 3
        have y4 := hk3.box.frozen 4
        have HP := Lib.hid (hk3.post (moveO id u z))
        clear hk3
        go_wp2
        exact bodyPost_ret (by simp [results, Tryd.results42, go_sem, d0, d1, d2, d3, d4, keyV, moveO]) rfl ⟨rfl, HP.out⟩
end Go.Proofs.YtlhlkbbjmbpgpaaDoor
/-
  Contracts of the model's KeyOut and KeyGone. Conditions: the rows lie in memory as a slice of rows.
-/
namespace Go.Proofs.YtlhlkbbjmbpgpaaDoor
open Go.ChangeShapes Go.WideShapes Go.ChangeAt Go.RowKit Go.Joins

theorem upAt_I64 {rs : List RowD} (hf : Fit rs) (i : Nat) (hi : i ≤ rs.length) : I64 (upAt rs i) := by
  unfold upAt
  split
  · rename_i j e
    have := (lstBelow_some _ _ _ e).1
    exact (hf.2 j (by omega)).1
  · exact ⟨by decide, by decide⟩
theorem upI_I64 {rs : List RowD} (hf : Fit rs) (id : Int) : I64 (upI rs id) := by
  unfold upI
  split
  · exact upAt_I64 hf _ (atN_le _ _)
  · exact ⟨by decide, by decide⟩
set_option maxRecDepth 100000 in
set_option maxHeartbeats 1000000 in
theorem specKeyOut_any (B : Nat) (a : Option Addr) (cap : Nat) (rs : List RowD) (id : Int) (w : World) (hB : B ≤ w.heap.size) (h : RowsAt B w a rs) (hf : Fit rs) (hI : I64 id) :
    Calls Tryd.prog 45 #[.slice a rs.length cap, .int .i64 id] w (RetBelow (keyV (koutO rs id) (koutB rs id)) w) := by
  have HU := Lib.hid (upI_I64 hf id)
  cases hb : hasB rs id
  · have e1 : koutB rs id = false := by simp [koutB, hb]
    have e2 : koutO rs id = kz := by simp [koutO, e1]
    rw [e1, e2]
    clear e1 e2
    have hk0 := KSt.start hB h
    go_enter Tryd.func45, Tryd.ntmps45
    go_wp2_with fail
    refine (specTreeUp_any _ _ _ _ _ _ (Nat.le_refl _) hk0.rows hf).mono ?_
    rintro e w1 ⟨rfl, hb1⟩
    have hk1 := hk0.step hb1
    clear hk0 hb1
    rw [hb]
    obtain ⟨d0, d1, d2, d3, d4⟩ := hk1.box.cells
    have y0 := hk1.box.frozen 0
    have y1 := hk1.box.frozen 1
    have y2 := hk1.box.frozen 2
    have y3 := hk1.box.frozen 3
    have y4 := hk1.box.frozen 4
    have HP := Lib.hid (hk1.post (kz))
    clear hk1
    go_wp2
    exact bodyPost_ret (by simp [results, Tryd.results45, go_sem, d0, d1, d2, d3, d4, keyV, kz]) rfl ⟨rfl, HP.out⟩
  · cases hm : madeB id
    · have e1 : koutB rs id = false := by simp [koutB, hm]
      have e2 : koutO rs id = kz := by simp [koutO, e1]
      rw [e1, e2]
      clear e1 e2
      have hk0 := KSt.start hB h
      go_enter Tryd.func45, Tryd.ntmps45
      go_wp2_with fail
      refine (specTreeUp_any _ _ _ _ _ _ (Nat.le_refl _) hk0.rows hf).mono ?_
      rintro e w1 ⟨rfl, hb1⟩
      have hk1 := hk0.step hb1
      clear hk0 hb1
      rw [hb]
      go_wp2_with fail
      refine (l1Made_any _ _ hI).mono ?_
      rintro e w' ⟨rfl, rfl⟩
      rw [hm]
      obtain ⟨d0, d1, d2, d3, d4⟩ := hk1.box.cells
      have y0 := hk1.box.frozen 0
      have y1 := hk1.box.frozen 1
      have y2 := hk1.box.frozen 2
      have y3 := hk1.box.frozen 3
      have y4 := hk1.box.frozen 4
      have HP := Lib.hid (hk1.post (kz))
      clear hk1
      go_wp2
      exact bodyPost_ret (by simp [results, Tryd.results45, go_sem, d0, d1, d2, d3, d4, keyV, kz]) rfl ⟨rfl, HP.out⟩
    · cases hu : madeB (upI rs id)
      · have e1 : koutB rs id = false := by simp [koutB, hu]
        have e2 : koutO rs id = kz := by simp [koutO, e1]
        rw [e1, e2]
        clear e1 e2
        have hk0 := KSt.start hB h
        go_enter Tryd.func45, Tryd.ntmps45
        go_wp2_with fail
        refine (specTreeUp_any _ _ _ _ _ _ (Nat.le_refl _) hk0.rows hf).mono ?_
        rintro e w1 ⟨rfl, hb1⟩
        have hk1 := hk0.step hb1
        clear hk0 hb1
        rw [hb]
        go_wp2_with fail
        refine (l1Made_any _ _ hI).mono ?_
        rintro e w' ⟨rfl, rfl⟩
        rw [hm]
        go_wp2_with fail
        refine (l1Made_any _ _ HU.out).mono ?_
        rintro e w' ⟨rfl, rfl⟩
        rw [hu]
        obtain ⟨d0, d1, d2, d3, d4⟩ := hk1.box.cells
        have y0 := hk1.box.frozen 0
        have y1 := hk1.box.frozen 1
        have y2 := hk1.box.frozen 2
        have y3 := hk1.box.frozen 3
        have y4 := hk1.box.frozen 4
        have HP := Lib.hid (hk1.post (kz))
        clear hk1
        go_wp2
        exact bodyPost_ret (by simp [results, Tryd.results45, go_sem, d0, d1, d2, d3, d4, keyV, kz]) rfl ⟨rfl, HP.out⟩
      · have e1 : koutB rs id = true := by simp [koutB, hb, hm, hu]
        have e2 : koutO rs id = moveO id (upI rs (upI rs id)) (upI rs id) := by simp [koutO, e1]
        rw [e1, e2]
        clear e1 e2
        have hk0 := KSt.start hB h
        go_enter Tryd.func45, Tryd.ntmps45
        go_wp2_with fail
        refine (specTreeUp_any _ _ _ _ _ _ (Nat.le_refl _) hk0.rows hf).mono ?_
        rintro e w1 ⟨rfl, hb1⟩
        have hk1 := hk0.step hb1
        clear hk0 hb1
        rw [hb]
        generalize upI rs id = u at *
        go_wp2_with fail
        refine (l1Made_any _ _ hI).mono ?_
        rintro e w' ⟨rfl, rfl⟩
        rw [hm]
        go_wp2_with fail
        refine (l1Made_any _ _ HU.out).mono ?_
        rintro e w' ⟨rfl, rfl⟩
        rw [hu]
        go_wp2_with fail
        refine (specTreeUp_any _ _ _ _ _ _ (Nat.le_refl _) hk1.rows hf).mono ?_
        rintro e w2 ⟨rfl, hb2⟩
        have hk2 := hk1.step hb2
        clear hk1 hb2
        generalize upI rs u = v at *
        generalize hasB rs u = ok at *
        go_wp2_with fail
        refine (l11Move_any _ _ _ _).mono ?_
        rintro e w3 ⟨rfl, hb3⟩
        have hk3 := hk2.step hb3
        clear hk2 hb3
        obtain ⟨d0, d1, d2, d3, d4⟩ := hk3.box.cells
        have y0 := hk3.box.frozen 0
        have y1 := hk3.box.frozen 1
        have y2 := hk3.box.frozen 2
        have y3 := hk3.box.frozen 3
        have y4 := hk3.box.frozen 4
        have HP := Lib.hid (hk3.post (moveO id v u))
        clear hk3
        go_wp2
        exact bodyPost_ret (by simp [results, Tryd.results45, go_sem, d0, d1, d2, d3, d4, keyV, moveO]) rfl ⟨rfl, HP.out⟩
set_option maxRecDepth 100000 in
set_option maxHeartbeats 1000000 in
theorem specKeyGone_any (B : Nat) (a : Option Addr) (cap : Nat) (rs : List RowD) (id : Int) (w : World) (hB : B ≤ w.heap.size) (h : RowsAt B w a rs) (hf : Fit rs) (hI : I64 id) :
    Calls Tryd.prog 49 #[.slice a rs.length cap, .int .i64 id] w (RetBelow (keyV (kgoneO rs id) (kgoneB rs id)) w) := by
  cases ht : treeB rs
  · have e1 : kgoneB rs id = false := by simp [kgoneB, ht]
    have e2 : kgoneO rs id = kz := by simp [kgoneO, e1]
    rw [e1, e2]
    clear e1 e2
    have hk0 := KSt.start hB h
    go_enter Tryd.func49, Tryd.ntmps49
    go_wp2_with fail
    refine (specTreeOk_any _ _ _ _ _ (Nat.le_refl _) hk0.rows hf).mono ?_
    rintro e w1 ⟨rfl, hb1⟩
    have hk1 := hk0.step hb1
    clear hk0 hb1
    rw [ht]
    obtain ⟨d0, d1, d2, d3, d4⟩ := hk1.box.cells
    have y0 := hk1.box.frozen 0
    have y1 := hk1.box.frozen 1
    have y2 := hk1.box.frozen 2
    have y3 := hk1.box.frozen 3
    have y4 := hk1.box.frozen 4
    have HP := Lib.hid (hk1.post (kz))
    clear hk1
    go_wp2
    exact bodyPost_ret (by simp [results, Tryd.results49, go_sem, d0, d1, d2, d3, d4, keyV, kz]) rfl ⟨rfl, HP.out⟩
  · cases hm : madeB id
    · have e1 : kgoneB rs id = false := by simp [kgoneB, hm]
      have e2 : kgoneO rs id = kz := by simp [kgoneO, e1]
      rw [e1, e2]
      clear e1 e2
      have hk0 := KSt.start hB h
      go_enter Tryd.func49, Tryd.ntmps49
      go_wp2_with fail
      refine (specTreeOk_any _ _ _ _ _ (Nat.le_refl _) hk0.rows hf).mono ?_
      rintro e w1 ⟨rfl, hb1⟩
      have hk1 := hk0.step hb1
      clear hk0 hb1
      rw [ht]
      go_wp2_with fail
      refine (l1Made_any _ _ hI).mono ?_
      rintro e w' ⟨rfl, rfl⟩
      rw [hm]
      obtain ⟨d0, d1, d2, d3, d4⟩ := hk1.box.cells
      have y0 := hk1.box.frozen 0
      have y1 := hk1.box.frozen 1
      have y2 := hk1.box.frozen 2
      have y3 := hk1.box.frozen 3
      have y4 := hk1.box.frozen 4
      have HP := Lib.hid (hk1.post (kz))
      clear hk1
      go_wp2
      exact bodyPost_ret (by simp [results, Tryd.results49, go_sem, d0, d1, d2, d3, d4, keyV, kz]) rfl ⟨rfl, HP.out⟩
    · cases hh : thereB rs id
      · have HA : Hid (atI rs id = -1) := by
          rcases atI_cases rs id with ⟨g, _⟩ | ⟨_, g⟩
          · simp [thereB, g] at hh
          · exact g
        have e1 : kgoneB rs id = false := by simp [kgoneB, hh]
        have e2 : kgoneO rs id = kz := by simp [kgoneO, e1]
        rw [e1, e2]
        clear e1 e2
        have hk0 := KSt.start hB h
        go_enter Tryd.func49, Tryd.ntmps49
        go_wp2_with fail
        refine (specTreeOk_any _ _ _ _ _ (Nat.le_refl _) hk0.rows hf).mono ?_
        rintro e w1 ⟨rfl, hb1⟩
        have hk1 := hk0.step hb1
        clear hk0 hb1
        rw [ht]
        go_wp2_with fail
        refine (l1Made_any _ _ hI).mono ?_
        rintro e w' ⟨rfl, rfl⟩
        rw [hm]
        go_wp2_with fail
        refine (l2At_any _ _ _ _ _ _ hk1.rows hf).mono ?_
        rintro e w' ⟨rfl, rfl⟩
        rw [HA.out]
        obtain ⟨d0, d1, d2, d3, d4⟩ := hk1.box.cells
        have y0 := hk1.box.frozen 0
        have y1 := hk1.box.frozen 1
        have y2 := hk1.box.frozen 2
        have y3 := hk1.box.frozen 3
        have y4 := hk1.box.frozen 4
        have HP := Lib.hid (hk1.post (kz))
        clear hk1
        go_wp2
        exact bodyPost_ret (by simp [results, Tryd.results49, go_sem, d0, d1, d2, d3, d4, keyV, kz]) rfl ⟨rfl, HP.out⟩
      · have HA : Hid (atI rs id = (atN rs id : Int)) := by
          rcases atI_cases rs id with ⟨_, g⟩ | ⟨g, _⟩
          · exact g
          · simp [thereB, g] at hh
        cases hu : undB rs id 2
        · have e1 : kgoneB rs id = true := by simp [kgoneB, ht, hm, hh, hu]
          have e2 : kgoneO rs id = moveO id 2 0 := by simp [kgoneO, e1]
          rw [e1, e2]
          clear e1 e2
          have hk0 := KSt.start hB h
          go_enter Tryd.func49, Tryd.ntmps49
          go_wp2_with fail
          refine (specTreeOk_any _ _ _ _ _ (Nat.le_refl _) hk0.rows hf).mono ?_
          rintro e w1 ⟨rfl, hb1⟩
          have hk1 := hk0.step hb1
          clear hk0 hb1
          rw [ht]
          go_wp2_with fail
          refine (l1Made_any _ _ hI).mono ?_
          rintro e w' ⟨rfl, rfl⟩
          rw [hm]
          go_wp2_with fail
          refine (l2At_any _ _ _ _ _ _ hk1.rows hf).mono ?_
          rintro e w' ⟨rfl, rfl⟩
          rw [HA.out]
          generalize atN rs id = n at *
          go_wp2_with fail
          refine (l2Under_any _ _ _ _ _ _ _ (Nat.le_refl _) hk1.rows hf).mono ?_
          rintro e w2 ⟨rfl, hb2⟩
          have hk2 := hk1.step hb2
          clear hk1 hb2
          rw [hu]
          go_wp2_with fail
          refine (l11Move_any _ _ _ _).mono ?_
          rintro e w3 ⟨rfl, hb3⟩
          have hk3 := hk2.step hb3
          clear hk2 hb3
          obtain ⟨d0, d1, d2, d3, d4⟩ := hk3.box.cells
          have y0 := hk3.box.frozen 0
          have y1 := hk3.box.frozen 1
          have y2 := hk3.box.frozen 2
          have y3 := hk3.box.frozen 3
          have y4 := hk3.box.frozen 4
          have HP := Lib.hid (hk3.post (moveO id 2 0))
          clear hk3
          go_wp2
          exact bodyPost_ret (by simp [results, Tryd.results49, go_sem, d0, d1, d2, d3, d4, keyV, moveO]) rfl ⟨rfl, HP.out⟩
        · have e1 : kgoneB rs id = false := by simp [kgoneB, hu]
          have e2 : kgoneO rs id = kz := by simp [kgoneO, e1]
          rw [e1, e2]
          clear e1 e2
          have hk0 := KSt.start hB h
          go_enter Tryd.func49, Tryd.ntmps49
          go_wp2_with fail
          refine (specTreeOk_any _ _ _ _ _ (Nat.le_refl _) hk0.rows hf).mono ?_
          rintro e w1 ⟨rfl, hb1⟩
          have hk1 := hk0.step hb1
          clear hk0 hb1
          rw [ht]
          go_wp2_with fail
          refine (l1Made_any _ _ hI).mono ?_
          rintro e w' ⟨rfl, rfl⟩
          rw [hm]
          go_wp2_with fail
          refine (l2At_any _ _ _ _ _ _ hk1.rows hf).mono ?_
          rintro e w' ⟨rfl, rfl⟩
          rw [HA.out]
          generalize atN rs id = n at *
          go_wp2_with fail
          refine (l2Under_any _ _ _ _ _ _ _ (Nat.le_refl _) hk1.rows hf).mono ?_
          rintro e w2 ⟨rfl, hb2⟩
          have hk2 := hk1.step hb2
          clear hk1 hb2
          rw [hu]
          obtain ⟨d0, d1, d2, d3, d4⟩ := hk2.box.cells
          have y0 := hk2.box.frozen 0
          have y1 := hk2.box.frozen 1
          have y2 := hk2.box.frozen 2
          have y3 := hk2.box.frozen 3
          have y4 := hk2.box.frozen 4
          have HP := Lib.hid (hk2.post (kz))
          clear hk2
          go_wp2
          exact bodyPost_ret (by simp [results, Tryd.results49, go_sem, d0, d1, d2, d3, d4, keyV, kz]) rfl ⟨rfl, HP.out⟩
end Go.Proofs.YtlhlkbbjmbpgpaaDoor
/-
  The program's small functions of chapter 11 over nodes: isRoot, root, behind, trash, and what the last child of a row is. Conditions: as each theorem says.
-/
namespace Go.Proofs.YtlhlkbbjmbpgpaaDoor
open Go.ChangeShapes Go.WideShapes Go.ChangeAt Go.RowKit Go.Joins

theorem kids_last (rs : List RowD) (x : Nat) : ∀ k s, (kidsOf rs x s k = [] ∧ ∀ j, s ≤ j → j < s + k → rdep rs j ≠ rdep rs x + 1) ∨
    ∃ l, s ≤ l ∧ l < s + k ∧ rdep rs l = rdep rs x + 1 ∧ (∀ j, l < j → j < s + k → rdep rs j ≠ rdep rs x + 1) ∧ kidsOf rs x s k ≠ [] ∧ (kidsOf rs x s k).getD ((kidsOf rs x s k).length - 1) 0 = (rat rs l).id
  | 0, s => .inl ⟨rfl, fun j a b => by omega⟩
  | k + 1, s => by
    rw [kidsOf_snoc]
    by_cases h : rdep rs (s + k) = rdep rs x + 1
    · rw [if_pos h]
      refine .inr ⟨s + k, by omega, by omega, h, fun j a b => by omega, by simp, ?_⟩
      simp
    · rw [if_neg h, List.append_nil]
      rcases kids_last rs x k s with ⟨h1, h2⟩ | ⟨l, h1, h2, h3, h4, h5⟩
      · refine .inl ⟨h1, fun j a b => ?_⟩
        by_cases e : j = s + k
        · rw [e]; exact h
        · exact h2 j a (by omega)
      · refine .inr ⟨l, h1, by omega, h3, fun j a b => ?_, h5⟩
        by_cases e : j = s + k
        · rw [e]; exact h
        · exact h4 j a (by omega)
theorem la_last {rs : List RowD} (ht : treeB rs = true) {j : Nat} (hj : j < rs.length) :
    (la (dp rs) (rs.length + 1) (j + 1) = none ∧ kidsL rs (rat rs j).id = []) ∨ ∃ l, l < rs.length ∧ la (dp rs) (rs.length + 1) (j + 1) = some (l + 1) ∧ kidsL rs (rat rs j).id ≠ [] ∧ lastK rs (rat rs j).id = (rat rs l).id := by
  have hT := treeP_of ht
  have hD := hT.deps
  have ha := hT.at_self hj
  have hk : kidsL rs (rat rs j).id = kidsOf rs j (j + 1) (enR rs j - (j + 1)) := by rw [kidsL_yes (by rw [ha]; exact hj), ha]
  have he := en_shift hj
  obtain ⟨e1, e2, _, _⟩ := en_spec (D := rdep rs) hj
  have e' : enR rs j = en (rdep rs) rs.length j := rfl
  unfold lastK
  rw [hk]
  rcases kids_last rs j (enR rs j - (j + 1)) (j + 1) with ⟨h1, h2⟩ | ⟨l, h1, h2, h3, h4, h5, h6⟩
  · refine .inl ⟨lstBelow_mk_none _ _ (fun i hi => ?_), h1⟩
    rw [Bool.eq_false_iff]; intro g
    have q := (kid_iff hD (show j + 1 < rs.length + 1 by omega) hi).1 g
    rw [he] at q
    obtain ⟨i', rfl⟩ : ∃ i', i = i' + 1 := ⟨i - 1, by omega⟩
    exact h2 i' (by omega) (by omega) q.2.2
  · refine .inr ⟨l, by omega, lstBelow_mk _ _ _ (by omega) ?_ (fun i a b => ?_), h5, h6⟩
    · exact (kid_iff hD (by omega) (by omega)).2 ⟨by omega, by rw [he]; omega, h3⟩
    · rw [Bool.eq_false_iff]; intro g
      have q := (kid_iff hD (show j + 1 < rs.length + 1 by omega) b).1 g
      rw [he] at q
      obtain ⟨i', rfl⟩ : ∃ i', i = i' + 1 := ⟨i - 1, by omega⟩
      exact h4 i' (by omega) (by omega) q.2.2
theorem isRoot_any (b : Nat) (d : Int) (w : World) (h : w.cell? ⟨b, 1, none⟩ = some (.int .i64 d)) :
    Calls Tryd.prog 100 #[.pointer (some ⟨b, 0, none⟩)] w fun e w' => e = .returned (.bool (d == 0)) ∧ w = w' := by
  go_enter Tryd.func100, Tryd.ntmps100
  go_wp2
  go_ret
  exact ⟨rfl, rfl⟩
theorem behind_none (b : Nat) (i : Int) (w : World) (hb : b < w.heap.size) (h : w.cell? ⟨b, 0, none⟩ = some (.int .i64 i)) :
    Calls Tryd.prog 86 #[.pointer (some ⟨b, 0, none⟩), .pointer none] w (RetBelow (.agg #[.int .i64 i, .int .i64 0]) w) := by
  have hal : Below w.heap.size w (w.alloc (.cells #[.int .i64 0, .int .i64 0] 74)) := (Below.refl _ _).alloc (Nat.le_refl _) _
  have h' : (w.alloc (.cells #[.int .i64 0, .int .i64 0] 74)).cell? ⟨b, 0, none⟩ = some (.int .i64 i) := by rw [hal.cell (p := ⟨b, 0, none⟩) hb]; exact h
  go_enter Tryd.func86, Tryd.ntmps86
  go_wp2
  go_returns
  exact ⟨rfl, by go_grown⟩
theorem behind_some (b c : Nat) (i j : Int) (w : World) (hb : b < w.heap.size) (h : w.cell? ⟨b, 0, none⟩ = some (.int .i64 i)) (hc : c < w.heap.size) (h2 : w.cell? ⟨c, 0, none⟩ = some (.int .i64 j)) :
    Calls Tryd.prog 86 #[.pointer (some ⟨b, 0, none⟩), .pointer (some ⟨c, 0, none⟩)] w (RetBelow (.agg #[.int .i64 i, .int .i64 j]) w) := by
  have hal : Below w.heap.size w (w.alloc (.cells #[.int .i64 0, .int .i64 0] 74)) := (Below.refl _ _).alloc (Nat.le_refl _) _
  have h' : (w.alloc (.cells #[.int .i64 0, .int .i64 0] 74)).cell? ⟨b, 0, none⟩ = some (.int .i64 i) := by rw [hal.cell (p := ⟨b, 0, none⟩) hb]; exact h
  have h2' : (w.alloc (.cells #[.int .i64 0, .int .i64 0] 74)).cell? ⟨c, 0, none⟩ = some (.int .i64 j) := by rw [hal.cell (p := ⟨c, 0, none⟩) hc]; exact h2
  go_enter Tryd.func86, Tryd.ntmps86
  go_wp2
  go_region
  all_goals
    go_wp2
    go_returns
    exact ⟨rfl, by go_grown⟩
theorem trash_any (w : World) : Calls Tryd.prog 83 #[] w (RetBelow (.agg #[.int .i64 2, .int .i64 0]) w) := by
  go_enter Tryd.func83, Tryd.ntmps83
  go_wp2
  go_returns
  exact ⟨rfl, by first | exact Below.refl _ _ | go_grown⟩
theorem commands_any (w : World) : Calls Tryd.prog 101 #[] w (RetBelow (.agg #[.func (.func 106) #[] #[], .func (.func 107) #[] #[], .func (.func 108) #[] #[]]) w) := by
  have hs1 := fun (a : Addr) (w : World) => run_store Tryd.prog w a (.func (.func 106) #[] #[]) .plain rfl
  have hs2 := fun (a : Addr) (w : World) => run_store Tryd.prog w a (.func (.func 107) #[] #[]) .plain rfl
  have hs3 := fun (a : Addr) (w : World) => run_store Tryd.prog w a (.func (.func 108) #[] #[]) .plain rfl
  go_enter Tryd.func101, Tryd.ntmps101
  go_wp2
  go_returns
  exact ⟨rfl, by first | exact Below.refl _ _ | go_grown⟩
end Go.Proofs.YtlhlkbbjmbpgpaaDoor
/-
  Contracts of the program's inward and outward: where a command lets a row stand. Conditions: the nodes of an outline lie in memory.
-/
namespace Go.Proofs.YtlhlkbbjmbpgpaaDoor
open Go.ChangeShapes Go.WideShapes Go.ChangeAt Go.RowKit Go.Joins

def spotV (u a : Int) (b : Bool) : Value := .tuple #[.agg #[.int .i64 u, .int .i64 a], .bool b]
/-- Block B is the box of a spot that is returned. -/
def SBox (w : World) (B : Nat) : Prop := w.heap[B]? = some (.cells #[.int .i64 0, .int .i64 0] 74 (0, 0))
theorem SBox.lt {w : World} {B : Nat} (h : SBox w B) : B < w.heap.size := (Array.getElem?_eq_some_iff.1 h).1
theorem SBox.cells {w : World} {B : Nat} (h : SBox w B) : w.cell? ⟨B, 0, none⟩ = some (.int .i64 0) ∧ w.cell? ⟨B, 1, none⟩ = some (.int .i64 0) := by
  refine ⟨?_, ?_⟩ <;> simp [World.cell?, show w.heap[B]? = _ from h]
theorem SBox.frozen {w : World} {B : Nat} (h : SBox w B) (k : Nat) : w.frozen? ⟨B, k, none⟩ = false := by simp [World.frozen?, show w.heap[B]? = _ from h]
theorem SBox.below {w w' : World} {B n : Nat} (h : SBox w B) (hb : Below n w w') (hn : B < n) : SBox w' B := (hb.block B hn).trans h
theorem SBox.new (w : World) : SBox (w.alloc (.cells #[.int .i64 0, .int .i64 0] 74)) w.heap.size := heap_alloc_new _ _
def sgiven (w : World) (B : Nat) (u a : Int) : World := (w.setCell ⟨B, 0, none⟩ (.int .i64 u)).setCell ⟨B, 1, none⟩ (.int .i64 a)
theorem sgiven_below {n : Nat} (w : World) (B : Nat) (u a : Int) (h : n ≤ B) : Below n w (sgiven w B u a) := by
  unfold sgiven
  exact ((Below.refl _ _).setCell (p := ⟨B, 0, none⟩) h _).setCell (p := ⟨B, 1, none⟩) h _
theorem made_dep {rs : List RowD} (ht : treeB rs = true) {k : Nat} (hk : k < rs.length) (hm : madeB (rat rs k).id = true) : 1 ≤ (rat rs k).dep := by
  rcases rok_cases ((treeP_of ht).rok k hk) with ⟨g, _⟩ | ⟨_, _, g, _⟩
  · have := (rootB_iff _).1 g; have := (madeB_iff _).1 hm; omega
  · exact g
def inA (rs : List RowD) (k : Nat) : Int := if ahAt rs k = 0 then 0 else lastK rs (ahAt rs k)
set_option maxRecDepth 100000 in
set_option maxHeartbeats 1000000 in
theorem inward_any (nb : Nat → Nat) (rs : List RowD) (k : Nat) (w : World) (ht : treeB rs = true) (hk : k < rs.length) (hm : madeB (rat rs k).id = true) (hN : Nodes w nb rs (rs.length + 1)) :
    Calls Tryd.prog 106 #[.pointer (some ⟨nb (k + 1), 0, none⟩)] w (RetBelow (spotV (ahAt rs k) (inA rs k) (ahAt rs k != 0)) w) := by
  have hT := treeP_of ht
  have hd1 := made_dep ht hk hm
  have hal : Below w.heap.size w (w.alloc (.cells #[.int .i64 0, .int .i64 0] 74)) := (Below.refl _ _).alloc (Nat.le_refl _) _
  have hN1 := hN.below hal
  have hN3 := hN.below hal.drew
  have hS1 : SBox (w.alloc (.cells #[.int .i64 0, .int .i64 0] 74)).drew w.heap.size := SBox.new w
  rcases ah_shift hT hk hd1 with ⟨s1, s2⟩ | ⟨j, hj, s1, s2⟩
  · have eA : inA rs k = 0 := by unfold inA; rw [s2, if_pos rfl]
    rw [eA, s2]
    have l4 := (hN1.links (show k + 1 < rs.length + 1 by omega)).2.1
    rw [show ahO rs (k + 1) = none by unfold ahO; rw [if_neg (by omega)]; exact s1] at l4
    simp only [padr] at l4
    clear hN hN1 hN3 s1 s2 eA
    go_enter Tryd.func106, Tryd.ntmps106
    go_wp2
    go_returns
    exact ⟨rfl, by go_grown⟩
  · have hjl : j < rs.length := by omega
    have hid := rok_id (hT.rok j hjl)
    have eB : (ahAt rs k != 0) = true := by rw [s2]; simp; omega
    have l4 := (hN1.links (show k + 1 < rs.length + 1 by omega)).2.1
    rw [show ahO rs (k + 1) = some (j + 1) by unfold ahO; rw [if_neg (by omega)]; exact s1] at l4
    have l7 := (hN3.links (show j + 1 < rs.length + 1 by omega)).2.2.2.2
    have r0 : (w.alloc (.cells #[.int .i64 0, .int .i64 0] 74)).drew.cell? ⟨nb (j + 1), 0, none⟩ = some (.int .i64 (rat rs j).id) := (hN3.row (show j + 1 < rs.length + 1 by omega)).1
    have hlj := hN3.lt (show j + 1 < rs.length + 1 by omega)
    have l4' := (hN3.links (show k + 1 < rs.length + 1 by omega)).2.1
    rw [show ahO rs (k + 1) = some (j + 1) by unfold ahO; rw [if_neg (by omega)]; exact s1] at l4'
    simp only [padr] at l4 l4'
    rcases la_last ht hjl with ⟨t1, t2⟩ | ⟨l, hl, t1, t2, t3⟩
    · have eA : inA rs k = 0 := by unfold inA; rw [s2, if_neg (by omega)]; unfold lastK; rw [t2]; rfl
      rw [eA, eB, s2]
      rw [t1] at l7
      simp only [padr] at l7
      clear hN hN1 hN3 s1 s2 eA eB t1 t2
      go_enter Tryd.func106, Tryd.ntmps106
      go_wp2_with fail
      go_region_with ((go_at_call 86; refine (behind_none _ _ _ hlj r0).mono ?_; rintro e w2 ⟨rfl, hb2⟩; have hS2 := hS1.below hb2 hS1.lt; obtain ⟨d0, d1⟩ := hS2.cells; have y0 := hS2.frozen 0; have y1 := hS2.frozen 1))
      all_goals
        have HP := Lib.hid ((hal.drew.trans (hb2.mono hal.drew.size)).trans (sgiven_below (n := w.heap.size) w2 w.heap.size (rat rs j).id 0 (Nat.le_refl _)))
        clear hS2 hS1 hb2
        go_wp2
        exact bodyPost_ret (by simp [results, Tryd.results106, go_sem, d0, d1, spotV]) rfl ⟨rfl, HP.out⟩
    · have eA : inA rs k = (rat rs l).id := by unfold inA; rw [s2, if_neg (by omega), t3]
      rw [eA, eB, s2]
      rw [t1] at l7
      simp only [padr] at l7
      have r1 : (w.alloc (.cells #[.int .i64 0, .int .i64 0] 74)).drew.cell? ⟨nb (l + 1), 0, none⟩ = some (.int .i64 (rat rs l).id) := (hN3.row (show l + 1 < rs.length + 1 by omega)).1
      have hll := hN3.lt (show l + 1 < rs.length + 1 by omega)
      clear hN hN1 hN3 s1 s2 eA eB t1 t2 t3
      go_enter Tryd.func106, Tryd.ntmps106
      go_wp2_with fail
      go_region_with ((go_at_call 86; refine (behind_some _ _ _ _ _ hlj r0 hll r1).mono ?_; rintro e w2 ⟨rfl, hb2⟩; have hS2 := hS1.below hb2 hS1.lt; obtain ⟨d0, d1⟩ := hS2.cells; have y0 := hS2.frozen 0; have y1 := hS2.frozen 1))
      all_goals
        have HP := Lib.hid ((hal.drew.trans (hb2.mono hal.drew.size)).trans (sgiven_below (n := w.heap.size) w2 w.heap.size (rat rs j).id (rat rs l).id (Nat.le_refl _)))
        clear hS2 hS1 hb2
        go_wp2
        exact bodyPost_ret (by simp [results, Tryd.results106, go_sem, d0, d1, spotV]) rfl ⟨rfl, HP.out⟩
end Go.Proofs.YtlhlkbbjmbpgpaaDoor
/-
  Contracts of the program's outward, root and away. Conditions: the nodes of an outline lie in memory.
-/
namespace Go.Proofs.YtlhlkbbjmbpgpaaDoor
open Go.ChangeShapes Go.WideShapes Go.ChangeAt Go.RowKit Go.Joins

def outA (rs : List RowD) (k : Nat) : Int := if madeB (upAt rs k) then upAt rs k else 0
def outU (rs : List RowD) (k : Nat) : Int := if madeB (upAt rs k) then upAt rs (atN rs (upAt rs k)) else 0
theorem par_row {rs : List RowD} (ht : treeB rs = true) {k : Nat} (hk : k < rs.length) (hd : 1 ≤ (rat rs k).dep) : ∃ u, u < k ∧ par (dp rs) (k + 1) = u + 1 ∧ upAt rs k = (rat rs u).id ∧ (rat rs u).dep + 1 = (rat rs k).dep := by
  have hT := treeP_of ht
  have h1 := par_spec hT.deps (i := k + 1) (by omega) (by omega)
  have h2 := par_dep hT.deps (i := k + 1) (by omega) (by omega)
  have h3 := par_shift hT hk
  rcases hp : par (dp rs) (k + 1) with _ | u
  · rw [hp] at h2
    have e0 : dp rs 0 = -1 := rfl
    have e1 : dp rs (k + 1) = (rat rs k).dep := rfl
    omega
  · rw [hp] at h1 h2 h3
    refine ⟨u, by omega, rfl, h3.symm, ?_⟩
    have e0 : dp rs (u + 1) = (rat rs u).dep := rfl
    have e1 : dp rs (k + 1) = (rat rs k).dep := rfl
    omega
theorem dep_made {rs : List RowD} (ht : treeB rs = true) {k : Nat} (hk : k < rs.length) : ((rat rs k).dep == 0) = !madeB (rat rs k).id := by
  rcases rok_cases ((treeP_of ht).rok k hk) with ⟨g, h, _⟩ | ⟨_, g, h, _⟩
  · have : madeB (rat rs k).id = false := by rw [Bool.eq_false_iff]; intro q; have := (rootB_iff _).1 g; have := (madeB_iff _).1 q; omega
    rw [h, this]; rfl
  · rw [g]; simp; omega
set_option maxRecDepth 100000 in
set_option maxHeartbeats 1000000 in
theorem outward_any (nb : Nat → Nat) (rs : List RowD) (k : Nat) (w : World) (ht : treeB rs = true) (hk : k < rs.length) (hm : madeB (rat rs k).id = true) (hN : Nodes w nb rs (rs.length + 1)) :
    Calls Tryd.prog 107 #[.pointer (some ⟨nb (k + 1), 0, none⟩)] w (RetBelow (spotV (outU rs k) (outA rs k) (madeB (upAt rs k))) w) := by
  have hT := treeP_of ht
  obtain ⟨u, huk, hp, eu, hdu⟩ := par_row ht hk (made_dep ht hk hm)
  have hul : u < rs.length := by omega
  have hal : Below w.heap.size w (w.alloc (.cells #[.int .i64 0, .int .i64 0] 74)) := (Below.refl _ _).alloc (Nat.le_refl _) _
  have hN1 := hN.below hal
  have hN3 := hN.below hal.drew
  have hS1 : SBox (w.alloc (.cells #[.int .i64 0, .int .i64 0] 74)).drew w.heap.size := SBox.new w
  have hO : upO rs (k + 1) = some (u + 1) := by unfold upO; rw [if_neg (by omega), hp]
  have l3 := (hN1.links (show k + 1 < rs.length + 1 by omega)).1
  have l3' := (hN3.links (show k + 1 < rs.length + 1 by omega)).1
  rw [hO] at l3 l3'
  simp only [padr] at l3 l3'
  have r1 : (w.alloc (.cells #[.int .i64 0, .int .i64 0] 74)).cell? ⟨nb (u + 1), 1, none⟩ = some (.int .i64 (rat rs u).dep) := (hN1.row (show u + 1 < rs.length + 1 by omega)).2.1
  have hdm := dep_made ht hul
  cases hb : madeB (rat rs u).id
  · rw [hb] at hdm
    have e1 : outA rs k = 0 := by unfold outA; rw [eu, hb]; rfl
    have e2 : outU rs k = 0 := by unfold outU; rw [eu, hb]; rfl
    rw [e1, e2, eu, hb]
    have hdm' : ((rat rs u).dep == 0) = true := hdm
    clear hN hN1 hN3 e1 e2 hS1
    go_enter Tryd.func107, Tryd.ntmps107
    go_wp2_with fail
    refine (isRoot_any _ _ _ r1).mono ?_
    rintro e w' ⟨rfl, rfl⟩
    rw [hdm']
    go_wp2
    go_returns
    exact ⟨rfl, by go_grown⟩
  · rw [hb] at hdm
    have e0 : atN rs (rat rs u).id = u := hT.at_self hul
    have e1 : outA rs k = (rat rs u).id := by unfold outA; rw [eu, hb]; rfl
    have e2 : outU rs k = upAt rs u := by unfold outU; rw [eu, hb, e0]; rfl
    rw [e1, e2, eu, hb]
    have hdm' : ((rat rs u).dep == 0) = false := hdm
    obtain ⟨v, hvu, hq, ev, _⟩ := par_row ht hul (made_dep ht hul hb)
    rw [ev]
    have hO2 : upO rs (u + 1) = some (v + 1) := by unfold upO; rw [if_neg (by omega), hq]
    have l5 := (hN3.links (show u + 1 < rs.length + 1 by omega)).1
    rw [hO2] at l5
    simp only [padr] at l5
    have r2 : (w.alloc (.cells #[.int .i64 0, .int .i64 0] 74)).drew.cell? ⟨nb (u + 1), 0, none⟩ = some (.int .i64 (rat rs u).id) := (hN3.row (show u + 1 < rs.length + 1 by omega)).1
    have r3 : (w.alloc (.cells #[.int .i64 0, .int .i64 0] 74)).drew.cell? ⟨nb (v + 1), 0, none⟩ = some (.int .i64 (rat rs v).id) := (hN3.row (show v + 1 < rs.length + 1 by omega)).1
    have hlu := hN3.lt (show u + 1 < rs.length + 1 by omega)
    have hlv := hN3.lt (show v + 1 < rs.length + 1 by omega)
    clear hN hN1 hN3 e1 e2 e0
    go_enter Tryd.func107, Tryd.ntmps107
    go_wp2_with fail
    refine (isRoot_any _ _ _ r1).mono ?_
    rintro e w' ⟨rfl, rfl⟩
    rw [hdm']
    go_wp2_with fail
    go_region_with ((go_at_call 86; refine (behind_some _ _ _ _ _ hlv r3 hlu r2).mono ?_; rintro e w2 ⟨rfl, hb2⟩; have hS2 := hS1.below hb2 hS1.lt; obtain ⟨d0, d1⟩ := hS2.cells; have y0 := hS2.frozen 0; have y1 := hS2.frozen 1))
    all_goals
      have HP := Lib.hid ((hal.drew.trans (hb2.mono hal.drew.size)).trans (sgiven_below (n := w.heap.size) w2 w.heap.size (rat rs v).id (rat rs u).id (Nat.le_refl _)))
      clear hS2 hS1 hb2
      go_wp2
      exact bodyPost_ret (by simp [results, Tryd.results107, go_sem, d0, d1, spotV]) rfl ⟨rfl, HP.out⟩
theorem tree_two {rs : List RowD} (ht : treeB rs = true) : thereB rs 2 = true := by
  have hT := treeP_of ht
  have key : ∀ k, nroots rs k = 2 → ∃ i, i < k ∧ rootB (rat rs i).id = true ∧ nroots rs i = 1 := by
    intro k
    induction k with
    | zero => intro h; simp [nroots] at h
    | succ k ih =>
      intro h
      unfold nroots at h
      by_cases hr : rootB (rat rs k).id = true
      · rw [if_pos hr] at h
        exact ⟨k, by omega, hr, by omega⟩
      · rw [if_neg hr] at h
        obtain ⟨i, a, b⟩ := ih (by omega)
        exact ⟨i, by omega, b⟩
  obtain ⟨i, a, b, c⟩ := third_root rs rs.length hT.three
  obtain ⟨j, a', b', c'⟩ := key i c
  have e := hT.rord j (by omega) b'
  rw [c'] at e
  have := there_at (rs := rs) (i := j) (by omega)
  rw [e] at this
  exact there_iff.2 this
def RootOf (nb : Nat → Nat) (rs : List RowD) (k : Nat) (w : World) (e : Ending) (w' : World) : Prop :=
  ∃ r, r < rs.length ∧ e = .returned (.pointer (some ⟨nb (r + 1), 0, none⟩)) ∧ (undB rs (rat rs k).id 2 = ((rat rs r).id == 2)) ∧ w = w'
set_option maxRecDepth 100000 in
set_option maxHeartbeats 1000000 in
theorem root_any (nb : Nat → Nat) (rs : List RowD) (k : Nat) (w : World) (ht : treeB rs = true) (hk : k < rs.length) (hN : Nodes w nb rs (rs.length + 1)) :
    Calls Tryd.prog 109 #[.pointer (some ⟨nb (k + 1), 0, none⟩)] w (RootOf nb rs k w) := by
  have hT := treeP_of ht
  have h2 := there_iff.1 (tree_two ht)
  have HU : Hid (∀ r, r < rs.length → (rat rs r).dep = 0 → (un (dp rs) (rs.length + 1) (k + 1) (atN rs 2 + 1) ↔ un (dp rs) (rs.length + 1) (r + 1) (atN rs 2 + 1)) → undB rs (rat rs k).id 2 = ((rat rs r).id == 2)) := by
    intro r hr hd hiff
    have hD := hT.deps
    rw [undB_node ht (there_iff.2 (by rw [hT.at_self hk]; exact hk)) (tree_two ht), hT.at_self hk, Bool.eq_iff_iff, unB_iff, hiff, beq_iff_eq]
    by_cases e : r = atN rs 2
    · subst e
      exact ⟨fun _ => atN_id h2, fun _ => un_self (by omega)⟩
    · rw [un_par hD (show 1 ≤ r + 1 by omega) (by omega) (show atN rs 2 + 1 < rs.length + 1 by omega) (by omega)]
      have hp := par_dep hD (show 1 ≤ r + 1 by omega) (by omega)
      have hs := par_spec hD (show 1 ≤ r + 1 by omega) (show r + 1 < rs.length + 1 by omega)
      have e1 : dp rs (r + 1) = (rat rs r).dep := rfl
      have p0 : par (dp rs) (r + 1) = 0 := by
        rcases Nat.eq_zero_or_pos (par (dp rs) (r + 1)) with g | g
        · exact g
        · have := hD.low _ g (by omega); omega
      rw [p0]
      refine ⟨fun g => absurd g (un_top (by omega)), fun g => ?_⟩
      have := hT.at_self hr
      rw [g] at this; exact absurd this.symm e
  have HT := Lib.hid hT
  have HP : Hid (∀ c, c < rs.length → (rat rs c).dep ≠ 0 → ∃ u, u < c ∧ upO rs (c + 1) = some (u + 1) ∧ (un (dp rs) (rs.length + 1) (c + 1) (atN rs 2 + 1) ↔ un (dp rs) (rs.length + 1) (u + 1) (atN rs 2 + 1))) := by
    intro c hc hd
    have h0 := (rok_dep (hT.rok c hc)).1
    obtain ⟨u, hu, hp, _, hdu⟩ := par_row ht hc (by omega)
    refine ⟨u, hu, by unfold upO; rw [if_neg (by omega), hp], ?_⟩
    have hne : c + 1 ≠ atN rs 2 + 1 := fun e => by
      have : c = atN rs 2 := by omega
      have r2 := (rok_root (hT.rok _ h2)).2 (by rw [atN_id h2]; rfl)
      rw [this] at hd; exact hd r2
    rw [un_par hT.deps (show 1 ≤ c + 1 by omega) (by omega) (show atN rs 2 + 1 < rs.length + 1 by omega) hne, hp]
  clear hT h2 ht
  go_enter Tryd.func109, Tryd.ntmps109
  go_wp2_with fail
  go_loopg [0] k (fun c p wx => c < rs.length ∧ p = .pointer (some ⟨nb (c + 1), 0, none⟩) ∧ Hid (un (dp rs) (rs.length + 1) (k + 1) (atN rs 2 + 1) ↔ un (dp rs) (rs.length + 1) (c + 1) (atN rs 2 + 1)) ∧ wx = w)
  case atStart => exact ⟨hk, rfl, Iff.rfl, rfl⟩
  case round =>
    obtain ⟨hc, rfl, hiff, rfl⟩ := hrel
    have r1 : wr.cell? ⟨nb (gk + 1), 1, none⟩ = some (.int .i64 (rat rs gk).dep) := (hN.row (show gk + 1 < rs.length + 1 by omega)).2.1
    have l3 := (hN.links (show gk + 1 < rs.length + 1 by omega)).1
    by_cases hd : (rat rs gk).dep = 0
    · have hd' := beq_iff_eq.2 hd
      have HF := Lib.hid (HU.out gk hc hd hiff.out)
      go_wp2_with fail
      refine (isRoot_any _ _ _ r1).mono ?_
      rintro e w' ⟨rfl, rfl⟩
      rw [hd']
      go_wp2
      go_ret
      exact ⟨gk, hc, rfl, HF.out, rfl⟩
    · have hd' : ((rat rs gk).dep == 0) = false := beq_eq_false_iff_ne.2 hd
      obtain ⟨u, hu, hO, hj⟩ := HP.out gk hc hd
      have HJ := Lib.hid (hiff.out.trans hj)
      rw [hO] at l3
      simp only [padr] at l3
      clear hj hO hd
      go_wp2_with fail
      refine (isRoot_any _ _ _ r1).mono ?_
      rintro e w' ⟨rfl, rfl⟩
      rw [hd']
      go_wp2
      go_roundg u
      case measure => exact hu
      case rel => exact ⟨by omega, rfl, HJ, rfl⟩
set_option maxRecDepth 100000 in
set_option maxHeartbeats 1000000 in
theorem away_any (nb : Nat → Nat) (rs : List RowD) (k : Nat) (w : World) (ht : treeB rs = true) (hk : k < rs.length) (hN : Nodes w nb rs (rs.length + 1)) :
    Calls Tryd.prog 108 #[.pointer (some ⟨nb (k + 1), 0, none⟩)] w (RetBelow (spotV (if undB rs (rat rs k).id 2 then 0 else 2) 0 (!undB rs (rat rs k).id 2)) w) := by
  have hal : Below w.heap.size w (w.alloc (.cells #[.int .i64 0, .int .i64 0] 74)) := (Below.refl _ _).alloc (Nat.le_refl _) _
  have hN1 := hN.below hal
  have hS1 := SBox.new w
  cases hu : undB rs (rat rs k).id 2
  · go_enter Tryd.func108, Tryd.ntmps108
    go_wp2_with fail
    refine (root_any nb rs k _ ht hk hN1).mono ?_
    rintro e w' ⟨r, hr, rfl, he, rfl⟩
    rw [hu] at he
    have he' : ((rat rs r).id == 2) = false := he.symm
    have r0 : (w.alloc (.cells #[.int .i64 0, .int .i64 0] 74)).cell? ⟨nb (r + 1), 0, none⟩ = some (.int .i64 (rat rs r).id) := (hN1.row (show r + 1 < rs.length + 1 by omega)).1
    clear he
    go_wp2_with fail
    refine (trash_any _).mono ?_
    rintro e w2 ⟨rfl, hb2⟩
    have hS2 := hS1.below hb2 hS1.lt
    obtain ⟨d0, d1⟩ := hS2.cells
    have y0 := hS2.frozen 0
    have y1 := hS2.frozen 1
    have HP := Lib.hid ((hal.trans (hb2.mono hal.size)).trans (sgiven_below (n := w.heap.size) w2 w.heap.size 2 0 (Nat.le_refl _)))
    clear hS2 hS1 hb2
    go_wp2
    exact bodyPost_ret (by simp [results, Tryd.results108, go_sem, d0, d1, spotV]) rfl ⟨rfl, HP.out⟩
  · go_enter Tryd.func108, Tryd.ntmps108
    go_wp2_with fail
    refine (root_any nb rs k _ ht hk hN1).mono ?_
    rintro e w' ⟨r, hr, rfl, he, rfl⟩
    rw [hu] at he
    have he' : ((rat rs r).id == 2) = true := he.symm
    have r0 : (w.alloc (.cells #[.int .i64 0, .int .i64 0] 74)).cell? ⟨nb (r + 1), 0, none⟩ = some (.int .i64 (rat rs r).id) := (hN1.row (show r + 1 < rs.length + 1 by omega)).1
    clear he
    go_wp2
    go_returns
    exact ⟨rfl, by go_grown⟩
end Go.Proofs.YtlhlkbbjmbpgpaaDoor
/-
  Contracts of the program's press at each key, of KeyIn, KeyOut and KeyGone: they answer as the model's. Conditions: the rows lie in memory as a slice of rows; the table 'creators' holds what its initialiser lays.
-/
namespace Go.Proofs.YtlhlkbbjmbpgpaaDoor
open Go.ChangeShapes Go.WideShapes Go.ChangeAt Go.RowKit Go.Joins

set_option maxRecDepth 100000 in
set_option maxHeartbeats 1000000 in
theorem press_gone (B : Nat) (a : Option Addr) (cap : Nat) (rs : List RowD) (id : Int) (w : World) (hB : B ≤ w.heap.size) (h : RowsAt B w a rs) (hf : Fit rs) (ht : Tab w) (key : Int) (hh : hasB rs id = false) :
    Calls Tryd.prog 77 #[.int .i64 key, .slice a rs.length cap, .int .i64 id] w (RetBelow (keyV kz false) w) := by
  have HF := Lib.hid (fnd_no hh)
  have hk0 := KSt.start hB h
  clear hh
  go_enter Tryd.func77, Tryd.ntmps77
  go_wp2_with fail
  refine (treeOf_any _ _ _ _ _ (Nat.le_refl _) hk0.rows hf (ht.below hk0.b ht.pos)).mono ?_
  rintro e w1 ⟨nb, rfl, _, hN, hb1⟩
  have hk1 := hk0.step hb1
  go_wp2_with fail
  refine (find_any nb rs id w1 hN).mono ?_
  rintro e w2 ⟨rfl, hb2⟩
  rw [HF.out]
  simp only [padr]
  have hk2 := hk1.step hb2
  clear hk0 hk1 hb1 hb2 hN
  obtain ⟨d0, d1, d2, d3, d4⟩ := hk2.box.cells
  have y0 := hk2.box.frozen 0
  have y1 := hk2.box.frozen 1
  have y2 := hk2.box.frozen 2
  have y3 := hk2.box.frozen 3
  have y4 := hk2.box.frozen 4
  have HP := Lib.hid (hk2.post (kz))
  clear hk2
  go_wp2
  exact bodyPost_ret (by simp [results, Tryd.results77, go_sem, d0, d1, d2, d3, d4, keyV, kz]) rfl ⟨rfl, HP.out⟩
set_option maxRecDepth 100000 in
set_option maxHeartbeats 1000000 in
theorem press_root (B : Nat) (a : Option Addr) (cap : Nat) (rs : List RowD) (id : Int) (w : World) (hB : B ≤ w.heap.size) (h : RowsAt B w a rs) (hf : Fit rs) (ht : Tab w) (key : Int) (hh : hasB rs id = true) (hm : madeB id = false) :
    Calls Tryd.prog 77 #[.int .i64 key, .slice a rs.length cap, .int .i64 id] w (RetBelow (keyV kz false) w) := by
  have HF := Lib.hid (fnd_yes hh)
  obtain ⟨htb, hat⟩ := hasB_iff.1 hh
  have HM := Lib.hid (nodesN_tree htb)
  have hdm := dep_made htb hat
  rw [atN_id hat, hm] at hdm
  have hdm' : ((rat rs (atN rs id)).dep == 0) = true := hdm
  have hk0 := KSt.start hB h
  clear hdm hh
  go_enter Tryd.func77, Tryd.ntmps77
  go_wp2_with fail
  refine (treeOf_any _ _ _ _ _ (Nat.le_refl _) hk0.rows hf (ht.below hk0.b ht.pos)).mono ?_
  rintro e w1 ⟨nb, rfl, _, hN, hb1⟩
  have hk1 := hk0.step hb1
  go_wp2_with fail
  refine (find_any nb rs id w1 hN).mono ?_
  rintro e w2 ⟨rfl, hb2⟩
  rw [HF.out]
  simp only [padr]
  have hk2 := hk1.step hb2
  have hN2 : Nodes w2 nb rs (nodesN rs) := hN.below hb2
  rw [HM.out] at hN2
  have r1 : w2.cell? ⟨nb (atN rs id + 1), 1, none⟩ = some (.int .i64 (rat rs (atN rs id)).dep) := (hN2.row (show atN rs id + 1 < rs.length + 1 by omega)).2.1
  clear hk0 hk1 hb1 hb2 hN
  go_wp2_with fail
  refine (isRoot_any _ _ _ r1).mono ?_
  rintro e w' ⟨rfl, rfl⟩
  rw [hdm']
  clear hN2 r1
  obtain ⟨d0, d1, d2, d3, d4⟩ := hk2.box.cells
  have y0 := hk2.box.frozen 0
  have y1 := hk2.box.frozen 1
  have y2 := hk2.box.frozen 2
  have y3 := hk2.box.frozen 3
  have y4 := hk2.box.frozen 4
  have HP := Lib.hid (hk2.post (kz))
  clear hk2
  go_wp2
  exact bodyPost_ret (by simp [results, Tryd.results77, go_sem, d0, d1, d2, d3, d4, keyV, kz]) rfl ⟨rfl, HP.out⟩
set_option maxRecDepth 100000 in
set_option maxHeartbeats 1000000 in
theorem press_in_yes (B : Nat) (a : Option Addr) (cap : Nat) (rs : List RowD) (id : Int) (w : World) (hB : B ≤ w.heap.size) (h : RowsAt B w a rs) (hf : Fit rs) (ht : Tab w) (hh : hasB rs id = true) (hm : madeB id = true) (hb : (ahAt rs (atN rs id) != 0) = true) :
    Calls Tryd.prog 77 #[.int .i64 0, .slice a rs.length cap, .int .i64 id] w (RetBelow (keyV (moveO id (ahAt rs (atN rs id)) (inA rs (atN rs id))) true) w) := by
  have HF := Lib.hid (fnd_yes hh)
  obtain ⟨htb, hat⟩ := hasB_iff.1 hh
  have HM := Lib.hid (nodesN_tree htb)
  have hdm := dep_made htb hat
  rw [atN_id hat, hm] at hdm
  have hdm' : ((rat rs (atN rs id)).dep == 0) = false := hdm
  have hk0 := KSt.start hB h
  have hm' : madeB (rat rs (atN rs id)).id = true := by rw [atN_id hat]; exact hm
  have hix : ∀ w : World, (Instr.index 109 (.agg #[.func (.func 106) #[] #[], .func (.func 107) #[] #[], .func (.func 108) #[] #[]]) (.int .i64 0)).run Tryd.prog w = .ok (.func (.func 106) #[] #[]) w := fun _ => by kernel_rfl
  clear hdm hh
  go_enter Tryd.func77, Tryd.ntmps77
  go_wp2_with fail
  refine (treeOf_any _ _ _ _ _ (Nat.le_refl _) hk0.rows hf (ht.below hk0.b ht.pos)).mono ?_
  rintro e w1 ⟨nb, rfl, _, hN, hb1⟩
  have hk1 := hk0.step hb1
  go_wp2_with fail
  refine (find_any nb rs id w1 hN).mono ?_
  rintro e w2 ⟨rfl, hb2⟩
  rw [HF.out]
  simp only [padr]
  have hk2 := hk1.step hb2
  have hN2 : Nodes w2 nb rs (nodesN rs) := hN.below hb2
  rw [HM.out] at hN2
  have r1 : w2.cell? ⟨nb (atN rs id + 1), 1, none⟩ = some (.int .i64 (rat rs (atN rs id)).dep) := (hN2.row (show atN rs id + 1 < rs.length + 1 by omega)).2.1
  clear hk0 hk1 hb1 hb2 hN
  go_wp2_with fail
  refine (isRoot_any _ _ _ r1).mono ?_
  rintro e w' ⟨rfl, rfl⟩
  rw [hdm']
  go_wp2_with fail
  refine (commands_any _).mono ?_
  rintro e w3 ⟨rfl, hb3⟩
  have hk3 := hk2.step hb3
  have hN3 := hN2.below hb3
  clear hk2 hN2 r1 hb3
  go_wp2_with fail
  refine (inward_any nb rs (atN rs id) _ htb hat hm' hN3).mono ?_
  rintro e w4 ⟨rfl, hb4⟩
  have hk4 := hk3.step hb4
  rw [hb]
  simp only [spotV]
  clear hk3 hN3 hb4 hix hb
  generalize ahAt rs (atN rs id) = u at *
  generalize inA rs (atN rs id) = v at *
  have hal5 : Below w4.heap.size w4 (w4.alloc (.cells #[.int .i64 u, .int .i64 v] 74)) := (Below.refl _ _).alloc (Nat.le_refl _) _
  have hk5 := hk4.step hal5
  clear hk4
  go_wp2_with fail
  refine (movingOp_any ⟨0, id, u, v, ⟨#[]⟩⟩ _).mono ?_
  rintro e w6 ⟨rfl, hb6⟩
  have hk6 := hk5.step hb6
  clear hk5 hb6 hal5
  obtain ⟨d0, d1, d2, d3, d4⟩ := hk6.box.cells
  have y0 := hk6.box.frozen 0
  have y1 := hk6.box.frozen 1
  have y2 := hk6.box.frozen 2
  have y3 := hk6.box.frozen 3
  have y4 := hk6.box.frozen 4
  have HP := Lib.hid (hk6.post (moveO id u v))
  clear hk6
  go_wp2
  exact bodyPost_ret (by simp [results, Tryd.results77, go_sem, d0, d1, d2, d3, d4, keyV, moveO]) rfl ⟨rfl, HP.out⟩
set_option maxRecDepth 100000 in
set_option maxHeartbeats 1000000 in
theorem press_in_no (B : Nat) (a : Option Addr) (cap : Nat) (rs : List RowD) (id : Int) (w : World) (hB : B ≤ w.heap.size) (h : RowsAt B w a rs) (hf : Fit rs) (ht : Tab w) (hh : hasB rs id = true) (hm : madeB id = true) (hb : (ahAt rs (atN rs id) != 0) = false) :
    Calls Tryd.prog 77 #[.int .i64 0, .slice a rs.length cap, .int .i64 id] w (RetBelow (keyV (kz) false) w) := by
  have HF := Lib.hid (fnd_yes hh)
  obtain ⟨htb, hat⟩ := hasB_iff.1 hh
  have HM := Lib.hid (nodesN_tree htb)
  have hdm := dep_made htb hat
  rw [atN_id hat, hm] at hdm
  have hdm' : ((rat rs (atN rs id)).dep == 0) = false := hdm
  have hk0 := KSt.start hB h
  have hm' : madeB (rat rs (atN rs id)).id = true := by rw [atN_id hat]; exact hm
  have hix : ∀ w : World, (Instr.index 109 (.agg #[.func (.func 106) #[] #[], .func (.func 107) #[] #[], .func (.func 108) #[] #[]]) (.int .i64 0)).run Tryd.prog w = .ok (.func (.func 106) #[] #[]) w := fun _ => by kernel_rfl
  clear hdm hh
  go_enter Tryd.func77, Tryd.ntmps77
  go_wp2_with fail
  refine (treeOf_any _ _ _ _ _ (Nat.le_refl _) hk0.rows hf (ht.below hk0.b ht.pos)).mono ?_
  rintro e w1 ⟨nb, rfl, _, hN, hb1⟩
  have hk1 := hk0.step hb1
  go_wp2_with fail
  refine (find_any nb rs id w1 hN).mono ?_
  rintro e w2 ⟨rfl, hb2⟩
  rw [HF.out]
  simp only [padr]
  have hk2 := hk1.step hb2
  have hN2 : Nodes w2 nb rs (nodesN rs) := hN.below hb2
  rw [HM.out] at hN2
  have r1 : w2.cell? ⟨nb (atN rs id + 1), 1, none⟩ = some (.int .i64 (rat rs (atN rs id)).dep) := (hN2.row (show atN rs id + 1 < rs.length + 1 by omega)).2.1
  clear hk0 hk1 hb1 hb2 hN
  go_wp2_with fail
  refine (isRoot_any _ _ _ r1).mono ?_
  rintro e w' ⟨rfl, rfl⟩
  rw [hdm']
  go_wp2_with fail
  refine (commands_any _).mono ?_
  rintro e w3 ⟨rfl, hb3⟩
  have hk3 := hk2.step hb3
  have hN3 := hN2.below hb3
  clear hk2 hN2 r1 hb3
  go_wp2_with fail
  refine (inward_any nb rs (atN rs id) _ htb hat hm' hN3).mono ?_
  rintro e w4 ⟨rfl, hb4⟩
  have hk4 := hk3.step hb4
  rw [hb]
  simp only [spotV]
  clear hk3 hN3 hb4 hix hb
  generalize ahAt rs (atN rs id) = u at *
  generalize inA rs (atN rs id) = v at *
  have hal5 : Below w4.heap.size w4 (w4.alloc (.cells #[.int .i64 u, .int .i64 v] 74)) := (Below.refl _ _).alloc (Nat.le_refl _) _
  have hk5 := hk4.step hal5
  clear hk4
  obtain ⟨d0, d1, d2, d3, d4⟩ := hk5.box.cells
  have y0 := hk5.box.frozen 0
  have y1 := hk5.box.frozen 1
  have y2 := hk5.box.frozen 2
  have y3 := hk5.box.frozen 3
  have y4 := hk5.box.frozen 4
  have HP := Lib.hid (hk5.post (kz))
  clear hk5
  go_wp2
  exact bodyPost_ret (by simp [results, Tryd.results77, go_sem, d0, d1, d2, d3, d4, keyV, kz]) rfl ⟨rfl, HP.out⟩
set_option maxRecDepth 100000 in
set_option maxHeartbeats 1000000 in
theorem press_out_yes (B : Nat) (a : Option Addr) (cap : Nat) (rs : List RowD) (id : Int) (w : World) (hB : B ≤ w.heap.size) (h : RowsAt B w a rs) (hf : Fit rs) (ht : Tab w) (hh : hasB rs id = true) (hm : madeB id = true) (hb : madeB (upAt rs (atN rs id)) = true) :
    Calls Tryd.prog 77 #[.int .i64 1, .slice a rs.length cap, .int .i64 id] w (RetBelow (keyV (moveO id (outU rs (atN rs id)) (outA rs (atN rs id))) true) w) := by
  have HF := Lib.hid (fnd_yes hh)
  obtain ⟨htb, hat⟩ := hasB_iff.1 hh
  have HM := Lib.hid (nodesN_tree htb)
  have hdm := dep_made htb hat
  rw [atN_id hat, hm] at hdm
  have hdm' : ((rat rs (atN rs id)).dep == 0) = false := hdm
  have hk0 := KSt.start hB h
  have hm' : madeB (rat rs (atN rs id)).id = true := by rw [atN_id hat]; exact hm
  have hix : ∀ w : World, (Instr.index 109 (.agg #[.func (.func 106) #[] #[], .func (.func 107) #[] #[], .func (.func 108) #[] #[]]) (.int .i64 1)).run Tryd.prog w = .ok (.func (.func 107) #[] #[]) w := fun _ => by kernel_rfl
  clear hdm hh
  go_enter Tryd.func77, Tryd.ntmps77
  go_wp2_with fail
  refine (treeOf_any _ _ _ _ _ (Nat.le_refl _) hk0.rows hf (ht.below hk0.b ht.pos)).mono ?_
  rintro e w1 ⟨nb, rfl, _, hN, hb1⟩
  have hk1 := hk0.step hb1
  go_wp2_with fail
  refine (find_any nb rs id w1 hN).mono ?_
  rintro e w2 ⟨rfl, hb2⟩
  rw [HF.out]
  simp only [padr]
  have hk2 := hk1.step hb2
  have hN2 : Nodes w2 nb rs (nodesN rs) := hN.below hb2
  rw [HM.out] at hN2
  have r1 : w2.cell? ⟨nb (atN rs id + 1), 1, none⟩ = some (.int .i64 (rat rs (atN rs id)).dep) := (hN2.row (show atN rs id + 1 < rs.length + 1 by omega)).2.1
  clear hk0 hk1 hb1 hb2 hN
  go_wp2_with fail
  refine (isRoot_any _ _ _ r1).mono ?_
  rintro e w' ⟨rfl, rfl⟩
  rw [hdm']
  go_wp2_with fail
  refine (commands_any _).mono ?_
  rintro e w3 ⟨rfl, hb3⟩
  have hk3 := hk2.step hb3
  have hN3 := hN2.below hb3
  clear hk2 hN2 r1 hb3
  go_wp2_with fail
  refine (outward_any nb rs (atN rs id) _ htb hat hm' hN3).mono ?_
  rintro e w4 ⟨rfl, hb4⟩
  have hk4 := hk3.step hb4
  rw [hb]
  simp only [spotV]
  clear hk3 hN3 hb4 hix hb
  generalize outU rs (atN rs id) = u at *
  generalize outA rs (atN rs id) = v at *
  have hal5 : Below w4.heap.size w4 (w4.alloc (.cells #[.int .i64 u, .int .i64 v] 74)) := (Below.refl _ _).alloc (Nat.le_refl _) _
  have hk5 := hk4.step hal5
  clear hk4
  go_wp2_with fail
  refine (movingOp_any ⟨0, id, u, v, ⟨#[]⟩⟩ _).mono ?_
  rintro e w6 ⟨rfl, hb6⟩
  have hk6 := hk5.step hb6
  clear hk5 hb6 hal5
  obtain ⟨d0, d1, d2, d3, d4⟩ := hk6.box.cells
  have y0 := hk6.box.frozen 0
  have y1 := hk6.box.frozen 1
  have y2 := hk6.box.frozen 2
  have y3 := hk6.box.frozen 3
  have y4 := hk6.box.frozen 4
  have HP := Lib.hid (hk6.post (moveO id u v))
  clear hk6
  go_wp2
  exact bodyPost_ret (by simp [results, Tryd.results77, go_sem, d0, d1, d2, d3, d4, keyV, moveO]) rfl ⟨rfl, HP.out⟩
set_option maxRecDepth 100000 in
set_option maxHeartbeats 1000000 in
theorem press_out_no (B : Nat) (a : Option Addr) (cap : Nat) (rs : List RowD) (id : Int) (w : World) (hB : B ≤ w.heap.size) (h : RowsAt B w a rs) (hf : Fit rs) (ht : Tab w) (hh : hasB rs id = true) (hm : madeB id = true) (hb : madeB (upAt rs (atN rs id)) = false) :
    Calls Tryd.prog 77 #[.int .i64 1, .slice a rs.length cap, .int .i64 id] w (RetBelow (keyV (kz) false) w) := by
  have HF := Lib.hid (fnd_yes hh)
  obtain ⟨htb, hat⟩ := hasB_iff.1 hh
  have HM := Lib.hid (nodesN_tree htb)
  have hdm := dep_made htb hat
  rw [atN_id hat, hm] at hdm
  have hdm' : ((rat rs (atN rs id)).dep == 0) = false := hdm
  have hk0 := KSt.start hB h
  have hm' : madeB (rat rs (atN rs id)).id = true := by rw [atN_id hat]; exact hm
  have hix : ∀ w : World, (Instr.index 109 (.agg #[.func (.func 106) #[] #[], .func (.func 107) #[] #[], .func (.func 108) #[] #[]]) (.int .i64 1)).run Tryd.prog w = .ok (.func (.func 107) #[] #[]) w := fun _ => by kernel_rfl
  clear hdm hh
  go_enter Tryd.func77, Tryd.ntmps77
  go_wp2_with fail
  refine (treeOf_any _ _ _ _ _ (Nat.le_refl _) hk0.rows hf (ht.below hk0.b ht.pos)).mono ?_
  rintro e w1 ⟨nb, rfl, _, hN, hb1⟩
  have hk1 := hk0.step hb1
  go_wp2_with fail
  refine (find_any nb rs id w1 hN).mono ?_
  rintro e w2 ⟨rfl, hb2⟩
  rw [HF.out]
  simp only [padr]
  have hk2 := hk1.step hb2
  have hN2 : Nodes w2 nb rs (nodesN rs) := hN.below hb2
  rw [HM.out] at hN2
  have r1 : w2.cell? ⟨nb (atN rs id + 1), 1, none⟩ = some (.int .i64 (rat rs (atN rs id)).dep) := (hN2.row (show atN rs id + 1 < rs.length + 1 by omega)).2.1
  clear hk0 hk1 hb1 hb2 hN
  go_wp2_with fail
  refine (isRoot_any _ _ _ r1).mono ?_
  rintro e w' ⟨rfl, rfl⟩
  rw [hdm']
  go_wp2_with fail
  refine (commands_any _).mono ?_
  rintro e w3 ⟨rfl, hb3⟩
  have hk3 := hk2.step hb3
  have hN3 := hN2.below hb3
  clear hk2 hN2 r1 hb3
  go_wp2_with fail
  refine (outward_any nb rs (atN rs id) _ htb hat hm' hN3).mono ?_
  rintro e w4 ⟨rfl, hb4⟩
  have hk4 := hk3.step hb4
  rw [hb]
  simp only [spotV]
  clear hk3 hN3 hb4 hix hb
  generalize outU rs (atN rs id) = u at *
  generalize outA rs (atN rs id) = v at *
  have hal5 : Below w4.heap.size w4 (w4.alloc (.cells #[.int .i64 u, .int .i64 v] 74)) := (Below.refl _ _).alloc (Nat.le_refl _) _
  have hk5 := hk4.step hal5
  clear hk4
  obtain ⟨d0, d1, d2, d3, d4⟩ := hk5.box.cells
  have y0 := hk5.box.frozen 0
  have y1 := hk5.box.frozen 1
  have y2 := hk5.box.frozen 2
  have y3 := hk5.box.frozen 3
  have y4 := hk5.box.frozen 4
  have HP := Lib.hid (hk5.post (kz))
  clear hk5
  go_wp2
  exact bodyPost_ret (by simp [results, Tryd.results77, go_sem, d0, d1, d2, d3, d4, keyV, kz]) rfl ⟨rfl, HP.out⟩
set_option maxRecDepth 100000 in
set_option maxHeartbeats 1000000 in
theorem press_away_yes (B : Nat) (a : Option Addr) (cap : Nat) (rs : List RowD) (id : Int) (w : World) (hB : B ≤ w.heap.size) (h : RowsAt B w a rs) (hf : Fit rs) (ht : Tab w) (hh : hasB rs id = true) (hm : madeB id = true) (hb : undB rs id 2 = false) :
    Calls Tryd.prog 77 #[.int .i64 2, .slice a rs.length cap, .int .i64 id] w (RetBelow (keyV (moveO id 2 0) true) w) := by
  have HF := Lib.hid (fnd_yes hh)
  obtain ⟨htb, hat⟩ := hasB_iff.1 hh
  have HM := Lib.hid (nodesN_tree htb)
  have hdm := dep_made htb hat
  rw [atN_id hat, hm] at hdm
  have hdm' : ((rat rs (atN rs id)).dep == 0) = false := hdm
  have hk0 := KSt.start hB h
  have hm' : madeB (rat rs (atN rs id)).id = true := by rw [atN_id hat]; exact hm
  have hix : ∀ w : World, (Instr.index 109 (.agg #[.func (.func 106) #[] #[], .func (.func 107) #[] #[], .func (.func 108) #[] #[]]) (.int .i64 2)).run Tryd.prog w = .ok (.func (.func 108) #[] #[]) w := fun _ => by kernel_rfl
  have HW : Hid (∀ nb x, Nodes x nb rs (rs.length + 1) → Calls Tryd.prog 108 #[.pointer (some ⟨nb (atN rs id + 1), 0, none⟩)] x (RetBelow (spotV 2 0 true) x)) := by
    intro nb x hx
    have h3 := away_any nb rs (atN rs id) x htb hat hx
    rw [atN_id hat, hb] at h3
    exact h3
  clear hdm hh
  go_enter Tryd.func77, Tryd.ntmps77
  go_wp2_with fail
  refine (treeOf_any _ _ _ _ _ (Nat.le_refl _) hk0.rows hf (ht.below hk0.b ht.pos)).mono ?_
  rintro e w1 ⟨nb, rfl, _, hN, hb1⟩
  have hk1 := hk0.step hb1
  go_wp2_with fail
  refine (find_any nb rs id w1 hN).mono ?_
  rintro e w2 ⟨rfl, hb2⟩
  rw [HF.out]
  simp only [padr]
  have hk2 := hk1.step hb2
  have hN2 : Nodes w2 nb rs (nodesN rs) := hN.below hb2
  rw [HM.out] at hN2
  have r1 : w2.cell? ⟨nb (atN rs id + 1), 1, none⟩ = some (.int .i64 (rat rs (atN rs id)).dep) := (hN2.row (show atN rs id + 1 < rs.length + 1 by omega)).2.1
  clear hk0 hk1 hb1 hb2 hN
  go_wp2_with fail
  refine (isRoot_any _ _ _ r1).mono ?_
  rintro e w' ⟨rfl, rfl⟩
  rw [hdm']
  go_wp2_with fail
  refine (commands_any _).mono ?_
  rintro e w3 ⟨rfl, hb3⟩
  have hk3 := hk2.step hb3
  have hN3 := hN2.below hb3
  clear hk2 hN2 r1 hb3
  go_wp2_with fail
  refine (HW.out nb _ hN3).mono ?_
  rintro e w4 ⟨rfl, hb4⟩
  have hk4 := hk3.step hb4
  simp only [spotV]
  clear hk3 hN3 hb4 hix hb
  have hal5 : Below w4.heap.size w4 (w4.alloc (.cells #[.int .i64 2, .int .i64 0] 74)) := (Below.refl _ _).alloc (Nat.le_refl _) _
  have hk5 := hk4.step hal5
  clear hk4
  go_wp2_with fail
  refine (movingOp_any ⟨0, id, 2, 0, ⟨#[]⟩⟩ _).mono ?_
  rintro e w6 ⟨rfl, hb6⟩
  have hk6 := hk5.step hb6
  clear hk5 hb6 hal5
  obtain ⟨d0, d1, d2, d3, d4⟩ := hk6.box.cells
  have y0 := hk6.box.frozen 0
  have y1 := hk6.box.frozen 1
  have y2 := hk6.box.frozen 2
  have y3 := hk6.box.frozen 3
  have y4 := hk6.box.frozen 4
  have HP := Lib.hid (hk6.post (moveO id 2 0))
  clear hk6
  go_wp2
  exact bodyPost_ret (by simp [results, Tryd.results77, go_sem, d0, d1, d2, d3, d4, keyV, moveO]) rfl ⟨rfl, HP.out⟩
set_option maxRecDepth 100000 in
set_option maxHeartbeats 1000000 in
theorem press_away_no (B : Nat) (a : Option Addr) (cap : Nat) (rs : List RowD) (id : Int) (w : World) (hB : B ≤ w.heap.size) (h : RowsAt B w a rs) (hf : Fit rs) (ht : Tab w) (hh : hasB rs id = true) (hm : madeB id = true) (hb : undB rs id 2 = true) :
    Calls Tryd.prog 77 #[.int .i64 2, .slice a rs.length cap, .int .i64 id] w (RetBelow (keyV (kz) false) w) := by
  have HF := Lib.hid (fnd_yes hh)
  obtain ⟨htb, hat⟩ := hasB_iff.1 hh
  have HM := Lib.hid (nodesN_tree htb)
  have hdm := dep_made htb hat
  rw [atN_id hat, hm] at hdm
  have hdm' : ((rat rs (atN rs id)).dep == 0) = false := hdm
  have hk0 := KSt.start hB h
  have hm' : madeB (rat rs (atN rs id)).id = true := by rw [atN_id hat]; exact hm
  have hix : ∀ w : World, (Instr.index 109 (.agg #[.func (.func 106) #[] #[], .func (.func 107) #[] #[], .func (.func 108) #[] #[]]) (.int .i64 2)).run Tryd.prog w = .ok (.func (.func 108) #[] #[]) w := fun _ => by kernel_rfl
  have HW : Hid (∀ nb x, Nodes x nb rs (rs.length + 1) → Calls Tryd.prog 108 #[.pointer (some ⟨nb (atN rs id + 1), 0, none⟩)] x (RetBelow (spotV 0 0 false) x)) := by
    intro nb x hx
    have h3 := away_any nb rs (atN rs id) x htb hat hx
    rw [atN_id hat, hb] at h3
    exact h3
  clear hdm hh
  go_enter Tryd.func77, Tryd.ntmps77
  go_wp2_with fail
  refine (treeOf_any _ _ _ _ _ (Nat.le_refl _) hk0.rows hf (ht.below hk0.b ht.pos)).mono ?_
  rintro e w1 ⟨nb, rfl, _, hN, hb1⟩
  have hk1 := hk0.step hb1
  go_wp2_with fail
  refine (find_any nb rs id w1 hN).mono ?_
  rintro e w2 ⟨rfl, hb2⟩
  rw [HF.out]
  simp only [padr]
  have hk2 := hk1.step hb2
  have hN2 : Nodes w2 nb rs (nodesN rs) := hN.below hb2
  rw [HM.out] at hN2
  have r1 : w2.cell? ⟨nb (atN rs id + 1), 1, none⟩ = some (.int .i64 (rat rs (atN rs id)).dep) := (hN2.row (show atN rs id + 1 < rs.length + 1 by omega)).2.1
  clear hk0 hk1 hb1 hb2 hN
  go_wp2_with fail
  refine (isRoot_any _ _ _ r1).mono ?_
  rintro e w' ⟨rfl, rfl⟩
  rw [hdm']
  go_wp2_with fail
  refine (commands_any _).mono ?_
  rintro e w3 ⟨rfl, hb3⟩
  have hk3 := hk2.step hb3
  have hN3 := hN2.below hb3
  clear hk2 hN2 r1 hb3
  go_wp2_with fail
  refine (HW.out nb _ hN3).mono ?_
  rintro e w4 ⟨rfl, hb4⟩
  have hk4 := hk3.step hb4
  simp only [spotV]
  clear hk3 hN3 hb4 hix hb
  have hal5 : Below w4.heap.size w4 (w4.alloc (.cells #[.int .i64 0, .int .i64 0] 74)) := (Below.refl _ _).alloc (Nat.le_refl _) _
  have hk5 := hk4.step hal5
  clear hk4
  obtain ⟨d0, d1, d2, d3, d4⟩ := hk5.box.cells
  have y0 := hk5.box.frozen 0
  have y1 := hk5.box.frozen 1
  have y2 := hk5.box.frozen 2
  have y3 := hk5.box.frozen 3
  have y4 := hk5.box.frozen 4
  have HP := Lib.hid (hk5.post (kz))
  clear hk5
  go_wp2
  exact bodyPost_ret (by simp [results, Tryd.results77, go_sem, d0, d1, d2, d3, d4, keyV, kz]) rfl ⟨rfl, HP.out⟩
end Go.Proofs.YtlhlkbbjmbpgpaaDoor
/-
  Contracts of the program's KeyIn, KeyOut and KeyGone: they answer as the model's. Conditions: the rows lie in memory as a slice of rows; the table 'creators' holds what its initialiser lays.
-/
namespace Go.Proofs.YtlhlkbbjmbpgpaaDoor
open Go.ChangeShapes Go.WideShapes Go.ChangeAt Go.RowKit Go.Joins

theorem rootB_made {rs : List RowD} {id : Int} (h : hasB rs id = true) : rootB id = !madeB id := by
  obtain ⟨h1, h2⟩ := hasB_iff.1 h
  rw [← root_at h, dep_made h1 h2, atN_id h2]
theorem press0 (B : Nat) (a : Option Addr) (cap : Nat) (rs : List RowD) (id : Int) (w : World) (hB : B ≤ w.heap.size) (h : RowsAt B w a rs) (hf : Fit rs) (ht : Tab w) :
    Calls Tryd.prog 77 #[.int .i64 0, .slice a rs.length cap, .int .i64 id] w (RetBelow (keyV (kinO rs id) (kinB rs id)) w) := by
  cases hh : hasB rs id
  · have e1 : kinB rs id = false := by simp [kinB, ahB, hh]
    have e2 : kinO rs id = kz := by simp [kinO, e1]
    rw [e1, e2]; exact press_gone B a cap rs id w hB h hf ht 0 hh
  · have hr := rootB_made hh
    cases hm : madeB id
    · rw [hm] at hr
      have e1 : kinB rs id = false := by simp [kinB, ahB, hr]
      have e2 : kinO rs id = kz := by simp [kinO, e1]
      rw [e1, e2]; exact press_root B a cap rs id w hB h hf ht 0 hh hm
    · rw [hm] at hr
      have eB : ahB rs id = true := by simp [ahB, hh, hr]
      have eI : ahI rs id = ahAt rs (atN rs id) := by simp [ahI, eB]
      cases hb : (ahAt rs (atN rs id) != 0)
      · have e1 : kinB rs id = false := by unfold kinB; rw [eI, hb]; simp
        have e2 : kinO rs id = kz := by simp [kinO, e1]
        rw [e1, e2]; exact press_in_no B a cap rs id w hB h hf ht hh hm hb
      · have e1 : kinB rs id = true := by unfold kinB; rw [eI, hb, eB]; rfl
        have e3 : inA rs (atN rs id) = lastK rs (ahAt rs (atN rs id)) := by unfold inA; rw [if_neg (by simpa using hb)]
        have e2 : kinO rs id = moveO id (ahAt rs (atN rs id)) (inA rs (atN rs id)) := by unfold kinO; rw [e1, if_pos rfl, eI, e3]
        rw [e1, e2]; exact press_in_yes B a cap rs id w hB h hf ht hh hm hb
theorem press1 (B : Nat) (a : Option Addr) (cap : Nat) (rs : List RowD) (id : Int) (w : World) (hB : B ≤ w.heap.size) (h : RowsAt B w a rs) (hf : Fit rs) (ht : Tab w) :
    Calls Tryd.prog 77 #[.int .i64 1, .slice a rs.length cap, .int .i64 id] w (RetBelow (keyV (koutO rs id) (koutB rs id)) w) := by
  cases hh : hasB rs id
  · have e1 : koutB rs id = false := by simp [koutB, hh]
    have e2 : koutO rs id = kz := by simp [koutO, e1]
    rw [e1, e2]; exact press_gone B a cap rs id w hB h hf ht 1 hh
  · cases hm : madeB id
    · have e1 : koutB rs id = false := by simp [koutB, hm]
      have e2 : koutO rs id = kz := by simp [koutO, e1]
      rw [e1, e2]; exact press_root B a cap rs id w hB h hf ht 1 hh hm
    · obtain ⟨htb, hat⟩ := hasB_iff.1 hh
      have eI : upI rs id = upAt rs (atN rs id) := by simp [upI, hh]
      cases hb : madeB (upAt rs (atN rs id))
      · have e1 : koutB rs id = false := by unfold koutB; rw [eI, hb]; simp
        have e2 : koutO rs id = kz := by simp [koutO, e1]
        rw [e1, e2]; exact press_out_no B a cap rs id w hB h hf ht hh hm hb
      · have e1 : koutB rs id = true := by unfold koutB; rw [eI, hb, hh, hm]; rfl
        obtain ⟨u, hu, _, eu, _⟩ := par_row htb hat (made_dep htb hat (by rw [atN_id hat]; exact hm))
        have hau := (treeP_of htb).at_self (show u < rs.length by omega)
        have hh2 : hasB rs (upAt rs (atN rs id)) = true := hasB_iff.2 ⟨htb, by rw [eu, hau]; omega⟩
        have e3 : outU rs (atN rs id) = upI rs (upAt rs (atN rs id)) := by unfold outU upI; rw [hb, hh2]
        have e4 : outA rs (atN rs id) = upAt rs (atN rs id) := by unfold outA; rw [hb]; rfl
        have e2 : koutO rs id = moveO id (outU rs (atN rs id)) (outA rs (atN rs id)) := by unfold koutO; rw [e1, if_pos rfl, eI, e3, e4]
        rw [e1, e2]; exact press_out_yes B a cap rs id w hB h hf ht hh hm hb
theorem press2 (B : Nat) (a : Option Addr) (cap : Nat) (rs : List RowD) (id : Int) (w : World) (hB : B ≤ w.heap.size) (h : RowsAt B w a rs) (hf : Fit rs) (ht : Tab w) :
    Calls Tryd.prog 77 #[.int .i64 2, .slice a rs.length cap, .int .i64 id] w (RetBelow (keyV (kgoneO rs id) (kgoneB rs id)) w) := by
  cases hh : hasB rs id
  · have e1 : kgoneB rs id = false := by
      unfold kgoneB thereB
      cases g : treeB rs
      · rfl
      · have : ¬ atN rs id < rs.length := fun q => by rw [hasB_iff.2 ⟨g, q⟩] at hh; cases hh
        simp [this]
    have e2 : kgoneO rs id = kz := by simp [kgoneO, e1]
    rw [e1, e2]; exact press_gone B a cap rs id w hB h hf ht 2 hh
  · obtain ⟨htb, hat⟩ := hasB_iff.1 hh
    cases hm : madeB id
    · have e1 : kgoneB rs id = false := by simp [kgoneB, hm]
      have e2 : kgoneO rs id = kz := by simp [kgoneO, e1]
      rw [e1, e2]; exact press_root B a cap rs id w hB h hf ht 2 hh hm
    · cases hb : undB rs id 2
      · have e1 : kgoneB rs id = true := by simp [kgoneB, htb, hm, thereB, hat, hb]
        have e2 : kgoneO rs id = moveO id 2 0 := by simp [kgoneO, e1]
        rw [e1, e2]; exact press_away_yes B a cap rs id w hB h hf ht hh hm hb
      · have e1 : kgoneB rs id = false := by simp [kgoneB, hb]
        have e2 : kgoneO rs id = kz := by simp [kgoneO, e1]
        rw [e1, e2]; exact press_away_no B a cap rs id w hB h hf ht hh hm hb
set_option maxRecDepth 100000 in
theorem implKeyIn_any (B : Nat) (a : Option Addr) (cap : Nat) (rs : List RowD) (id : Int) (w : World) (hB : B ≤ w.heap.size) (h : RowsAt B w a rs) (hf : Fit rs) (ht : Tab w) :
    Calls Tryd.prog 43 #[.slice a rs.length cap, .int .i64 id] w (RetBelow (keyV (kinO rs id) (kinB rs id)) w) := by
  have hk0 := KSt.start hB h
  have HC := Lib.hid (press0 _ _ cap _ id _ (Nat.le_refl _) hk0.rows hf (ht.below hk0.b ht.pos))
  generalize kinO rs id = o at *
  generalize kinB rs id = b at *
  simp only [keyV] at HC ⊢
  go_enter Tryd.func43, Tryd.ntmps43
  go_wp2_with fail
  refine HC.out.mono ?_
  rintro e w1 ⟨rfl, hb1⟩
  have hk1 := hk0.step hb1
  obtain ⟨d0, d1, d2, d3, d4⟩ := hk1.box.cells
  have y0 := hk1.box.frozen 0
  have y1 := hk1.box.frozen 1
  have y2 := hk1.box.frozen 2
  have y3 := hk1.box.frozen 3
  have y4 := hk1.box.frozen 4
  have HP := Lib.hid (hk1.post o)
  clear hk1 hk0 hb1
  go_wp2
  exact bodyPost_ret (by simp [results, Tryd.results43, go_sem, d0, d1, d2, d3, d4]) rfl ⟨rfl, HP.out⟩
set_option maxRecDepth 100000 in
theorem implKeyOut_any (B : Nat) (a : Option Addr) (cap : Nat) (rs : List RowD) (id : Int) (w : World) (hB : B ≤ w.heap.size) (h : RowsAt B w a rs) (hf : Fit rs) (ht : Tab w) :
    Calls Tryd.prog 46 #[.slice a rs.length cap, .int .i64 id] w (RetBelow (keyV (koutO rs id) (koutB rs id)) w) := by
  have hk0 := KSt.start hB h
  have HC := Lib.hid (press1 _ _ cap _ id _ (Nat.le_refl _) hk0.rows hf (ht.below hk0.b ht.pos))
  generalize koutO rs id = o at *
  generalize koutB rs id = b at *
  simp only [keyV] at HC ⊢
  go_enter Tryd.func46, Tryd.ntmps46
  go_wp2_with fail
  refine HC.out.mono ?_
  rintro e w1 ⟨rfl, hb1⟩
  have hk1 := hk0.step hb1
  obtain ⟨d0, d1, d2, d3, d4⟩ := hk1.box.cells
  have y0 := hk1.box.frozen 0
  have y1 := hk1.box.frozen 1
  have y2 := hk1.box.frozen 2
  have y3 := hk1.box.frozen 3
  have y4 := hk1.box.frozen 4
  have HP := Lib.hid (hk1.post o)
  clear hk1 hk0 hb1
  go_wp2
  exact bodyPost_ret (by simp [results, Tryd.results46, go_sem, d0, d1, d2, d3, d4]) rfl ⟨rfl, HP.out⟩
set_option maxRecDepth 100000 in
theorem implKeyGone_any (B : Nat) (a : Option Addr) (cap : Nat) (rs : List RowD) (id : Int) (w : World) (hB : B ≤ w.heap.size) (h : RowsAt B w a rs) (hf : Fit rs) (ht : Tab w) :
    Calls Tryd.prog 50 #[.slice a rs.length cap, .int .i64 id] w (RetBelow (keyV (kgoneO rs id) (kgoneB rs id)) w) := by
  have hk0 := KSt.start hB h
  have HC := Lib.hid (press2 _ _ cap _ id _ (Nat.le_refl _) hk0.rows hf (ht.below hk0.b ht.pos))
  generalize kgoneO rs id = o at *
  generalize kgoneB rs id = b at *
  simp only [keyV] at HC ⊢
  go_enter Tryd.func50, Tryd.ntmps50
  go_wp2_with fail
  refine HC.out.mono ?_
  rintro e w1 ⟨rfl, hb1⟩
  have hk1 := hk0.step hb1
  obtain ⟨d0, d1, d2, d3, d4⟩ := hk1.box.cells
  have y0 := hk1.box.frozen 0
  have y1 := hk1.box.frozen 1
  have y2 := hk1.box.frozen 2
  have y3 := hk1.box.frozen 3
  have y4 := hk1.box.frozen 4
  have HP := Lib.hid (hk1.post o)
  clear hk1 hk0 hb1
  go_wp2
  exact bodyPost_ret (by simp [results, Tryd.results50, go_sem, d0, d1, d2, d3, d4]) rfl ⟨rfl, HP.out⟩
end Go.Proofs.YtlhlkbbjmbpgpaaDoor
