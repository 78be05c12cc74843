/-
  Contracts of the program's (*node).below and find: find gives the first descendant with a number. Conditions: the nodes lie in memory as treeOf makes them.
-/
import Derived.Test.YtefelnodahcolaaDoorWalk
namespace Go.Proofs.YtefelnodahcolaaDoor
open Go.ChangeShapes Go.WideShapes Go.ChangeAt Go.RowKit Go.Joins Go.Shelf

attribute [local go_sem] Oper.semAt_some

set_option maxHeartbeats 1000000 in
theorem below1_in (F : Fence) (hd : F.depth = none) (n : Nat) (hc : F.fn 75) (hw : F.fn 76) (hro : F.round = none) (l Bt n₀ : Nat) (nb : Nat → Nat) (rs : List RowD) (m i : Nat) (hD : Deps (dp rs) m) (hi : i < m) (J Jx : List (Fin m) → World → Prop)
    (hY : ∀ pre (x : Fin m) W, J pre W → pre.length < en (dp rs) m i - (i + 1) → YieldAt F (n - 1) Tryd.prog l #[.pointer (some ⟨nb x.1, 0, none⟩)] W fun e W' =>
      (e = .returned (.bool true) ∧ J (pre ++ [x]) W' ∧ Below n₀ W W') ∨ (e = .returned (.bool false) ∧ Jx (pre ++ [x]) W'))
    (W : World) (hBt : W.cell? ⟨Bt, 0, none⟩ = some (.pointer (some ⟨nb i, 0, none⟩))) (hN : NodesB n₀ W nb rs m) (h0 : J [] W) :
    CallsIn F n Tryd.prog 75 #[.func (.yield l) #[] #[], .pointer (some ⟨Bt, 0, none⟩)] W fun e W' => (∃ v, e = .returned v) ∧
      ((∃ ys, ys = seg m (i + 1) (en (dp rs) m i - (i + 1)) ∧ J ys W') ∨ (∃ pre, pre <+: seg m (i + 1) (en (dp rs) m i - (i + 1)) ∧ Jx pre W')) := by
  have hp := walkAll_in F hd hw hro l n₀ (en (dp rs) m i - (i + 1)) nb rs m hD J Jx (fun k pre x W hj hl => yield_any hd k (hY pre x W hj hl)) (en (dp rs) m i - i) i (n - 1) [] W hi (Nat.le_refl _) hN h0 (by simp)
  refine callsIn_of_wp Tryd.func75 rfl hc ?_ hro
  simp only [Tryd.ntmps75, List.size_toArray, List.length_cons, List.length_nil, Nat.reduceAdd, Nat.reduceSub, Array.replicate_succ, Array.replicate_zero, List.push_toArray, List.append_toArray, List.nil_append, List.cons_append]
  have HP := Lib.hid hp
  clear hp
  gi_wp2_with fail
  refine (HP.out).mono ?_
  rintro e W1 (⟨rfl, hJ1, _⟩ | ⟨rfl, q, hq, hx⟩)
  · gi_wp2
    go_end0
    exact ⟨⟨_, rfl⟩, .inl ⟨_, rfl, by simpa using hJ1⟩⟩
  · gi_wp2
    go_end0
    exact ⟨⟨_, rfl⟩, .inr ⟨q, hq, by simpa using hx⟩⟩
set_option maxHeartbeats 1000000 in
theorem below_in (F : Fence) (n : Nat) (hb : F.fn 66) (hro : F.round = none) (p0 : Option Addr) (w : World) :
    CallsIn F n Tryd.prog 66 #[.pointer p0] w fun e w' => e = .returned (.func (.func 75) #[] #[.pointer (some ⟨w.heap.size, 0, none⟩)]) ∧ w' = w.alloc (.cells #[.pointer p0] 63) := by
  refine callsIn_of_wp Tryd.func66 rfl hb ?_ hro
  simp only [Tryd.ntmps66, List.size_toArray, List.length_cons, List.length_nil, Nat.reduceAdd, Nat.reduceSub, Array.replicate_succ, Array.replicate_zero, List.push_toArray, List.append_toArray, List.nil_append, List.cons_append]
  gi_wp2
  go_ret
  exact ⟨rfl, rfl⟩
theorem below_stops (F : Fence) (hd : F.depth = none) (n : Nat) (hc : F.fn 75) (hw : F.fn 76) (hro : F.round = none) (Bt n₀ : Nat) (nb : Nat → Nat) (rs : List RowD) (m i : Nat) (hD : Deps (dp rs) m) (hi : i < m) (w : World) (hBt : Bt < w.heap.size) (hn₀ : n₀ ≤ w.heap.size)
    (hcell : w.cell? ⟨Bt, 0, none⟩ = some (.pointer (some ⟨nb i, 0, none⟩))) (hN : NodesB n₀ w nb rs m) :
    SeqStopsK F n Tryd.prog 75 #[.pointer (some ⟨Bt, 0, none⟩)] (fun x : Fin m => #[Value.pointer (some ⟨nb x.1, 0, none⟩)]) (Below n₀) (fun ys => ys = seg m (i + 1) (en (dp rs) m i - (i + 1))) (fun pre => pre <+: seg m (i + 1) (en (dp rs) m i - (i + 1))) (en (dp rs) m i - (i + 1)) w := fun l J Jx W hW _ _ hY h0 =>
  below1_in F hd n hc hw hro l Bt n₀ nb rs m i hD hi J Jx hY W ((hW.cell (p := ⟨Bt, 0, none⟩) hBt).trans hcell) (hN.below (hW.mono hn₀)) h0

/-! ### find -/
def fndO (rs : List RowD) (m : Nat) (id : Int) : Option Nat := if fstFrom (fun i => (rat rs i).id == id) (m - 1) 0 < m - 1 then some (fstFrom (fun i => (rat rs i).id == id) (m - 1) 0 + 1) else none
theorem seg_mem (m : Nat) : ∀ k s (x : Fin m), x ∈ seg m s k → s ≤ x.1 ∧ x.1 < s + k
  | 0, s, x, h => by simp [seg] at h
  | k + 1, s, x, h => by
    rw [seg, List.mem_append] at h
    rcases h with h | h
    · split at h
      · simp at h; subst h; exact ⟨Nat.le_refl _, by show s < s + (k + 1); omega⟩
      · simp at h
    · have := seg_mem m k (s + 1) x h; omega
theorem mem_seg (m : Nat) : ∀ k s (x : Fin m), s ≤ x.1 → x.1 < s + k → x ∈ seg m s k
  | 0, s, x, h1, h2 => by omega
  | k + 1, s, x, h1, h2 => by
    rw [seg, List.mem_append]
    by_cases e : x.1 = s
    · left; rw [dif_pos (by omega)]; simp; exact Fin.ext e
    · right; exact mem_seg m k (s + 1) x (by omega) (by omega)
/-- A prefix of the places from s on is again such a list. -/
theorem seg_prefix (m : Nat) (s k : Nat) (hm : s + k ≤ m) (pre : List (Fin m)) (h : pre <+: seg m s k) : pre = seg m s pre.length := by
  obtain ⟨r, hr⟩ := h
  have hl : (seg m s k).length = k := seg_len m k s hm
  have hle : pre.length ≤ k := by rw [← hl, ← hr, List.length_append]; omega
  have : seg m s k = seg m s pre.length ++ seg m (s + pre.length) (k - pre.length) := by rw [← seg_add]; congr 1; omega
  rw [this] at hr
  exact (List.append_inj hr (by rw [seg_len m _ _ (by omega)])).1
theorem fnd_none {rs : List RowD} {m : Nat} {id : Int} (h : ∀ y : Fin m, y ∈ seg m 1 (m - 1) → (nd rs y.1).id ≠ id) : fndO rs m id = none := by
  unfold fndO
  rw [if_neg]
  intro g
  have := fstFrom_yes (fun i => (rat rs i).id == id) (m - 1) 0 (by omega)
  simp only [beq_iff_eq] at this
  exact h ⟨_, show fstFrom (fun i => (rat rs i).id == id) (m - 1) 0 + 1 < m by omega⟩ (mem_seg m _ _ _ (by simp) (by simp; omega)) this
theorem fnd_some {rs : List RowD} {m : Nat} {id : Int} {pre : List (Fin m)} {x : Fin m} (hp : pre ++ [x] <+: seg m 1 (m - 1)) (hx : (nd rs x.1).id = id) (h : ∀ y, y ∈ pre → (nd rs y.1).id ≠ id) : fndO rs m id = some x.1 := by
  have hm : 1 ≤ m := by have := x.2; omega
  have e := seg_prefix m 1 (m - 1) (by omega) _ hp
  have hl : (pre ++ [x]).length = pre.length + 1 := by simp
  rw [hl, seg_add] at e
  have hle : pre.length + 1 ≤ m - 1 := by
    obtain ⟨r, hr⟩ := hp
    have := congrArg List.length hr
    rw [seg_len m _ _ (by omega)] at this
    simp at this; omega
  obtain ⟨e1, e2⟩ := List.append_inj e (by rw [seg_len m _ _ (by omega)])
  rw [seg_one m _ (by omega)] at e2
  have ex : x.1 = 1 + pre.length := by have := List.cons.inj e2 |>.1; rw [this]
  have hmem : ∀ y : Fin m, y ∈ seg m 1 pre.length → y ∈ pre := fun y hy => by rw [e1]; exact hy
  have key : fstFrom (fun i => (rat rs i).id == id) (m - 1) 0 = pre.length := by
    refine fstFrom_uniq _ _ _ _ (Nat.zero_le _) (by omega) (fun j _ hj => ?_) (fun _ => ?_)
    · have := h ⟨j + 1, by omega⟩ (hmem _ (mem_seg m _ _ _ (by simp) (by simp; omega)))
      simpa [nd] using this
    · rw [ex, show 1 + pre.length = pre.length + 1 by omega] at hx
      simpa [nd] using hx
  unfold fndO
  rw [key, if_pos (by omega), ex]
  congr 1; omega
theorem deps_one (D : Nat → Int) (h : D 0 = -1) : Deps D 1 := ⟨Nat.le_refl _, h, fun i h1 h2 => by omega, fun i h1 h2 => by omega⟩
theorem cell_box {W : World} {B : Nat} {v : Value} {t : TypeId} (h : W.heap[B]? = some (.cells #[v] t (0, 0))) : W.cell? ⟨B, 0, none⟩ = some v ∧ W.frozen? ⟨B, 0, none⟩ = false := by
  constructor <;> simp [World.cell?, World.frozen?, h]
theorem cell_newbox (W : World) (v : Value) (t : TypeId) : (W.alloc (.cells #[v] t)).cell? ⟨W.heap.size, 0, none⟩ = some v ∧ (W.alloc (.cells #[v] t)).frozen? ⟨W.heap.size, 0, none⟩ = false :=
  cell_box (World.alloc_heap_new W _)
theorem cell_onbox {W : World} {a : Addr} {v : Value} (o : Obj) (h : W.cell? a = some v) : (W.alloc o).cell? a = some v := cell_kept h (World.grownBy_alloc W o none) (fun r e => by cases e)
theorem frozen_onbox {W : World} {a : Addr} {v : Value} (o : Obj) (h : W.cell? a = some v) (hf : W.frozen? a = false) : (W.alloc o).frozen? a = false := (frozen_kept h (World.grownBy_alloc W o none) (fun r e => by cases e)).trans hf
def Found (nb : Nat → Nat) (o : Option Nat) (w : World) (e : Ending) (w' : World) : Prop := e = .returned (.pointer (padr nb o)) ∧ Below w.heap.size w w'
set_option maxRecDepth 100000 in
set_option maxHeartbeats 2000000 in
theorem find_in (F : Fence) (hd : F.depth = none) (n : Nat) (hf : F.fn 44) (hb : F.fn 66) (hc : F.fn 75) (hw : F.fn 76) (hro : F.round = none) (hn : 3 ≤ n) (nb : Nat → Nat) (rs : List RowD) (m : Nat) (id : Int) (hD : Deps (dp rs) m) (w : World) (hN : Nodes w nb rs m) :
    CallsIn F n Tryd.prog 44 #[.pointer (some ⟨nb 0, 0, none⟩), .int .i64 id] w (Found nb (fndO rs m id) w) := by
  have h1 : 1 ≤ n := by omega
  have hm := hD.pos
  have hNB : NodesB w.heap.size w nb rs m := ⟨hN, fun i hi => hN.lt hi⟩
  refine callsIn_of_wp_marks Tryd.func44 rfl hf ?_ hro
  simp only [Tryd.ntmps44, List.size_toArray, List.length_cons, List.length_nil, Nat.reduceAdd, Nat.reduceSub, Array.replicate_succ, Array.replicate_zero, List.push_toArray, List.append_toArray, List.nil_append, List.cons_append]
  gi_wp2_with (gi_at_call 66; refine (below_in F (n - 1) hb hro _ _).mono ?_; rintro e w' ⟨rfl, rfl⟩)
  have c0 := cell_newbox w (.int .i64 id) 3
  have c1 := cell_newbox (w.alloc (.cells #[.int .i64 id] 3)) (.pointer none) 63
  have c2 := cell_newbox ((w.alloc (.cells #[.int .i64 id] 3)).alloc (.cells #[.pointer none] 63)) (.pointer (some ⟨nb 0, 0, none⟩)) 63
  simp only [World.size_alloc] at c1 c2
  have hB0 : Below w.heap.size w (((w.alloc (.cells #[.int .i64 id] 3)).alloc (.cells #[.pointer none] 63)).alloc (.cells #[.pointer (some ⟨nb 0, 0, none⟩)] 63)) := (((Below.refl _ w).alloc (Nat.le_refl _) _).alloc (by simp) _).alloc (by simp; omega) _
  have hE : en (dp rs) m 0 = m := en_top hD
  have hst := below_stops F hd (n - 1) hc hw hro (w.heap.size + 1 + 1) w.heap.size nb rs m 0 hD hm _ (by simp) (by simp; omega) c2.1 (hNB.below hB0)
  rw [hE] at hst
  refine wpIn_rangeFunc_ownF hro h1 (gf := 75) (lb := #[.pointer (some ⟨w.heap.size + 1 + 1, 0, none⟩)]) rfl hc (enters_of Tryd.func75 (by kernel_rfl) rfl)
    hst belowK_t (belowK_b (by simp; omega)) (Below.refl _ _) (fun _ => rfl)
    (fun pre W => ((∀ y ∈ pre, (nd rs y.1).id ≠ id) ∧ W.cell? ⟨w.heap.size, 0, none⟩ = some (.int .i64 id) ∧ W.cell? ⟨w.heap.size + 1, 0, none⟩ = some (.pointer none) ∧ W.frozen? ⟨w.heap.size + 1, 0, none⟩ = false) ∧ Below w.heap.size w W)
    (fun c pre W => (c = .ret ∧ (∃ (q : List (Fin m)) (x : Fin m), pre = q ++ [x] ∧ (nd rs x.1).id = id ∧ (∀ y ∈ q, (nd rs y.1).id ≠ id) ∧ W.cell? ⟨w.heap.size + 1, 0, none⟩ = some (.pointer (some ⟨nb x.1, 0, none⟩)))) ∧ Below w.heap.size w W)
    (OwnFrom.and (Own.from (fun s A B row hs hg hr => ⟨hs.1, cell_kept hs.2.1 hg hr, cell_kept hs.2.2.1 hg hr, (frozen_kept hs.2.2.1 hg hr).trans hs.2.2.2⟩) _) (ownFrom_below (Nat.le_refl _) (by simp; omega)))
    (fun c => OwnFrom.and (Own.from (fun s A B row hs hg hr => ⟨hs.1, by obtain ⟨q, x, a1, a2, a3, a4⟩ := hs.2; exact ⟨q, x, a1, a2, a3, cell_kept a4 hg hr⟩⟩) _) (ownFrom_below (Nat.le_refl _) (by simp; omega)))
    ⟨⟨by simp, cell_onbox _ (cell_onbox _ c0.1), cell_onbox _ c1.1, frozen_onbox _ c1.1 c1.2⟩, hB0⟩
    (fun x => { tmps := #[.pointer (some ⟨nb 0, 0, none⟩), .int .i64 id, undef, .pointer (some ⟨w.heap.size, 0, none⟩), .pointer (some ⟨w.heap.size + 1, 0, none⟩), .pointer (some ⟨nb x.1, 0, none⟩), .pointer (some ⟨nb 0, 0, none⟩), .func (.func 75) #[] #[.pointer (some ⟨w.heap.size + 1 + 1, 0, none⟩)], .pointer (some ⟨nb x.1, 0, none⟩), undef, undef, undef, undef, undef, undef, undef, undef], defers := [] }) ?assign ?body ?done ?stop
  case assign =>
    intro l x W K hK
    gi_wp2
    exact hK
  case body =>
    rintro l pre x W ⟨⟨hp, hcw, hcr, hfr⟩, hB⟩ _
    obtain ⟨n0, n1, n2⟩ := (hNB.below hB).1.row x.2
    have hmo : Tryd.prog.follows Departure.mixedOrders = true := by kernel_rfl
    cases hx : ((nd rs x.1).id == id)
    · have HX : Hid ((nd rs x.1).id ≠ id) := by simpa [Hid] using hx
      gi_wp2
      gi_region_o
      all_goals gi_wp2
      all_goals exact ⟨KeepsOthers.drew _, (Below.refl _ _).drew, ⟨fun y hy => (List.mem_append.1 hy).elim (hp y) (fun e => by simp at e; subst e; exact HX.out), hcw, hcr, hfr⟩, hB.drew⟩
    · have HX : Hid ((nd rs x.1).id = id) := by simpa [Hid] using hx
      gi_wp2
      gi_region_o
      all_goals gi_wp2
      all_goals exact ⟨(KeepsOthers.setCell W ⟨w.heap.size + 1, 0, none⟩ _).trans (KeepsOthers.drew _), ⟨rfl, pre, x, rfl, HX.out, hp, World.cell?_setCell_same' W ⟨w.heap.size + 1, 0, none⟩ _ (by rw [hcr]; rfl)⟩, (hB.setCell (p := ⟨w.heap.size + 1, 0, none⟩) (by simp) _).drew⟩
  case done =>
    rintro D ys W hD' rfl ⟨⟨hne, _, hcr, hfr⟩, hB⟩ hK
    gi_wp2
    have hK' := (KeepsOthers.setCell W ⟨w.heap.size + 1, 0, none⟩ (.pointer none)).same D _ hK rfl
    refine ⟨by simp, .inl ⟨_, _, rfl, run_takeDeferred hK', ?_⟩⟩
    have hc5 := cell_kept (World.cell?_setCell_same' W ⟨w.heap.size + 1, 0, none⟩ (.pointer none) (by rw [hcr]; rfl)) (grownBy_putObj' _ D (.deferred none)) (fun r e => by cases e; exact ⟨_, hK', rfl⟩)
    refine ⟨.pointer none, ?_, by rw [fnd_none hne]; rfl, (hB.setCell (p := ⟨w.heap.size + 1, 0, none⟩) (by simp) _).trans (belowK_b (w := w) (Nat.le_refl _) _ D _ _ (by simp at hD'; omega) hK' rfl rfl)⟩
    simp [results, Tryd.f44, go_sem, hc5]
  case stop =>
    rintro D c pre W hD' hpre ⟨⟨rfl, q, x, rfl, hx, hq, hcr⟩, hB⟩ hK
    gi_wp2
    refine ⟨by simp, .inl ⟨_, _, rfl, run_takeDeferred hK, ?_⟩⟩
    have hc5 := cell_kept hcr (grownBy_putObj' _ D (.deferred none)) (fun r e => by cases e; exact ⟨_, hK, rfl⟩)
    refine ⟨.pointer (some ⟨nb x.1, 0, none⟩), ?_, by rw [fnd_some hpre hx hq]; rfl, hB.trans (belowK_b (w := w) (Nat.le_refl _) W D _ _ (by simp at hD'; omega) hK rfl rfl)⟩
    simp [results, Tryd.f44, go_sem, hc5]
end Go.Proofs.YtefelnodahcolaaDoor
