/-
  Joined texts, each with its own head: what it holds, and its conditions.
-/
import Derived.Test.YtgdopdhiloljoaaDoorGC
import Derived.Test.YtgdopdhiloljoaaDoorGA
import Derived.Test.YtgdopdhiloljoaaDoorGB
import Derived.Sort.LoopGhostIn
import Derived.RangeFuncBox

/-
  Contract of the program's (*node).where: the nodes under which and behind which a change puts its row. Conditions: the nodes lie in memory as treeOf makes them of a valid outline.
-/
namespace Go.Proofs.YtgdopdhiloljoaaDoor
open Go.ChangeShapes Go.WideShapes Go.ChangeAt Go.RowKit Go.Joins

theorem as_mak_mak (v : Value) (w : World) : (Instr.typeAssert (.iface 138 v) 130 138 true).run Tryd.prog w = .ok (.tuple #[v, .bool true]) w := by kernel_rfl
theorem as_wor_mak (v : Value) (w : World) : (Instr.typeAssert (.iface 140 v) 130 138 true).run Tryd.prog w = .ok (.tuple #[.agg #[.int .i64 0, .int .i64 0, .int .i64 0, .string ⟨#[]⟩], .bool false]) w := by kernel_rfl
theorem as_mov_mak (v : Value) (w : World) : (Instr.typeAssert (.iface 142 v) 130 138 true).run Tryd.prog w = .ok (.tuple #[.agg #[.int .i64 0, .int .i64 0, .int .i64 0, .string ⟨#[]⟩], .bool false]) w := by kernel_rfl
theorem as_wor_wor (v : Value) (w : World) : (Instr.typeAssert (.iface 140 v) 130 140 true).run Tryd.prog w = .ok (.tuple #[v, .bool true]) w := by kernel_rfl
theorem as_mov_wor (v : Value) (w : World) : (Instr.typeAssert (.iface 142 v) 130 140 true).run Tryd.prog w = .ok (.tuple #[.agg #[.int .i64 0, .string ⟨#[]⟩], .bool false]) w := by kernel_rfl
theorem as_wor_mov (v : Value) (w : World) : (Instr.typeAssert (.iface 140 v) 130 142 true).run Tryd.prog w = .ok (.tuple #[.agg #[.int .i64 0, .int .i64 0, .int .i64 0], .bool false]) w := by kernel_rfl
theorem as_mov_mov (v : Value) (w : World) : (Instr.typeAssert (.iface 142 v) 130 142 true).run Tryd.prog w = .ok (.tuple #[v, .bool true]) w := by kernel_rfl
end Go.Proofs.YtgdopdhiloljoaaDoor
/-
  Contracts of the model's l3Id, OpOk and OpWhere. Conditions: as each theorem says.
-/
namespace Go.Proofs.YtgdopdhiloljoaaDoor
open Go.ChangeShapes Go.WideShapes Go.ChangeAt Go.RowKit Go.Joins

/-- The fields fit Go's types. -/
structure OpFit (o : OpD) : Prop where
  id : I64 o.id
  up : I64 o.up
  at_ : I64 o.at_
  txt : o.txt.size ≤ maxLen
theorem l3Id_any (id : Int) (w : World) (hI : I64 id) :
    Calls Tryd.prog 88 #[.int .i64 id] w fun e w' => e = .returned (.bool (whoB id)) ∧ w = w' := by
  cases h1 : rootB id
  · have e : whoB id = madeB id := by simp [whoB, h1]
    rw [e]; clear e
    go_enter Tryd.func88, Tryd.ntmps88
    go_wp2_with fail
    refine (l1Root_any _ _).mono ?_
    rintro e w' ⟨rfl, rfl⟩
    rw [h1]
    go_wp2_with fail
    refine (l1Made_any _ _ hI).mono ?_
    rintro e w' ⟨rfl, rfl⟩
    go_wp2
    go_ret
    exact ⟨rfl, rfl⟩
  · have e : whoB id = true := by simp [whoB, h1]
    rw [e]; clear e
    go_enter Tryd.func88, Tryd.ntmps88
    go_wp2_with fail
    refine (l1Root_any _ _).mono ?_
    rintro e w' ⟨rfl, rfl⟩
    rw [h1]
    go_wp2
    go_ret
    exact ⟨rfl, rfl⟩
theorem textB_nil {t : ByteArray} (h : (t.toList == []) = true) : textB t = true := by
  rw [beq_iff_eq] at h
  have h2 : t = ⟨#[]⟩ := by
    have : t.data.toList = [] := by rw [← ByteArray.toList_eq]; exact h
    cases t with
    | mk d => simp at this; rw [this]
  rw [h2]; decide
set_option maxHeartbeats 1000000 in
theorem specOpOk_any (o : OpD) (w : World) (hf : OpFit o) :
    Calls Tryd.prog 60 #[.agg #[.int .i64 o.kind, .int .i64 o.id, .int .i64 o.up, .int .i64 o.at_, .string o.txt]] w (RetBelow (.bool (opokB o)) w) := by
  have hb : Below w.heap.size w (w.alloc (.cells #[.int .i64 o.kind, .int .i64 o.id, .int .i64 o.up, .int .i64 o.at_, .string o.txt] 37)) := (Below.refl _ _).alloc (Nat.le_refl _) _
  obtain ⟨f1, f2, f3, f4⟩ := hf
  cases hm : madeB o.id
  · have HF : Hid (opokB o = false) := by unfold Hid opokB; rw [hm]; simp
    rw [HF.out]
    go_enter Tryd.func60, Tryd.ntmps60
    go_wp2_with fail
    refine (l1Made_any _ _ f1).mono ?_
    rintro e w' ⟨rfl, rfl⟩
    rw [hm]
    go_wp2
    go_ret
    exact ⟨rfl, hb⟩
  · cases htx : textB o.txt
    · have HF : Hid (opokB o = false) := by
        unfold Hid opokB; rw [htx]
        have : (o.txt.toList == []) = false := by rw [Bool.eq_false_iff]; intro g; rw [textB_nil g] at htx; cases htx
        rw [this]; simp
      rw [HF.out]
      go_enter Tryd.func60, Tryd.ntmps60
      go_wp2_with fail
      refine (l1Made_any _ _ f1).mono ?_
      rintro e w' ⟨rfl, rfl⟩
      rw [hm]
      go_wp2_with fail
      refine (l1Text_any _ _ f4).mono ?_
      rintro e w' ⟨rfl, rfl⟩
      rw [htx]
      go_wp2
      go_ret
      exact ⟨rfl, hb⟩
    · by_cases k1 : o.kind = 1
      · have HF : Hid (opokB o = spotB o.up o.at_) := by unfold Hid opokB; rw [if_pos k1, hm, htx]; simp
        rw [HF.out, k1]
        clear HF
        cases hw : whoB o.up
        · have HS : Hid (spotB o.up o.at_ = false) := by unfold Hid spotB; rw [hw]; rfl
          rw [HS.out]
          go_enter Tryd.func60, Tryd.ntmps60
          go_wp2_with (first | (go_at_call 77; refine (l1Made_any _ _ f1).mono ?_; rintro e w' ⟨rfl, rfl⟩; rw [hm]) | (go_at_call 74; refine (l1Text_any _ _ f4).mono ?_; rintro e w' ⟨rfl, rfl⟩; rw [htx]) | (go_at_call 88; refine (l3Id_any _ _ f2).mono ?_; rintro e w' ⟨rfl, rfl⟩; rw [hw]))
          go_ret
          rw [k1] at hb
          exact ⟨rfl, hb⟩
        · by_cases h0 : o.at_ = 0
          · have HS : Hid (spotB o.up o.at_ = true) := by unfold Hid spotB; rw [hw, h0]; rfl
            rw [HS.out, h0]
            go_enter Tryd.func60, Tryd.ntmps60
            go_wp2_with (first | (go_at_call 77; refine (l1Made_any _ _ f1).mono ?_; rintro e w' ⟨rfl, rfl⟩; rw [hm]) | (go_at_call 74; refine (l1Text_any _ _ f4).mono ?_; rintro e w' ⟨rfl, rfl⟩; rw [htx]) | (go_at_call 88; refine (l3Id_any _ _ f2).mono ?_; rintro e w' ⟨rfl, rfl⟩; rw [hw]))
            go_ret
            rw [k1, h0] at hb
            exact ⟨rfl, hb⟩
          · have HS : Hid (spotB o.up o.at_ = madeB o.at_) := by unfold Hid spotB; rw [hw]; simp [h0]
            rw [HS.out]
            go_enter Tryd.func60, Tryd.ntmps60
            go_wp2_with fail
            refine (l1Made_any _ _ f1).mono ?_
            rintro e w' ⟨rfl, rfl⟩
            rw [hm]
            go_wp2_with fail
            refine (l1Text_any _ _ f4).mono ?_
            rintro e w' ⟨rfl, rfl⟩
            rw [htx]
            go_wp2_with fail
            refine (l3Id_any _ _ f2).mono ?_
            rintro e w' ⟨rfl, rfl⟩
            rw [hw]
            go_wp2_with fail
            refine (l1Made_any _ _ f3).mono ?_
            rintro e w' ⟨rfl, rfl⟩
            go_wp2
            go_ret
            rw [k1] at hb
            have h0b : (o.at_ == 0) = false := by simpa using h0
            exact ⟨by show Ending.returned (.bool (o.at_ == 0 || madeB o.at_)) = _; rw [h0b]; rfl, hb⟩
      · by_cases k2 : o.kind = 2
        · have HF : Hid (opokB o = ((o.up == 0) && (o.at_ == 0))) := by unfold Hid opokB; rw [if_neg k1, if_pos k2, hm, htx]; simp
          rw [HF.out, k2]
          clear HF
          cases hu : (o.up == 0)
          · go_enter Tryd.func60, Tryd.ntmps60
            go_wp2_with (first | (go_at_call 77; refine (l1Made_any _ _ f1).mono ?_; rintro e w' ⟨rfl, rfl⟩; rw [hm]) | (go_at_call 74; refine (l1Text_any _ _ f4).mono ?_; rintro e w' ⟨rfl, rfl⟩; rw [htx]))
            go_ret
            rw [k2] at hb
            exact ⟨rfl, hb⟩
          · go_enter Tryd.func60, Tryd.ntmps60
            go_wp2_with (first | (go_at_call 77; refine (l1Made_any _ _ f1).mono ?_; rintro e w' ⟨rfl, rfl⟩; rw [hm]) | (go_at_call 74; refine (l1Text_any _ _ f4).mono ?_; rintro e w' ⟨rfl, rfl⟩; rw [htx]))
            go_ret
            rw [k2] at hb
            exact ⟨rfl, hb⟩
        · by_cases k3 : o.kind = 3
          · have HF : Hid (opokB o = ((o.txt.toList == []) && spotB o.up o.at_)) := by unfold Hid opokB; rw [if_neg k1, if_neg k2, if_pos k3, hm]; simp
            rw [HF.out, k3]
            clear HF
            cases hw : whoB o.up
            · have HS : Hid (spotB o.up o.at_ = false) := by unfold Hid spotB; rw [hw]; rfl
              rw [HS.out]
              go_enter Tryd.func60, Tryd.ntmps60
              go_wp2_with (first | (go_at_call 77; refine (l1Made_any _ _ f1).mono ?_; rintro e w' ⟨rfl, rfl⟩; rw [hm]) | (go_at_call 74; refine (l1Text_any _ _ f4).mono ?_; rintro e w' ⟨rfl, rfl⟩; rw [htx]) | (go_at_call 88; refine (l3Id_any _ _ f2).mono ?_; rintro e w' ⟨rfl, rfl⟩; rw [hw]))
              go_ret
              rw [k3] at hb
              exact ⟨by simp, hb⟩
            · by_cases h0 : o.at_ = 0
              · have HS : Hid (spotB o.up o.at_ = true) := by unfold Hid spotB; rw [hw, h0]; rfl
                rw [HS.out, h0]
                go_enter Tryd.func60, Tryd.ntmps60
                go_wp2_with (first | (go_at_call 77; refine (l1Made_any _ _ f1).mono ?_; rintro e w' ⟨rfl, rfl⟩; rw [hm]) | (go_at_call 74; refine (l1Text_any _ _ f4).mono ?_; rintro e w' ⟨rfl, rfl⟩; rw [htx]) | (go_at_call 88; refine (l3Id_any _ _ f2).mono ?_; rintro e w' ⟨rfl, rfl⟩; rw [hw]))
                go_ret
                rw [k3, h0] at hb
                exact ⟨by simp, hb⟩
              · have HS : Hid (spotB o.up o.at_ = madeB o.at_) := by unfold Hid spotB; rw [hw]; simp [h0]
                rw [HS.out]
                cases hx : madeB o.at_
                · go_enter Tryd.func60, Tryd.ntmps60
                  go_wp2_with fail
                  refine (l1Made_any _ _ f1).mono ?_
                  rintro e w' ⟨rfl, rfl⟩
                  rw [hm]
                  go_wp2_with fail
                  refine (l1Text_any _ _ f4).mono ?_
                  rintro e w' ⟨rfl, rfl⟩
                  rw [htx]
                  go_wp2_with fail
                  refine (l3Id_any _ _ f2).mono ?_
                  rintro e w' ⟨rfl, rfl⟩
                  rw [hw]
                  go_wp2_with fail
                  refine (l1Made_any _ _ f3).mono ?_
                  rintro e w' ⟨rfl, rfl⟩
                  rw [hx]
                  go_wp2
                  go_ret
                  rw [k3] at hb
                  exact ⟨by simp, hb⟩
                · go_enter Tryd.func60, Tryd.ntmps60
                  go_wp2_with fail
                  refine (l1Made_any _ _ f1).mono ?_
                  rintro e w' ⟨rfl, rfl⟩
                  rw [hm]
                  go_wp2_with fail
                  refine (l1Text_any _ _ f4).mono ?_
                  rintro e w' ⟨rfl, rfl⟩
                  rw [htx]
                  go_wp2_with fail
                  refine (l3Id_any _ _ f2).mono ?_
                  rintro e w' ⟨rfl, rfl⟩
                  rw [hw]
                  go_wp2_with fail
                  refine (l1Made_any _ _ f3).mono ?_
                  rintro e w' ⟨rfl, rfl⟩
                  rw [hx]
                  go_wp2
                  go_ret
                  rw [k3] at hb
                  exact ⟨by simp, hb⟩
          · have HF : Hid (opokB o = false) := by unfold Hid opokB; rw [if_neg k1, if_neg k2, if_neg k3]
            rw [HF.out]
            go_enter Tryd.func60, Tryd.ntmps60
            go_wp2_with (first | (go_at_call 77; refine (l1Made_any _ _ f1).mono ?_; rintro e w' ⟨rfl, rfl⟩; rw [hm]) | (go_at_call 74; refine (l1Text_any _ _ f4).mono ?_; rintro e w' ⟨rfl, rfl⟩; rw [htx]))
            go_ret
            exact ⟨rfl, hb⟩
end Go.Proofs.YtgdopdhiloljoaaDoor
/-
  Contracts of OpWhere, the model's and the program's: where a change puts its row. Conditions: the rows lie in memory as a slice of rows; the table 'creators' holds what its initialiser lays.
-/
namespace Go.Proofs.YtgdopdhiloljoaaDoor
open Go.ChangeShapes Go.WideShapes Go.ChangeAt Go.RowKit Go.Joins

def owU (rs : List RowD) (o : OpD) : Int := if treeB rs && opokB o then whereU rs o else 0
def owA (rs : List RowD) (o : OpD) : Int := if treeB rs && opokB o then whereA rs o else 0
def owB (rs : List RowD) (o : OpD) : Bool := treeB rs && opokB o && !noWhereB rs o
theorem ow_no {rs : List RowD} {o : OpD} (h : (treeB rs && opokB o) = false) : owU rs o = 0 ∧ owA rs o = 0 ∧ owB rs o = false := by simp [owU, owA, owB, h]
theorem ow_yes {rs : List RowD} {o : OpD} (h : (treeB rs && opokB o) = true) : owU rs o = whereU rs o ∧ owA rs o = whereA rs o ∧ owB rs o = !noWhereB rs o := by simp [owU, owA, owB, h]
theorem opok_kind {o : OpD} (h : opokB o = true) : o.kind = 1 ∨ o.kind = 2 ∨ o.kind = 3 := by
  unfold opokB at h
  by_cases k1 : o.kind = 1
  · exact .inl k1
  · by_cases k2 : o.kind = 2
    · exact .inr (.inl k2)
    · by_cases k3 : o.kind = 3
      · exact .inr (.inr k3)
      · simp [k1, k2, k3] at h
theorem whereA_nn {rs : List RowD} {o : OpD} (ht : treeB rs = true) (h : ¬ 0 < whereA rs o) : whereA rs o = 0 := by
  unfold whereA at h ⊢
  split
  · rfl
  · rename_i hn
    rw [if_neg hn] at h
    split
    · rename_i hu
      rw [if_pos hu] at h
      unfold atOfL at h ⊢
      split
      · rename_i g
        rw [if_pos g] at h
        simp only [List.any_eq_true, Bool.and_eq_true, beq_iff_eq] at g
        obtain ⟨x, h1, h2, _⟩ := g
        have := there_pos ht (there_iff.2 (kidsL_there h1))
        omega
      · rfl
    · rfl
end Go.Proofs.YtgdopdhiloljoaaDoor
/-
  Contract of the program's (*node).cut. Conditions: as each theorem says.
-/
namespace Go.Proofs.YtgdopdhiloljoaaDoor
open Go.ChangeShapes Go.WideShapes Go.ChangeAt Go.RowKit Go.Joins

end Go.Proofs.YtgdopdhiloljoaaDoor
/-
  Contracts of the program's (*node).walk and below over any forest of nodes: the nodes are gone over in preorder, as long as each round keeps the links. Conditions: the links of the nodes lie in memory and say the forest.
-/
namespace Go.Proofs.YtgdopdhiloljoaaDoor
open Go.ChangeShapes Go.WideShapes Go.ChangeAt Go.RowKit Go.Joins Go.Shelf

attribute [local go_sem] Oper.semAt_some

def LinksAt (nb : Nat → Nat) (L : L5) (M : Nat) (w : World) : Prop := ∀ x, x < M → w.cell? ⟨nb x, 5, none⟩ = some (.pointer (padr nb (L.nx x))) ∧ w.cell? ⟨nb x, 6, none⟩ = some (.pointer (padr nb (L.fi x)))
def KeepsLinks (nb : Nat → Nat) (L : L5) (M : Nat) (W W' : World) : Prop := LinksAt nb L M W → LinksAt nb L M W'
theorem keepsLinks_t {nb : Nat → Nat} {L : L5} {M : Nat} {A B C : World} (h : KeepsLinks nb L M A B) (k : KeepsLinks nb L M B C) : KeepsLinks nb L M A C := fun g => k (h g)
theorem keepsLinks_b {nb : Nat → Nat} {L : L5} {M : Nat} (W : World) (l : Nat) (o o' : Obj) (h : W.heap[l]? = some o) (hc : o.isCells = false) : KeepsLinks nb L M W (W.putObj l o') := fun g x hx =>
  ⟨cell_kept (g x hx).1 (grownBy_putObj' W l o') (fun r e => by cases e; exact ⟨o, h, hc⟩), cell_kept (g x hx).2 (grownBy_putObj' W l o') (fun r e => by cases e; exact ⟨o, h, hc⟩)⟩
def WalkedF (S : Nat → Prop) (nb : Nat → Nat) (L : L5) (M : Nat) (J Jx : List {x : Nat // S x} → World → Prop) (pre : List {x : Nat // S x}) (nodes : List Nat) (e : Ending) (W' : World) : Prop :=
  (e = .returned (.bool true) ∧ ∃ ys : List {x : Nat // S x}, ys.map (·.1) = nodes ∧ J (pre ++ ys) W' ∧ LinksAt nb L M W') ∨ (e = .returned (.bool false) ∧ ∃ q, Jx q W')

set_option maxRecDepth 100000 in
set_option maxHeartbeats 2000000 in
theorem walkF_in (F : Fence) (hd : F.depth = none) (hw : F.fn 99) (hro : F.round = none) (l N : Nat) (nb : Nat → Nat) (L : L5) (M : Nat) (S : Nat → Prop) (hS : ∀ x, S x → x < M) (J Jx : List {x : Nat // S x} → World → Prop)
    (hY : ∀ k pre (x : {x : Nat // S x}) W, J pre W → pre.length < N → YieldAt F k Tryd.prog l #[.pointer (some ⟨nb x.1, 0, none⟩)] W fun e W' =>
      (e = .returned (.bool true) ∧ J (pre ++ [x]) W' ∧ KeepsLinks nb L M W W') ∨ (e = .returned (.bool false) ∧ Jx (pre ++ [x]) W')) (z : Nat) :
    ∀ (g : Fo) (i n : Nat) (pre : List {x : Nat // S x}) (W : World), g.nodes.length < z → i < M → g.Ok L.lk i → L.fi i = g.root → (∀ x ∈ g.nodes, S x) → LinksAt nb L M W → J pre W → pre.length + g.nodes.length ≤ N →
      CallsIn F n Tryd.prog 99 #[.pointer (some ⟨nb i, 0, none⟩), .func (.yield l) #[] #[]] W (WalkedF S nb L M J Jx pre g.nodes) := by
  induction z with
  | zero => intro g i n pre W hz; omega
  | succ z ih =>
    intro g i n pre W hz hi hok hfi hgS hL hJ hlen
    have IH := Lib.hid ih
    have HY := Lib.hid hY
    have HS := Lib.hid hS
    have HG := Lib.hid hgS
    clear ih hY hS hgS
    have hdd : ∀ k : Nat, (F.depth.isSome = true → 1 ≤ k) := fun k h => by rw [hd] at h; cases h
    have l6 := (hL i hi).2
    have HOK : Hid (g.Ok L.lk i ∧ L.fi i = g.root) := ⟨hok, hfi⟩
    have HL0 : Hid (LinksAt nb L M W) := hL
    clear hfi hok hL
    generalize L.fi i = fi0 at *
    generalize hgn : g.nodes = gn at *
    have HGN : Hid (g.nodes = gn) := hgn
    clear hgn
    refine callsIn_of_wp Tryd.func99 rfl hw ?_ hro
    simp only [Tryd.ntmps99, List.size_toArray, List.length_cons, List.length_nil, Nat.reduceAdd, Nat.reduceSub, Array.replicate_succ, Array.replicate_zero, List.push_toArray, List.append_toArray, List.nil_append, List.cons_append]
    gi_wp2
    gi_loopg [5] (gn.length) (fun k p wr => ∃ (r : Fo) (ro : Option Nat) (ys : List {x : Nat // S x}), Hid (r.nodes.length = k ∧ r.Ok L.lk i ∧ ys.map (·.1) ++ r.nodes = gn ∧ LinksAt nb L M wr ∧ ro = r.root) ∧ p = .pointer (padr nb ro) ∧ J (pre ++ ys) wr)
    case atStart => exact ⟨g, fi0, [], ⟨by rw [HGN.out], HOK.out.1, by simpa using HGN.out, HL0.out, HOK.out.2⟩, rfl, by simpa using hJ⟩
    case round =>
      obtain ⟨r, ro, ys, hh, rfl, hJr⟩ := hrel
      clear l6 HL0
      cases r with
      | nil =>
        obtain ⟨hk, _, hys, hLr, hro'⟩ := hh.out
        obtain rfl : ro = none := hro'
        have HF : Hid (WalkedF S nb L M J Jx pre gn (.returned (.bool true)) wr) := .inl ⟨rfl, ys, by simpa [Fo.nodes] using hys, hJr, hLr⟩
        clear hh hk hys hLr hJr
        simp only [padr_none]
        gi_wp2
        go_ret
        exact HF.out
      | cons x k r' =>
        obtain ⟨hk, ⟨h1, h2, h3, h4, h5⟩, hys, hLr, hro'⟩ := hh.out
        obtain rfl : ro = some x := hro'
        have hxg : x ∈ gn := by rw [← hys]; simp [Fo.nodes]
        have hkg : ∀ y ∈ k.nodes, S y := fun y hy => HG.out y (by rw [← hys]; simp [Fo.nodes, hy])
        have hxS := HG.out x hxg
        have hxM := HS.out x hxS
        have hl1 : ys.length + (1 + (k.nodes.length + r'.nodes.length)) = gn.length := by
          have := congrArg List.length hys
          simp only [List.length_append, List.length_map, Fo.nodes, List.length_cons] at this; omega
        have hl2 : k.nodes.length + r'.nodes.length + 1 = gk := by simp only [Fo.nodes, List.length_cons, List.length_append] at hk; omega
        obtain ⟨fn, tmps, assign, body, hy, hR⟩ := HY.out (n - 1) _ ⟨x, hxS⟩ wr hJr (by simp; omega)
        have HX : Hid (LinksAt nb L M wr) := hLr
        have HK : Hid (k.Ok L.lk x ∧ L.fi x = k.root ∧ L.nx x = r'.root ∧ r'.Ok L.lk i ∧ ys.map (·.1) ++ (x :: (k.nodes ++ r'.nodes)) = gn ∧ (∀ y ∈ k.nodes, S y)) := ⟨h4, h2, h3, h5, hys, hkg⟩
        have HLN : Hid (ys.length + (1 + (k.nodes.length + r'.nodes.length)) = gn.length ∧ k.nodes.length + r'.nodes.length + 1 = gk) := ⟨hl1, hl2⟩
        clear hh h1 h2 h3 h4 h5 hys hLr hxg hkg hl1 hl2 hk
        simp only [padr_some]
        dsimp only at hy
        gi_wp2
        refine hR.mono ?_
        clear hR hy
        rintro e W2 (⟨rfl, hJ2, hb2⟩ | ⟨rfl, hx2⟩)
        · have hL2 : Hid (LinksAt nb L M W2) := hb2 HX.out
          clear hb2
          gi_wp2_with fail
          refine (IH.out k x (n - 1) (pre ++ ys ++ [⟨x, hxS⟩]) W2 (by have := HLN.out; omega) hxM HK.out.1 HK.out.2.1 HK.out.2.2.2.2.2 hL2.out hJ2 (by have := HLN.out; simp only [List.length_append, List.length_cons, List.length_nil]; omega)).mono ?_
          rintro e W3 (⟨rfl, ys', hys', hJ3, hL3⟩ | ⟨rfl, q, hx3⟩)
          · have l5 := (hL3 x hxM).1
            generalize L.nx x = r1 at *
            have HN : Hid (r'.Ok L.lk i ∧ (ys ++ [(⟨x, hxS⟩ : {x : Nat // S x})] ++ ys').map (fun q => q.1) ++ r'.nodes = gn ∧ LinksAt nb L M W3 ∧ r1 = r'.root) := ⟨HK.out.2.2.2.1, by have := HK.out.2.2.2.2.1; simp only [List.map_append, List.map_cons, List.map_nil, hys']; simpa using this, hL3, HK.out.2.2.1⟩
            have hJ4 : J (pre ++ (ys ++ [⟨x, hxS⟩] ++ ys')) W3 := by simpa using hJ3
            clear hys' hJ3 hL3
            gi_wp2
            gi_roundg (r'.nodes.length)
            case measure => have := HLN.out; omega
            case rel => exact ⟨r', r1, ys ++ [⟨x, hxS⟩] ++ ys', ⟨rfl, HN.out⟩, rfl, hJ4⟩
          · gi_wp2
            go_ret
            exact .inr ⟨rfl, _, hx3⟩
        · gi_wp2
          go_ret
          exact .inr ⟨rfl, _, hx2⟩
set_option maxHeartbeats 1000000 in
theorem below1F_in (F : Fence) (hd : F.depth = none) (n : Nat) (hc : F.fn 98) (hw : F.fn 99) (hro : F.round = none) (l Bt : Nat) (nb : Nat → Nat) (L : L5) (M : Nat) (S : Nat → Prop) (hS : ∀ x, S x → x < M) (g : Fo) (i : Nat) (hi : i < M) (hok : g.Ok L.lk i) (hfi : L.fi i = g.root) (hgS : ∀ x ∈ g.nodes, S x) (J Jx : List {x : Nat // S x} → World → Prop)
    (hY : ∀ pre (x : {x : Nat // S x}) W, J pre W → pre.length < g.nodes.length → YieldAt F (n - 1) Tryd.prog l #[.pointer (some ⟨nb x.1, 0, none⟩)] W fun e W' =>
      (e = .returned (.bool true) ∧ J (pre ++ [x]) W' ∧ KeepsLinks nb L M W W') ∨ (e = .returned (.bool false) ∧ Jx (pre ++ [x]) W'))
    (W : World) (hBt : W.cell? ⟨Bt, 0, none⟩ = some (.pointer (some ⟨nb i, 0, none⟩))) (hL : LinksAt nb L M W) (h0 : J [] W) :
    CallsIn F n Tryd.prog 98 #[.func (.yield l) #[] #[], .pointer (some ⟨Bt, 0, none⟩)] W fun e W' => (∃ v, e = .returned v) ∧
      ((∃ ys, ys.map (·.1) = g.nodes ∧ J ys W') ∨ (∃ pre, True ∧ Jx pre W')) := by
  have hp := walkF_in F hd hw hro l g.nodes.length nb L M S hS J Jx (fun k pre x W hj hl => yield_any hd k (hY pre x W hj hl)) (g.nodes.length + 1) g i (n - 1) [] W (by omega) hi hok hfi hgS hL h0 (by simp)
  refine callsIn_of_wp Tryd.func98 rfl hc ?_ hro
  simp only [Tryd.ntmps98, List.size_toArray, List.length_cons, List.length_nil, Nat.reduceAdd, Nat.reduceSub, Array.replicate_succ, Array.replicate_zero, List.push_toArray, List.append_toArray, List.nil_append, List.cons_append]
  have HP := Lib.hid hp
  have HH : Hid (LinksAt nb L M W ∧ g.Ok L.lk i ∧ L.fi i = g.root) := ⟨hL, hok, hfi⟩
  clear hp hL hok hfi
  gi_wp2_with fail
  refine (HP.out).mono ?_
  rintro e W1 (⟨rfl, ys, hys, hJ1, _⟩ | ⟨rfl, q, hx⟩)
  · gi_wp2
    go_end0
    exact ⟨⟨_, rfl⟩, .inl ⟨ys, hys, by simpa using hJ1⟩⟩
  · gi_wp2
    go_end0
    exact ⟨⟨_, rfl⟩, .inr ⟨q, trivial, hx⟩⟩
theorem belowF_stops (F : Fence) (hd : F.depth = none) (n : Nat) (hc : F.fn 98) (hw : F.fn 99) (hro : F.round = none) (Bt : Nat) (nb : Nat → Nat) (L : L5) (M : Nat) (S : Nat → Prop) (hS : ∀ x, S x → x < M) (g : Fo) (i : Nat) (hi : i < M) (hok : g.Ok L.lk i) (hfi : L.fi i = g.root) (hgS : ∀ x ∈ g.nodes, S x) (w : World) (hBt : Bt < w.heap.size) (hnb : ∀ x, x < M → nb x < w.heap.size)
    (hcell : w.cell? ⟨Bt, 0, none⟩ = some (.pointer (some ⟨nb i, 0, none⟩))) (hL : LinksAt nb L M w) :
    SeqStopsK F n Tryd.prog 98 #[.pointer (some ⟨Bt, 0, none⟩)] (fun x : {x : Nat // S x} => #[Value.pointer (some ⟨nb x.1, 0, none⟩)]) (KeepsLinks nb L M) (fun ys => ys.map (·.1) = g.nodes) (fun _ => True) g.nodes.length w := fun l J Jx W hW _ _ hY h0 =>
  below1F_in F hd n hc hw hro l Bt nb L M S hS g i hi hok hfi hgS J Jx hY W ((hW.cell (p := ⟨Bt, 0, none⟩) hBt).trans hcell) (fun x hx => ⟨(hW.cell (p := ⟨nb x, 5, none⟩) (hnb x hx)).trans (hL x hx).1, (hW.cell (p := ⟨nb x, 6, none⟩) (hnb x hx)).trans (hL x hx).2⟩) h0
end Go.Proofs.YtgdopdhiloljoaaDoor
/-
  Contract of the program's (*node).rows: the rows of a forest of nodes in preorder, with the depths of their places. Conditions: the nodes lie in memory with links that say the forest.
-/
namespace Go.Proofs.YtgdopdhiloljoaaDoor
open Go.ChangeShapes Go.WideShapes Go.ChangeAt Go.RowKit Go.Joins Go.Shelf

attribute [local go_sem] Oper.semAt_some

theorem grownBy_set (W : World) (b o : Nat) (v : Value) : W.grownBy (W.setCell ⟨b, o, none⟩ v) (some b) :=
  ⟨rfl, rfl, rfl, (KeepsWalks.setCell W _ v).size, fun k _ hk => Below.heap_setCell _ _ _ k (fun e => hk (by rw [e]))⟩
theorem Lk.kept {W W' : World} {nb : Nat → Nat} {R : Nat → RowD} {L : L5} {M : Nat} {row : Option Nat} (h : Lk W nb R L M) (hg : W.grownBy W' row) (hr : ∀ r, row = some r → ∃ o : Obj, W.heap[r]? = some o ∧ o.isCells = false) : Lk W' nb R L M :=
  ⟨fun x hx => (hg.block (nb x) (h.lt hx) (fun e => by
    obtain ⟨o, ho, hc⟩ := hr (nb x) e.symm
    rw [h.blk x hx] at ho; cases ho; cases hc)).trans (h.blk x hx), h.inj⟩
theorem Lk.at_links {W : World} {nb : Nat → Nat} {R : Nat → RowD} {L : L5} {M : Nat} (h : Lk W nb R L M) : LinksAt nb L M W := fun _ hx => ⟨(h.links hx).2.2.1, (h.links hx).2.2.2.1⟩
theorem Lk.set1 {w : World} {nb : Nat → Nat} {R : Nat → RowD} {L : L5} {M : Nat} (h : Lk w nb R L M) {x : Nat} (hx : x < M) (d : Int) : Lk (w.setCell ⟨nb x, 1, none⟩ (.int .i64 d)) nb (fun y => if y = x then ⟨(R x).id, d, (R x).txt⟩ else R y) L M :=
  lk_set h hx (fun y hy => by simp [lkArr, hy]) (by simp [lkArr])
theorem Lk.set2 {w : World} {nb : Nat → Nat} {R : Nat → RowD} {L : L5} {M : Nat} (h : Lk w nb R L M) {x : Nat} (hx : x < M) (t : ByteArray) : Lk (w.setCell ⟨nb x, 2, none⟩ (.string t)) nb (fun y => if y = x then ⟨(R x).id, (R x).dep, t⟩ else R y) L M :=
  lk_set h hx (fun y hy => by simp [lkArr, hy]) (by simp [lkArr])
theorem boxed_set {W : World} {B b o : Nat} {t : TypeId} {v : Value} (h : Boxed W B t v) (hne : B ≠ b) (u : Value) : Boxed (W.setCell ⟨b, o, none⟩ u) B t v := h.kept (grownBy_set W b o u) (fun e => hne (by cases e; rfl))
/-- What is said of the rounds of rows. -/
def RowsI (S : Nat → Prop) (nb : Nat → Nat) (R : Nat → RowD) (L : L5) (M n₀ Bx : Nat) (w : World) (pre : List {x : Nat // S x}) (W : World) : Prop :=
  (Lk W nb (visitL L R (pre.map (·.1))).1 L M ∧ ∃ v, Boxed W Bx 23 v ∧ W.ownsRow w.heap.size 29 3 v (pre.map (·.1)).length (cellsL (visitL L R (pre.map (·.1))).2) ∧ True) ∧ Below n₀ w W
theorem rowsI_own (S : Nat → Prop) (nb : Nat → Nat) (R : Nat → RowD) (L : L5) (M n₀ Bx B : Nat) (w : World) (hn : n₀ ≤ w.heap.size) (hB : n₀ ≤ B) : OwnFrom B (RowsI S nb R L M n₀ Bx w) :=
  OwnFrom.and (Own.from (fun s A C row hs hg hr => ⟨hs.1.kept hg hr, holdsRow_own w.heap.size Bx 23 29 3 (fun s : List {x : Nat // S x} => (s.map (·.1)).length) (fun s => cellsL (visitL L R (s.map (·.1))).2) (fun _ _ => True) s A C row hs.2 hg hr⟩) B) (ownFrom_below hn hB)
/-- append onto a row of the call's own, as one step of a region that draws its order, inside a fence. -/
theorem stepIn_append_own {F : Fence} {n : Nat} {P : Program} {ops : Array Oper} {o : Oper} {a : Act} {w : World} {K : Act → World → Prop} {Q : Exit → Act → World → Prop} {E : Prop}
    (hg : o.guard = none) (s x : Operand) (t : TypeId) (hop : o.op = Op.call { callee := Callee.builtin Builtin.append, args := #[s, x], argTypes := #[t, t] })
    (base : Nat) (e : TypeId) (i : TypeInfo) (z : Value) (size bytes : Nat) (h1 : P.underlying t = some (.slice e)) (h2 : P.info? e = some i) (h3 : i.zero = some z) (h4 : i.size = size) (h5 : i.bytes = bytes) (h6 : z.cells.size = size) (h7 : 0 < size)
    (v : Value) (k : Nat) (xs : List Value) (hs : a.eval s = v) (hown : w.ownsRow base e size v k xs) (ad : Addr) (m c : Nat) (news : List Value) (hx : a.eval x = .slice (some ad) m c) (hn : news.length = m * size)
    (hc : ∀ j u, news[j]? = some u → w.cell? (ad.add j) = some u) (h1c : ∀ u ∈ news, u.oneCell' = true) (b1 : k + m ≤ maxLen) (b2 : (k + m) * bytes ≤ 140737488355328) (b3 : base ≤ w.heap.size)
    (hK : ∀ v' w', w'.ownsRow base e size v' (k + m) (xs ++ news) → w.grownBy w' v.ownBlock → K (a.put o.dst v') w') :
    if Region.wanted o (yielded ops a.tmps) = true then Oper.wpIn F n P o a w K Q else E := by
  have hw : Region.wanted o (yielded ops a.tmps) = true := by simp [Region.wanted, hg]
  rw [if_pos hw]
  obtain ⟨v', w', hrun, r1, r2, r3⟩ := run_append_own (P := P) w base t o.type e i z size bytes h1 h2 h3 h4 h5 h6 h7 v k xs hown ad m c news hn hc h1c b1 b2 b3
  unfold Oper.wpIn
  refine ⟨?_, ?_⟩
  · simp [Oper.about, hop, resolve, Target.leads, Sem.run_pure]
  · rw [Oper.semAt_plain F _ _ (by rw [hop]; intro c hc'; cases hc')]
    simp [execOp, hop, resolve, invoke, builtin, hs, hx, hrun, Result.andThen]
    exact hK v' w' r1 r2
theorem visit_at (L : L5) (R : Nat → RowD) (xs : List Nat) (x : Nat) : (visit L (visitL L R xs) x).2 = (visitL L R xs).2 ++ [stepV L (visitL L R xs).1 x x] := rfl
theorem lk_visit {W : World} {nb : Nat → Nat} {R' : Nat → RowD} {L : L5} {M x q : Nat} (h : Lk W nb R' L M) (hx : x < M) (hq : L.up x = some q) : Lk (W.setCell ⟨nb x, 1, none⟩ (.int .i64 ((R' q).dep + 1))) nb (stepV L R' x) L M := by
  have hu : upN L x = q := by simp [upN, hq]
  have e : stepV L R' x = fun y => if y = x then ⟨(R' x).id, (R' q).dep + 1, (R' x).txt⟩ else R' y := by unfold stepV; rw [hu]
  rw [e]
  exact h.set1 hx _
/-- Rows of the call's own; below block n₀ nothing has turned. -/
def RetOwnB (n₀ : Nat) (rs : List RowD) (w : World) (e : Ending) (w' : World) : Prop :=
  ∃ a cap, e = .returned (.slice a rs.length cap) ∧ w'.ownsRow w.heap.size 29 3 (.slice a rs.length cap) rs.length (cellsL rs) ∧ rs.length ≤ cap ∧ Below n₀ w w'
theorem nd_dep {rs : List RowD} (ht : treeB rs = true) (y : Nat) : -1 ≤ (nd rs y).dep ∧ (nd rs y).dep ≤ 1000 := by
  cases y with
  | zero => exact ⟨show (-1 : Int) ≤ -1 by decide, show (-1 : Int) ≤ 1000 by decide⟩
  | succ i =>
    show -1 ≤ (rat rs i).dep ∧ (rat rs i).dep ≤ 1000
    rcases Nat.lt_or_ge i rs.length with h | h
    · have := rok_dep ((treeP_of ht).rok i h); omega
    · have : rat rs i = rz := by unfold rat; rw [List.getD_eq_getElem?_getD, List.getElem?_eq_none h]; rfl
      rw [this]; exact ⟨by decide, by decide⟩
end Go.Proofs.YtgdopdhiloljoaaDoor
/-
  Plain mathematics and memory: the nodes of an outline in memory with a new one beside them; bounds of links; how many rows an outline has. Conditions: as each theorem says.
-/
namespace Go.Proofs.YtgdopdhiloljoaaDoor
open Go.ChangeShapes Go.WideShapes Go.ChangeAt Go.RowKit Go.Joins

theorem pigeon : ∀ (n len : Nat) (f : Nat → Nat), (∀ i, i < len → f i < n) → (∀ i j, i < j → j < len → f i ≠ f j) → len ≤ n
  | 0, len, f, h1, h2 => by
    rcases Nat.eq_zero_or_pos len with h | h
    · omega
    · have := h1 0 h; omega
  | n + 1, len, f, h1, h2 => by
    by_cases hx : ∃ i, i < len ∧ f i = n
    · obtain ⟨i0, hi0, e0⟩ := hx
      have := pigeon n (len - 1) (fun i => if i < i0 then f i else f (i + 1)) (fun i hi => by
        split
        · have a := h1 i (by omega)
          have b := h2 i i0 (by assumption) hi0
          omega
        · have a := h1 (i + 1) (by omega)
          have b := h2 i0 (i + 1) (by omega) (by omega)
          omega) (fun i j hij hj => by
        split <;> split
        · exact h2 i j hij (by omega)
        · exact h2 i (j + 1) (by omega) (by omega)
        · omega
        · exact h2 (i + 1) (j + 1) (by omega) (by omega))
      omega
    · have := pigeon n len f (fun i hi => by
        have a := h1 i hi
        have b : f i ≠ n := fun e => hx ⟨i, hi, e⟩
        omega) h2
      omega
theorem tree_len {rs : List RowD} (ht : treeB rs = true) : rs.length ≤ 37 := by
  have hT := treeP_of ht
  refine pigeon 37 rs.length (fun i => (rat rs i).id.toNat) (fun i hi => ?_) (fun i j hij hj => ?_)
  · have := rok_id (hT.rok i hi)
    omega
  · have a := rok_id (hT.rok i (by omega))
    have b := rok_id (hT.rok j hj)
    have c := hT.fresh j i hij hj
    omega
/-! ### a new node beside those of an outline -/
theorem lk_make {w w' : World} {nb : Nat → Nat} {rs : List RowD} {g : Nat} {o : OpD} (hD : Deps (dp rs) (rs.length + 1)) (h : Nodes w nb rs (rs.length + 1)) (hb : Below w.heap.size w w') (hg : w.heap.size ≤ g)
    (hnew : w'.heap[g]? = some (.cells #[.int .i64 o.id, .int .i64 0, .string o.txt, .pointer none, .pointer none, .pointer none, .pointer none, .pointer none] 71 (0, 0))) :
    Lk w' (fun j => if j = rs.length + 1 then g else nb j) (mkR rs o) (newL (l5D rs (rs.length + 1)) (rs.length + 1)) (rs.length + 2) := by
  have old : ∀ q : Option Nat, (∀ j, q = some j → j < rs.length + 1) → padr (fun j => if j = rs.length + 1 then g else nb j) q = padr nb q := fun q hq =>
    padr_congr fun j hj => if_neg (by have := hq j hj; omega)
  refine ⟨fun x hx => ?_, fun i j hi hj e => ?_⟩
  · by_cases ex : x = rs.length + 1
    · subst ex
      rw [if_pos rfl, hnew]
      simp [lkArr, newL, upd, padr, mkR]
    · have hxm : x < rs.length + 1 := by omega
      rw [if_neg ex, hb.block _ (h.lt hxm), h.blk x hxm]
      have e1 : padr (fun j => if j = rs.length + 1 then g else nb j) (upO rs x) = padr nb (upO rs x) := by
        refine old _ fun j hj => ?_
        unfold upO at hj; split at hj
        · cases hj
        · cases hj; have := (par_spec hD (show 1 ≤ x by omega) (by omega)).1; omega
      have e2 : padr (fun j => if j = rs.length + 1 then g else nb j) (ahO rs x) = padr nb (ahO rs x) := by
        refine old _ fun j hj => ?_
        unfold ahO at hj; split at hj
        · cases hj
        · have := (lstBelow_some _ _ _ hj).1; omega
      have e3 : padr (fun j => if j = rs.length + 1 then g else nb j) (nxO rs (rs.length + 1) x) = padr nb (nxO rs (rs.length + 1) x) := by
        refine old _ fun j hj => ?_
        unfold nxO at hj; split at hj
        · cases hj
        · exact (fstBelow_some _ _ _ hj).1
      have e4 : padr (fun j => if j = rs.length + 1 then g else nb j) (fi (dp rs) (rs.length + 1) x) = padr nb (fi (dp rs) (rs.length + 1) x) := old _ fun j hj => (fstBelow_some _ _ _ hj).1
      have e5 : padr (fun j => if j = rs.length + 1 then g else nb j) (la (dp rs) (rs.length + 1) x) = padr nb (la (dp rs) (rs.length + 1) x) := old _ fun j hj => (lstBelow_some _ _ _ hj).1
      simp only [lkArr, nodeArr, newL, l5D, mkR, if_neg ex, upd_ne ex, e1, e2, e3, e4, e5]
  · have hlt : ∀ i, i < rs.length + 1 → nb i < g := fun i hi => Nat.lt_of_lt_of_le (h.lt hi) hg
    by_cases ei : i = rs.length + 1 <;> by_cases ej : j = rs.length + 1
    · omega
    · rw [if_pos ei, if_neg ej] at e
      have := hlt j (by omega); omega
    · rw [if_neg ei, if_pos ej] at e
      have := hlt i (by omega); omega
    · rw [if_neg ei, if_neg ej] at e
      exact h.lk.inj i j (by omega) (by omega) e
/-! ### bounds of links -/
theorem l5D_fi_lt {rs : List RowD} {m x y : Nat} (h : (l5D rs m).fi x = some y) : y < m := (fstBelow_some _ _ _ h).1
theorem l5D_nx_lt {rs : List RowD} {m x y : Nat} (h : (l5D rs m).nx x = some y) : y < m := by
  have h' : nxO rs m x = some y := h
  unfold nxO at h'; split at h'
  · cases h'
  · exact (fstBelow_some _ _ _ h').1
theorem l5D_ah_lt {rs : List RowD} {m x y : Nat} (hx : x < m) (h : (l5D rs m).ah x = some y) : y < m := by
  have h' : ahO rs x = some y := h
  unfold ahO at h'; split at h'
  · cases h'
  · have := (lstBelow_some _ _ _ h').1; omega
theorem l5D_up {rs : List RowD} {m x : Nat} (hx : 1 ≤ x) : (l5D rs m).up x = some (par (dp rs) x) := by
  show upO rs x = _
  unfold upO; rw [if_neg (by omega)]
theorem cut5_fi_lt {rs : List RowD} {m n x y : Nat} (hD : Deps (dp rs) m) (hn : 1 ≤ n) (hm : n < m) (h : (cut5 (l5D rs m) n (par (dp rs) n)).fi x = some y) : y < m := by
  rw [(cut_links hD hn hm x).2.1] at h
  have h' : (if fi (dp rs) m x = some n then (linksD (dp rs) m).nx n else fi (dp rs) m x) = some y := h
  split at h'
  · exact l5D_nx_lt (rs := rs) (x := n) h'
  · exact (fstBelow_some _ _ _ h').1
theorem cut5_nx_lt {rs : List RowD} {m n x y : Nat} (hD : Deps (dp rs) m) (hn : 1 ≤ n) (hm : n < m) (hx : x ≠ n) (h : (cut5 (l5D rs m) n (par (dp rs) n)).nx x = some y) : y < m := by
  rw [(cut_links hD hn hm x).2.2 hx] at h
  have h' : (if (linksD (dp rs) m).nx x = some n then (linksD (dp rs) m).nx n else (linksD (dp rs) m).nx x) = some y := h
  split at h'
  · exact l5D_nx_lt (rs := rs) (x := n) h'
  · exact l5D_nx_lt (rs := rs) (x := x) h'
theorem whA_lt {rs : List RowD} {o : OpD} (ht : treeB rs = true) (hn : noWhereB rs o = false) {y : Nat} (h : whA rs o = some y) : y < rs.length + 1 ∧ y = atN rs (whereA rs o) + 1 ∧ 0 < whereA rs o := by
  unfold whA at h
  rw [hn] at h
  simp only [Bool.false_eq_true, if_false] at h
  split at h
  · rename_i hp
    cases h
    have := there_iff.1 (whereA_up ht hn hp).1
    exact ⟨by omega, rfl, hp⟩
  · cases h
theorem whA_ne {rs : List RowD} {o : OpD} (ht : treeB rs = true) (hk : o.kind = 3) (hn : noWhereB rs o = false) : whA rs o ≠ some (atN rs o.id + 1) := by
  intro h
  obtain ⟨_, e, hp⟩ := whA_lt ht hn h
  obtain ⟨g1, g2, g3, g4, g5⟩ := whereA_up ht hn hp
  have hid : thereB rs o.id = true := by
    have hno := noWhere3 (rs := rs) hk
    rw [hn] at hno
    cases h : thereB rs o.id <;> simp [h] at hno ⊢
  have := at_inj hid g1 (by omega)
  rw [g4] at this
  exact g5 this.symm
theorem whA_next {rs : List RowD} {o : OpD} (ht : treeB rs = true) (hn : noWhereB rs o = false) : ∀ y, nextOf (newL (l5D rs (rs.length + 1)) (rs.length + 1)) (atN rs (whereU rs o) + 1) (whA rs o) = some y → y < rs.length + 2 := by
  intro y hy
  have hq := whU_mem ht hn
  cases ha : whA rs o with
  | none =>
    rw [ha] at hy
    have hy' : upd (l5D rs (rs.length + 1)).fi (rs.length + 1) none (atN rs (whereU rs o) + 1) = some y := hy
    rw [upd_ne (by omega)] at hy'
    have := l5D_fi_lt hy'; omega
  | some a0 =>
    rw [ha] at hy
    have hy' : upd (l5D rs (rs.length + 1)).nx (rs.length + 1) none a0 = some y := hy
    have := (whA_lt ht hn ha).1
    rw [upd_ne (by omega)] at hy'
    have := l5D_nx_lt hy'; omega
theorem whA_next3 {rs : List RowD} {o : OpD} (ht : treeB rs = true) (hk : o.kind = 3) (hn : noWhereB rs o = false) (hid : thereB rs o.id = true) : ∀ y, nextOf (cut5 (l5D rs (rs.length + 1)) (atN rs o.id + 1) (par (dp rs) (atN rs o.id + 1))) (atN rs (whereU rs o) + 1) (whA rs o) = some y → y < rs.length + 1 := by
  intro y hy
  have hD := (treeP_of ht).deps
  have hil := there_iff.1 hid
  cases ha : whA rs o with
  | none =>
    rw [ha] at hy
    exact cut5_fi_lt hD (by omega) (by omega) hy
  | some a0 =>
    rw [ha] at hy
    refine cut5_nx_lt hD (by omega) (by omega) (fun e => ?_) hy
    exact whA_ne ht hk hn (by rw [ha, e])
end Go.Proofs.YtgdopdhiloljoaaDoor
/-
  Contract of the program's OpDo: the outline after a change. Conditions: the rows lie in memory as a slice of rows; the table 'creators' holds what its initialiser lays.
-/
namespace Go.Proofs.YtgdopdhiloljoaaDoor
open Go.ChangeShapes Go.WideShapes Go.ChangeAt Go.RowKit Go.Joins

theorem own_low {w : World} {base base' : Nat} {e : TypeId} {size : Nat} {v : Value} {n : Nat} {xs : List Value} (h : w.ownsRow base e size v n xs) (hb : base' ≤ base) : w.ownsRow base' e size v n xs := own_mono h hb
/-- The outline after a change, for every argument. -/
def doT (rs : List RowD) (o : OpD) : List RowD := if treeB rs && opokB o then doR rs o else []
theorem own_nil (w : World) (base : Nat) : w.ownsRow base 29 3 (.slice none 0 0) 0 (cellsL []) := World.ownsRow_nil _ _ _ _
end Go.Proofs.YtgdopdhiloljoaaDoor
