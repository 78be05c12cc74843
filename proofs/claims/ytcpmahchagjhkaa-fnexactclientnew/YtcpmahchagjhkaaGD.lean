/-
  Joined texts, each with its own head: what it holds, and its conditions.
-/
import Derived.Test.YtcpmahchagjhkaaGC
import Derived.Test.YtcpmahchagjhkaaGA
import Derived.Test.YtcpmahchagjhkaaGB
import Derived.Sort.LoopGhostIn
import Derived.RangeFuncBox

/-
  Contract of the program's (*node).where: the nodes under which and behind which a change puts its row. Conditions: the nodes lie in memory as treeOf makes them of a valid outline.
-/
namespace Go.Proofs.Ytcpmahchagjhkaa
open Go.ChangeShapes Go.WideShapes Go.ChangeAt Go.RowKit Go.Joins

end Go.Proofs.Ytcpmahchagjhkaa
/-
  Contracts of the model's l3Id, OpOk and OpWhere. Conditions: as each theorem says.
-/
namespace Go.Proofs.Ytcpmahchagjhkaa
open Go.ChangeShapes Go.WideShapes Go.ChangeAt Go.RowKit Go.Joins

/-- The fields fit Go's types. -/
structure OpFit (o : OpD) : Prop where
  id : I64 o.id
  up : I64 o.up
  at_ : I64 o.at_
  txt : o.txt.size ≤ maxLen
theorem textB_nil {t : ByteArray} (h : (t.toList == []) = true) : textB t = true := by
  rw [beq_iff_eq] at h
  have h2 : t = ⟨#[]⟩ := by
    have : t.data.toList = [] := by rw [← ByteArray.toList_eq]; exact h
    cases t with
    | mk d => simp at this; rw [this]
  rw [h2]; decide
end Go.Proofs.Ytcpmahchagjhkaa
/-
  Contracts of OpWhere, the model's and the program's: where a change puts its row. Conditions: the rows lie in memory as a slice of rows; the table 'creators' holds what its initialiser lays.
-/
namespace Go.Proofs.Ytcpmahchagjhkaa
open Go.ChangeShapes Go.WideShapes Go.ChangeAt Go.RowKit Go.Joins

def owU (rs : List RowD) (o : OpD) : Int := if treeB rs && opokB o then whereU rs o else 0
def owA (rs : List RowD) (o : OpD) : Int := if treeB rs && opokB o then whereA rs o else 0
def owB (rs : List RowD) (o : OpD) : Bool := treeB rs && opokB o && !noWhereB rs o
theorem ow_no {rs : List RowD} {o : OpD} (h : (treeB rs && opokB o) = false) : owU rs o = 0 ∧ owA rs o = 0 ∧ owB rs o = false := by simp [owU, owA, owB, h]
theorem ow_yes {rs : List RowD} {o : OpD} (h : (treeB rs && opokB o) = true) : owU rs o = whereU rs o ∧ owA rs o = whereA rs o ∧ owB rs o = !noWhereB rs o := by simp [owU, owA, owB, h]
theorem opok_kind {o : OpD} (h : opokB o = true) : o.kind = 1 ∨ o.kind = 2 ∨ o.kind = 3 := by
  unfold opokB at h
  by_cases k1 : o.kind = 1
  · exact .inl k1
  · by_cases k2 : o.kind = 2
    · exact .inr (.inl k2)
    · by_cases k3 : o.kind = 3
      · exact .inr (.inr k3)
      · simp [k1, k2, k3] at h
theorem whereA_nn {rs : List RowD} {o : OpD} (ht : treeB rs = true) (h : ¬ 0 < whereA rs o) : whereA rs o = 0 := by
  unfold whereA at h ⊢
  split
  · rfl
  · rename_i hn
    rw [if_neg hn] at h
    split
    · rename_i hu
      rw [if_pos hu] at h
      unfold atOfL at h ⊢
      split
      · rename_i g
        rw [if_pos g] at h
        simp only [List.any_eq_true, Bool.and_eq_true, beq_iff_eq] at g
        obtain ⟨x, h1, h2, _⟩ := g
        have := there_pos ht (there_iff.2 (kidsL_there h1))
        omega
      · rfl
    · rfl
end Go.Proofs.Ytcpmahchagjhkaa
/-
  Contract of the program's (*node).cut. Conditions: as each theorem says.
-/
namespace Go.Proofs.Ytcpmahchagjhkaa
open Go.ChangeShapes Go.WideShapes Go.ChangeAt Go.RowKit Go.Joins

end Go.Proofs.Ytcpmahchagjhkaa
/-
  Contracts of the program's (*node).walk and below over any forest of nodes: the nodes are gone over in preorder, as long as each round keeps the links. Conditions: the links of the nodes lie in memory and say the forest.
-/
namespace Go.Proofs.Ytcpmahchagjhkaa
open Go.ChangeShapes Go.WideShapes Go.ChangeAt Go.RowKit Go.Joins Go.Shelf

attribute [local go_sem] Oper.semAt_some

def LinksAt (nb : Nat → Nat) (L : L5) (M : Nat) (w : World) : Prop := ∀ x, x < M → w.cell? ⟨nb x, 5, none⟩ = some (.pointer (padr nb (L.nx x))) ∧ w.cell? ⟨nb x, 6, none⟩ = some (.pointer (padr nb (L.fi x)))
def KeepsLinks (nb : Nat → Nat) (L : L5) (M : Nat) (W W' : World) : Prop := LinksAt nb L M W → LinksAt nb L M W'
theorem keepsLinks_t {nb : Nat → Nat} {L : L5} {M : Nat} {A B C : World} (h : KeepsLinks nb L M A B) (k : KeepsLinks nb L M B C) : KeepsLinks nb L M A C := fun g => k (h g)
theorem keepsLinks_b {nb : Nat → Nat} {L : L5} {M : Nat} (W : World) (l : Nat) (o o' : Obj) (h : W.heap[l]? = some o) (hc : o.isCells = false) : KeepsLinks nb L M W (W.putObj l o') := fun g x hx =>
  ⟨cell_kept (g x hx).1 (grownBy_putObj' W l o') (fun r e => by cases e; exact ⟨o, h, hc⟩), cell_kept (g x hx).2 (grownBy_putObj' W l o') (fun r e => by cases e; exact ⟨o, h, hc⟩)⟩
def WalkedF (S : Nat → Prop) (nb : Nat → Nat) (L : L5) (M : Nat) (J Jx : List {x : Nat // S x} → World → Prop) (pre : List {x : Nat // S x}) (nodes : List Nat) (e : Ending) (W' : World) : Prop :=
  (e = .returned (.bool true) ∧ ∃ ys : List {x : Nat // S x}, ys.map (·.1) = nodes ∧ J (pre ++ ys) W' ∧ LinksAt nb L M W') ∨ (e = .returned (.bool false) ∧ ∃ q, Jx q W')

end Go.Proofs.Ytcpmahchagjhkaa
/-
  Contract of the program's (*node).rows: the rows of a forest of nodes in preorder, with the depths of their places. Conditions: the nodes lie in memory with links that say the forest.
-/
namespace Go.Proofs.Ytcpmahchagjhkaa
open Go.ChangeShapes Go.WideShapes Go.ChangeAt Go.RowKit Go.Joins Go.Shelf

attribute [local go_sem] Oper.semAt_some

theorem grownBy_set (W : World) (b o : Nat) (v : Value) : W.grownBy (W.setCell ⟨b, o, none⟩ v) (some b) :=
  ⟨rfl, rfl, rfl, (KeepsWalks.setCell W _ v).size, fun k _ hk => Below.heap_setCell _ _ _ k (fun e => hk (by rw [e]))⟩
theorem boxed_set {W : World} {B b o : Nat} {t : TypeId} {v : Value} (h : Boxed W B t v) (hne : B ≠ b) (u : Value) : Boxed (W.setCell ⟨b, o, none⟩ u) B t v := h.kept (grownBy_set W b o u) (fun e => hne (by cases e; rfl))
/-- append onto a row of the call's own, as one step of a region that draws its order, inside a fence. -/
theorem stepIn_append_own {F : Fence} {n : Nat} {P : Program} {ops : Array Oper} {o : Oper} {a : Act} {w : World} {K : Act → World → Prop} {Q : Exit → Act → World → Prop} {E : Prop}
    (hg : o.guard = none) (s x : Operand) (t : TypeId) (hop : o.op = Op.call { callee := Callee.builtin Builtin.append, args := #[s, x], argTypes := #[t, t] })
    (base : Nat) (e : TypeId) (i : TypeInfo) (z : Value) (size bytes : Nat) (h1 : P.underlying t = some (.slice e)) (h2 : P.info? e = some i) (h3 : i.zero = some z) (h4 : i.size = size) (h5 : i.bytes = bytes) (h6 : z.cells.size = size) (h7 : 0 < size)
    (v : Value) (k : Nat) (xs : List Value) (hs : a.eval s = v) (hown : w.ownsRow base e size v k xs) (ad : Addr) (m c : Nat) (news : List Value) (hx : a.eval x = .slice (some ad) m c) (hn : news.length = m * size)
    (hc : ∀ j u, news[j]? = some u → w.cell? (ad.add j) = some u) (h1c : ∀ u ∈ news, u.oneCell' = true) (b1 : k + m ≤ maxLen) (b2 : (k + m) * bytes ≤ 140737488355328) (b3 : base ≤ w.heap.size)
    (hK : ∀ v' w', w'.ownsRow base e size v' (k + m) (xs ++ news) → w.grownBy w' v.ownBlock → K (a.put o.dst v') w') :
    if Region.wanted o (yielded ops a.tmps) = true then Oper.wpIn F n P o a w K Q else E := by
  have hw : Region.wanted o (yielded ops a.tmps) = true := by simp [Region.wanted, hg]
  rw [if_pos hw]
  obtain ⟨v', w', hrun, r1, r2, r3⟩ := run_append_own (P := P) w base t o.type e i z size bytes h1 h2 h3 h4 h5 h6 h7 v k xs hown ad m c news hn hc h1c b1 b2 b3
  unfold Oper.wpIn
  refine ⟨?_, ?_⟩
  · simp [Oper.about, hop, resolve, Target.leads, Sem.run_pure]
  · rw [Oper.semAt_plain F _ _ (by rw [hop]; intro c hc'; cases hc')]
    simp [execOp, hop, resolve, invoke, builtin, hs, hx, hrun, Result.andThen]
    exact hK v' w' r1 r2
theorem visit_at (L : L5) (R : Nat → RowD) (xs : List Nat) (x : Nat) : (visit L (visitL L R xs) x).2 = (visitL L R xs).2 ++ [stepV L (visitL L R xs).1 x x] := rfl
/-- Rows of the call's own; below block n₀ nothing has turned. -/
def RetOwnB (n₀ : Nat) (rs : List RowD) (w : World) (e : Ending) (w' : World) : Prop :=
  ∃ a cap, e = .returned (.slice a rs.length cap) ∧ w'.ownsRow w.heap.size 38 3 (.slice a rs.length cap) rs.length (cellsL rs) ∧ rs.length ≤ cap ∧ Below n₀ w w'
theorem nd_dep {rs : List RowD} (ht : treeB rs = true) (y : Nat) : -1 ≤ (nd rs y).dep ∧ (nd rs y).dep ≤ 1000 := by
  cases y with
  | zero => exact ⟨show (-1 : Int) ≤ -1 by decide, show (-1 : Int) ≤ 1000 by decide⟩
  | succ i =>
    show -1 ≤ (rat rs i).dep ∧ (rat rs i).dep ≤ 1000
    rcases Nat.lt_or_ge i rs.length with h | h
    · have := rok_dep ((treeP_of ht).rok i h); omega
    · have : rat rs i = rz := by unfold rat; rw [List.getD_eq_getElem?_getD, List.getElem?_eq_none h]; rfl
      rw [this]; exact ⟨by decide, by decide⟩
end Go.Proofs.Ytcpmahchagjhkaa
/-
  Plain mathematics and memory: the nodes of an outline in memory with a new one beside them; bounds of links; how many rows an outline has. Conditions: as each theorem says.
-/
namespace Go.Proofs.Ytcpmahchagjhkaa
open Go.ChangeShapes Go.WideShapes Go.ChangeAt Go.RowKit Go.Joins

theorem pigeon : ∀ (n len : Nat) (f : Nat → Nat), (∀ i, i < len → f i < n) → (∀ i j, i < j → j < len → f i ≠ f j) → len ≤ n
  | 0, len, f, h1, h2 => by
    rcases Nat.eq_zero_or_pos len with h | h
    · omega
    · have := h1 0 h; omega
  | n + 1, len, f, h1, h2 => by
    by_cases hx : ∃ i, i < len ∧ f i = n
    · obtain ⟨i0, hi0, e0⟩ := hx
      have := pigeon n (len - 1) (fun i => if i < i0 then f i else f (i + 1)) (fun i hi => by
        split
        · have a := h1 i (by omega)
          have b := h2 i i0 (by assumption) hi0
          omega
        · have a := h1 (i + 1) (by omega)
          have b := h2 i0 (i + 1) (by omega) (by omega)
          omega) (fun i j hij hj => by
        split <;> split
        · exact h2 i j hij (by omega)
        · exact h2 i (j + 1) (by omega) (by omega)
        · omega
        · exact h2 (i + 1) (j + 1) (by omega) (by omega))
      omega
    · have := pigeon n len f (fun i hi => by
        have a := h1 i hi
        have b : f i ≠ n := fun e => hx ⟨i, hi, e⟩
        omega) h2
      omega
theorem tree_len {rs : List RowD} (ht : treeB rs = true) : rs.length ≤ 37 := by
  have hT := treeP_of ht
  refine pigeon 37 rs.length (fun i => (rat rs i).id.toNat) (fun i hi => ?_) (fun i j hij hj => ?_)
  · have := rok_id (hT.rok i hi)
    omega
  · have a := rok_id (hT.rok i (by omega))
    have b := rok_id (hT.rok j hj)
    have c := hT.fresh j i hij hj
    omega
/-! ### a new node beside those of an outline -/
/-! ### bounds of links -/
theorem l5D_fi_lt {rs : List RowD} {m x y : Nat} (h : (l5D rs m).fi x = some y) : y < m := (fstBelow_some _ _ _ h).1
theorem l5D_nx_lt {rs : List RowD} {m x y : Nat} (h : (l5D rs m).nx x = some y) : y < m := by
  have h' : nxO rs m x = some y := h
  unfold nxO at h'; split at h'
  · cases h'
  · exact (fstBelow_some _ _ _ h').1
theorem l5D_ah_lt {rs : List RowD} {m x y : Nat} (hx : x < m) (h : (l5D rs m).ah x = some y) : y < m := by
  have h' : ahO rs x = some y := h
  unfold ahO at h'; split at h'
  · cases h'
  · have := (lstBelow_some _ _ _ h').1; omega
theorem l5D_up {rs : List RowD} {m x : Nat} (hx : 1 ≤ x) : (l5D rs m).up x = some (par (dp rs) x) := by
  show upO rs x = _
  unfold upO; rw [if_neg (by omega)]
theorem cut5_fi_lt {rs : List RowD} {m n x y : Nat} (hD : Deps (dp rs) m) (hn : 1 ≤ n) (hm : n < m) (h : (cut5 (l5D rs m) n (par (dp rs) n)).fi x = some y) : y < m := by
  rw [(cut_links hD hn hm x).2.1] at h
  have h' : (if fi (dp rs) m x = some n then (linksD (dp rs) m).nx n else fi (dp rs) m x) = some y := h
  split at h'
  · exact l5D_nx_lt (rs := rs) (x := n) h'
  · exact (fstBelow_some _ _ _ h').1
theorem cut5_nx_lt {rs : List RowD} {m n x y : Nat} (hD : Deps (dp rs) m) (hn : 1 ≤ n) (hm : n < m) (hx : x ≠ n) (h : (cut5 (l5D rs m) n (par (dp rs) n)).nx x = some y) : y < m := by
  rw [(cut_links hD hn hm x).2.2 hx] at h
  have h' : (if (linksD (dp rs) m).nx x = some n then (linksD (dp rs) m).nx n else (linksD (dp rs) m).nx x) = some y := h
  split at h'
  · exact l5D_nx_lt (rs := rs) (x := n) h'
  · exact l5D_nx_lt (rs := rs) (x := x) h'
theorem whA_lt {rs : List RowD} {o : OpD} (ht : treeB rs = true) (hn : noWhereB rs o = false) {y : Nat} (h : whA rs o = some y) : y < rs.length + 1 ∧ y = atN rs (whereA rs o) + 1 ∧ 0 < whereA rs o := by
  unfold whA at h
  rw [hn] at h
  simp only [Bool.false_eq_true, if_false] at h
  split at h
  · rename_i hp
    cases h
    have := there_iff.1 (whereA_up ht hn hp).1
    exact ⟨by omega, rfl, hp⟩
  · cases h
theorem whA_ne {rs : List RowD} {o : OpD} (ht : treeB rs = true) (hk : o.kind = 3) (hn : noWhereB rs o = false) : whA rs o ≠ some (atN rs o.id + 1) := by
  intro h
  obtain ⟨_, e, hp⟩ := whA_lt ht hn h
  obtain ⟨g1, g2, g3, g4, g5⟩ := whereA_up ht hn hp
  have hid : thereB rs o.id = true := by
    have hno := noWhere3 (rs := rs) hk
    rw [hn] at hno
    cases h : thereB rs o.id <;> simp [h] at hno ⊢
  have := at_inj hid g1 (by omega)
  rw [g4] at this
  exact g5 this.symm
theorem whA_next {rs : List RowD} {o : OpD} (ht : treeB rs = true) (hn : noWhereB rs o = false) : ∀ y, nextOf (newL (l5D rs (rs.length + 1)) (rs.length + 1)) (atN rs (whereU rs o) + 1) (whA rs o) = some y → y < rs.length + 2 := by
  intro y hy
  have hq := whU_mem ht hn
  cases ha : whA rs o with
  | none =>
    rw [ha] at hy
    have hy' : upd (l5D rs (rs.length + 1)).fi (rs.length + 1) none (atN rs (whereU rs o) + 1) = some y := hy
    rw [upd_ne (by omega)] at hy'
    have := l5D_fi_lt hy'; omega
  | some a0 =>
    rw [ha] at hy
    have hy' : upd (l5D rs (rs.length + 1)).nx (rs.length + 1) none a0 = some y := hy
    have := (whA_lt ht hn ha).1
    rw [upd_ne (by omega)] at hy'
    have := l5D_nx_lt hy'; omega
theorem whA_next3 {rs : List RowD} {o : OpD} (ht : treeB rs = true) (hk : o.kind = 3) (hn : noWhereB rs o = false) (hid : thereB rs o.id = true) : ∀ y, nextOf (cut5 (l5D rs (rs.length + 1)) (atN rs o.id + 1) (par (dp rs) (atN rs o.id + 1))) (atN rs (whereU rs o) + 1) (whA rs o) = some y → y < rs.length + 1 := by
  intro y hy
  have hD := (treeP_of ht).deps
  have hil := there_iff.1 hid
  cases ha : whA rs o with
  | none =>
    rw [ha] at hy
    exact cut5_fi_lt hD (by omega) (by omega) hy
  | some a0 =>
    rw [ha] at hy
    refine cut5_nx_lt hD (by omega) (by omega) (fun e => ?_) hy
    exact whA_ne ht hk hn (by rw [ha, e])
end Go.Proofs.Ytcpmahchagjhkaa
/-
  Contract of the program's OpDo: the outline after a change. Conditions: the rows lie in memory as a slice of rows; the table 'creators' holds what its initialiser lays.
-/
namespace Go.Proofs.Ytcpmahchagjhkaa
open Go.ChangeShapes Go.WideShapes Go.ChangeAt Go.RowKit Go.Joins

theorem own_low {w : World} {base base' : Nat} {e : TypeId} {size : Nat} {v : Value} {n : Nat} {xs : List Value} (h : w.ownsRow base e size v n xs) (hb : base' ≤ base) : w.ownsRow base' e size v n xs := own_mono h hb
/-- The outline after a change, for every argument. -/
def doT (rs : List RowD) (o : OpD) : List RowD := if treeB rs && opokB o then doR rs o else []
theorem own_nil (w : World) (base : Nat) : w.ownsRow base 38 3 (.slice none 0 0) 0 (cellsL []) := World.ownsRow_nil _ _ _ _
end Go.Proofs.Ytcpmahchagjhkaa
