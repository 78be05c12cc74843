/-
  Joined texts, each with its own head: what it holds, and its conditions.
-/
import Derived.Test.YtclhjgcapalniaaDoorGD
import Derived.Deep.RegionLaw
import Derived.Test.YtclhjgcapalniaaDoorGA
import Derived.Laws.IdiomStrings

/-
  Contracts of the model's l3Do at a change of a text and at a move, and of OpDo. Conditions: as each theorem says.
-/
namespace Go.Proofs.YtclhjgcapalniaaDoor
open Go.ChangeShapes Go.WideShapes Go.ChangeAt Go.RowKit Go.Joins

/-! ### what stays when a subtree is taken out -/
def restR (rs : List RowD) (k : Nat) : List RowD := rs.take k ++ rs.drop (enR rs k)
def subR (rs : List RowD) (k : Nat) : List RowD := (rs.drop k).take (enR rs k - k)
theorem mem_there {l : List RowD} {r : RowD} (h : r ∈ l) : atN l r.id < l.length := by
  obtain ⟨i, hi, e⟩ := List.getElem_of_mem h
  have := there_at hi
  rw [rat_lt hi, e] at this; exact this
theorem rest_mem {rs : List RowD} {k u : Nat} (hu : u < rs.length) (h : u < k ∨ enR rs k ≤ u) : rat rs u ∈ restR rs k := by
  unfold restR
  rw [rat_lt hu, List.mem_append]
  rcases h with h | h
  · exact .inl (by rw [List.mem_take_iff_getElem]; exact ⟨u, by omega, rfl⟩)
  · refine .inr ?_
    rw [List.mem_drop_iff_getElem]
    exact ⟨u - enR rs k, by omega, by congr 1; omega⟩
theorem not_un {rs : List RowD} {u k : Nat} (hk : k < rs.length) (h : ¬ un (dp rs) (rs.length + 1) (u + 1) (k + 1)) : u < k ∨ enR rs k ≤ u := by
  unfold un at h
  rw [en_shift hk] at h
  omega
theorem whU_out {rs : List RowD} {o : OpD} (ht : treeB rs = true) (hk : o.kind = 3) (hm : madeB o.id = true) (hn : noWhereB rs o = false) : ¬ un (dp rs) (rs.length + 1) (atN rs (whereU rs o) + 1) (atN rs o.id + 1) := by
  have hT := treeP_of ht
  have hD := hT.deps
  have hno := noWhere3 (rs := rs) hk
  rw [hn] at hno
  have hid : thereB rs o.id = true := by cases h : thereB rs o.id <;> simp [h] at hno ⊢
  have hund : undB rs o.up o.id = false := by cases h : undB rs o.up o.id <;> simp [h] at hno ⊢
  have hidl := there_iff.1 hid
  have hn2 : atN rs o.id + 1 < rs.length + 1 := by omega
  intro g
  cases hu : thereB rs o.up
  · have e : whereU rs o = 3 := by simp [whereU, hn, hu]
    rw [e] at g
    have h3l := there_iff.1 (tree_three ht)
    have d3 := (rok_root (hT.rok _ h3l)).2 (by rw [atN_id h3l]; rfl)
    have d4 := (en_spec (D := dp rs) hn2).2.2.1
    by_cases e2 : atN rs 3 + 1 = atN rs o.id + 1
    · have := at_inj (tree_three ht) hid (by omega)
      rw [← this] at hm; exact absurd hm (by decide)
    · have d5 := d4 (atN rs 3 + 1) (by unfold un at g; omega) g.2
      have d6 := hD.low _ (show 1 ≤ atN rs o.id + 1 by omega) hn2
      have d7 : dp rs (atN rs 3 + 1) = 0 := d3
      omega
  · have e : whereU rs o = o.up := by simp [whereU, hn, hu]
    rw [e] at g
    rw [undB_node ht hu hid, Bool.eq_false_iff] at hund
    exact hund (unB_iff.2 g)
theorem rest_there {rs : List RowD} {o : OpD} (ht : treeB rs = true) (hk : o.kind = 3) (hm : madeB o.id = true) (hn : noWhereB rs o = false) :
    atN (restR rs (atN rs o.id)) (whereU rs o) < (restR rs (atN rs o.id)).length ∧ (0 < whereA rs o → atN (restR rs (atN rs o.id)) (whereA rs o) < (restR rs (atN rs o.id)).length) := by
  have hD := (treeP_of ht).deps
  have hno := noWhere3 (rs := rs) hk
  rw [hn] at hno
  have hid : thereB rs o.id = true := by cases h : thereB rs o.id <;> simp [h] at hno ⊢
  have hil := there_iff.1 hid
  have hu := whU_out ht hk hm hn
  have hut := there_iff.1 (whU_there ht hn)
  constructor
  · have := mem_there (rest_mem hut (not_un hil hu))
    rw [atN_id hut] at this; exact this
  · intro hp
    obtain ⟨g1, g2, g3, g4, g5⟩ := whereA_up ht hn hp
    have hat := there_iff.1 g1
    have hne : atN rs (whereA rs o) + 1 ≠ atN rs o.id + 1 := fun e => by
      have := at_inj g1 hid (by omega)
      rw [g4] at this; exact g5 this
    have hx : ¬ un (dp rs) (rs.length + 1) (atN rs (whereA rs o) + 1) (atN rs o.id + 1) := fun g => by
      have := (un_par hD (show 1 ≤ atN rs (whereA rs o) + 1 by omega) (by omega) (by omega) hne).1 g
      rw [g2] at this
      exact hu this
    have := mem_there (rest_mem hat (not_un hil hx))
    rw [atN_id hat] at this; exact this
theorem mem_rest {rs : List RowD} {k : Nat} {r : RowD} (h : r ∈ restR rs k) : r ∈ rs := by
  rcases List.mem_append.1 h with h | h
  · exact List.mem_of_mem_take h
  · exact List.mem_of_mem_drop h
theorem mem_sub {rs : List RowD} {k : Nat} {r : RowD} (h : r ∈ subR rs k) : r ∈ rs := List.mem_of_mem_drop (List.mem_of_mem_take h)
theorem rat_in {l : List RowD} {i : Nat} (h : i < l.length) : rat l i ∈ l := by rw [rat_lt h]; exact List.getElem_mem h
theorem mem_rat {l : List RowD} {r : RowD} (h : r ∈ l) : ∃ i, i < l.length ∧ rat l i = r := by
  obtain ⟨i, hi, e⟩ := List.getElem_of_mem h
  exact ⟨i, hi, by rw [rat_lt hi, e]⟩
theorem small_sub {rs l : List RowD} (hs : SmallDep rs) (h : ∀ r ∈ l, r ∈ rs) : SmallDep l := fun i hi => by
  obtain ⟨j, hj, e⟩ := mem_rat (h _ (rat_in hi))
  rw [← e]; exact hs j hj
theorem fit_sub {rs l : List RowD} (hf : Fit rs) (hl : l.length ≤ 1048576) (h : ∀ r ∈ l, r ∈ rs) : Fit l := ⟨hl, fun i hi => by
  obtain ⟨j, hj, e⟩ := mem_rat (h _ (rat_in hi))
  rw [← e]; exact hf.2 j hj⟩
theorem rest_len {rs : List RowD} {k : Nat} (hk : k < rs.length) : (restR rs k).length + (subR rs k).length = rs.length ∧ 0 < (subR rs k).length := by
  have e := en_spec (D := rdep rs) hk
  have e' : enR rs k = en (rdep rs) rs.length k := rfl
  unfold restR subR
  simp
  omega
theorem cells_rest {rs : List RowD} {k : Nat} (_hk : k < rs.length) : cellsL (rs.take k) ++ cellsL ((rs.drop (enR rs k)).take (rs.length - enR rs k)) = cellsL (restR rs k) := by
  unfold restR
  rw [← cellsL_append, List.take_of_length_le (l := rs.drop (enR rs k)) (by simp)]
theorem cellsL_cons' (r : RowD) (rs : List RowD) : cellsL (r :: rs) = .int .i64 r.id :: .int .i64 r.dep :: .string r.txt :: cellsL rs := rfl
theorem cells_setTxt (t : ByteArray) : ∀ (rs : List RowD) (k : Nat), cellsL (setTxt rs k t) = (cellsL rs).set (k * 3 + 2) (.string t)
  | [], k => by simp [setTxt, cellsL]
  | r :: rs, 0 => by simp [setTxt, cellsL_cons']
  | r :: rs, k + 1 => by
    have ih := cells_setTxt t rs k
    have e : setTxt (r :: rs) (k + 1) t = r :: setTxt rs k t := by simp [setTxt]
    rw [e, cellsL_cons', cellsL_cons', ih, show (k + 1) * 3 + 2 = (k * 3 + 2) + 1 + 1 + 1 by omega]
    simp
theorem doR_move {rs : List RowD} {o : OpD} (hk : o.kind = 3) (hn : noWhereB rs o = false) : doR rs o = putR (restR rs (atN rs o.id)) (subR rs (atN rs o.id)) (whereU rs o) (whereA rs o) := by
  simp [doR, hk, hn, restR, subR]
end Go.Proofs.YtclhjgcapalniaaDoor
/-
  Contracts of the model's l3Do at a change of a text and at a move, and of OpDo. Conditions: as each theorem says.
-/
namespace Go.Proofs.YtclhjgcapalniaaDoor
open Go.ChangeShapes Go.WideShapes Go.ChangeAt Go.RowKit Go.Joins

theorem own_form {w : World} {base n : Nat} {e : TypeId} {size : Nat} {v : Value} {xs : List Value} (h : w.ownsRow base e size v n xs) (hn : 0 < n) : ∃ g cap, v = .slice (some ⟨g, 0, none⟩) n cap ∧ base ≤ g ∧ (∀ o, w.frozen? ⟨g, o, none⟩ = false) ∧ n ≤ cap := by
  rcases h.2 with ⟨_, h0⟩ | ⟨g, cap', cur, hv, hg, hh, h1, h2, h3, h4⟩
  · omega
  · exact ⟨g, cap', hv, hg, fun o => by simp [World.frozen?, hh], h1⟩
theorem own_capm {w : World} {base : Nat} {e : TypeId} {size : Nat} {a : Option Addr} {n cap : Nat} {xs : List Value} (h : w.ownsRow base e size (.slice a n cap) n xs) : n ≤ cap ∧ cap ≤ maxLen := by
  rcases h.2 with ⟨h1, h0⟩ | ⟨g, cap', cur, hv, hg, hh, h1, h2, _⟩
  · cases h1; exact ⟨Nat.le_refl _, Nat.zero_le _⟩
  · cases hv; exact ⟨h1, h2⟩
theorem own_set {w : World} {base g cap n o : Nat} {e : TypeId} {size : Nat} {xs : List Value} (h : w.ownsRow base e size (.slice (some ⟨g, 0, none⟩) n cap) n xs) (u : Value) : (w.setCell ⟨g, o, none⟩ u).ownsRow base e size (.slice (some ⟨g, 0, none⟩) n cap) n (xs.set o u) := (h.stored o u).1
set_option maxRecDepth 100000 in
set_option maxHeartbeats 1000000 in
theorem l3DoText_any (B : Nat) (a : Option Addr) (cap : Nat) (rs : List RowD) (o : OpD) (w : World) (hk : o.kind = 2) (hB : B ≤ w.heap.size) (h : RowsAt B w a rs) (hf : Fit rs) (_hcm : cap ≤ maxLen) (h0 : 0 < rs.length) :
    Calls Tryd.prog 93 #[.slice a rs.length cap, .agg #[.int .i64 o.kind, .int .i64 o.id, .int .i64 o.up, .int .i64 o.at_, .string o.txt]] w (RetOwn (doR rs o) w) := by
  obtain ⟨i0, hi, hz0, hz1, hz2⟩ := info_parts infoRow
  have hl := hf.1
  have hb0 : Below w.heap.size w (w.alloc (.cells #[.int .i64 o.kind, .int .i64 o.id, .int .i64 o.up, .int .i64 o.at_, .string o.txt] 27)) := (Below.refl _ _).alloc (Nat.le_refl _) _
  have hr0 := h.below (hb0.mono hB)
  have HX := Lib.hid (opbox_cells w o.kind o.id o.up o.at_ o.txt)
  obtain ⟨b, off, rfl, hbB, _⟩ := hr0.at_ h0
  have hlt : w.heap.size < (w.alloc (.cells #[.int .i64 o.kind, .int .i64 o.id, .int .i64 o.up, .int .i64 o.at_, .string o.txt] 27)).heap.size := by simp
  have x1 : (w.alloc (.cells #[.int .i64 o.kind, .int .i64 o.id, .int .i64 o.up, .int .i64 o.at_, .string o.txt] 27)).cell? ⟨w.heap.size, 1, none⟩ = some (.int .i64 o.id) := by simp [go_sem]
  have x0 : (w.alloc (.cells #[.int .i64 o.kind, .int .i64 o.id, .int .i64 o.up, .int .i64 o.at_, .string o.txt] 27)).cell? ⟨w.heap.size, 0, none⟩ = some (.int .i64 2) := by simp [go_sem, hk]
  have hnews0 := RowsAt.news (s := 0) (n := rs.length) hr0 (by omega)
  rw [Nat.zero_mul, Nat.add_zero, List.drop_zero, List.take_length] at hnews0
  have HNW := Lib.hid hnews0
  have HK := Lib.hid hk
  clear hnews0 hk
  go_enter Tryd.func93, Tryd.ntmps93
  go_wp2_with fail
  refine (l2At_any B _ _ _ _ _ hr0 hf).mono ?_
  rintro e w' ⟨rfl, rfl⟩
  generalize hW : w.alloc (.cells #[.int .i64 o.kind, .int .i64 o.id, .int .i64 o.up, .int .i64 o.at_, .string o.txt] 27) = W at *
  have hown0 := own_empty3 W 39
  have hbW : b < W.heap.size := by have := hb0.size; omega
  go_wp2_with (at_builtin; refine wpList_append_own _ rfl _ _ 23 rfl W.heap.size 39 i0 (.agg #[.int .i64 0, .int .i64 0, .string ⟨#[]⟩]) 3 32 Tryd.underlying23 hi hz0 hz1 hz2 rfl (by decide) _ _ _ rfl hown0 ⟨b, off, none⟩ rs.length cap (cellsL rs) rfl ?c0 ?c1 ?c2 ?c3 ?c4 ?c5 ?_)
  case c0 => exact cellsL_len rs
  case c1 => intro j u hu; rw [World.cell?_alloc_lt _ _ _ (by rw [addr_add]; exact hbW)]; exact HNW.out j u hu
  case c2 => exact cellsL_plain _
  case c3 => unfold maxLen; omega
  case c4 => omega
  case c5 => simp
  intro v1 w1 own1 grow1 _
  have hb1 : Below W.heap.size W w1 := ((Below.refl _ W).alloc (Nat.le_refl _) (.cells #[] 39)).grown grow1 (by simp) (own_block hown0)
  have own2 : w1.ownsRow W.heap.size 39 3 v1 rs.length (cellsL rs) := by simpa using own1
  have hb2 : Below w.heap.size w w1 := hb0.trans (hb1.mono hb0.size)
  have y4 : w1.cell? ⟨w.heap.size, 4, none⟩ = some (.string o.txt) := by
    rw [hb1.cell (p := ⟨w.heap.size, 4, none⟩) hlt, ← hW]; simp [go_sem]
  obtain ⟨g, c1, rfl, hg, zf, hc1⟩ := own_form own2 h0
  clear own1 grow1 hown0 HNW hr0 x0 x1 HX
  cases hi' : thereB rs o.id
  · have HT := Lib.hid (there_no hi')
    have HR : Hid (doR rs o = rs) := by unfold Hid doR; rw [if_pos HK.out, hi']; rfl
    rw [HT.out]
    go_wp2
    go_ret
    rw [HR.out]
    exact ⟨_, _, rfl, own_mono own2 hb0.size, hc1, hb2⟩
  · have HT := Lib.hid (there_yes hi')
    have HR : Hid (doR rs o = setTxt rs (atN rs o.id) o.txt) := by unfold Hid doR; rw [if_pos HK.out, hi']; rfl
    have hil := there_iff.1 hi'
    rw [HT.out]
    obtain ⟨b', off', e', _, d0, d1, d2⟩ := (rowsAt_own own2).at_ hil
    cases e'
    rw [Nat.zero_add] at d0 d1 d2
    have z2 := zf (atN rs o.id * 3 + 2)
    have hS := own_set (o := atN rs o.id * 3 + 2) own2 (.string o.txt)
    rw [← cells_setTxt] at hS
    have hlen : (setTxt rs (atN rs o.id) o.txt).length = rs.length := by simp [setTxt]
    have HLE := Lib.hid hlen
    have hB3 : Below w.heap.size w (w1.setCell ⟨g, atN rs o.id * 3 + 2, none⟩ (.string o.txt)) := hb2.setCell (p := ⟨g, atN rs o.id * 3 + 2, none⟩) (Nat.le_trans hb0.size hg) _
    clear hlen hi' zf own2 hb2 hb1
    generalize atN rs o.id = k at *
    have i1 : (k : Int) < (rs.length : Int) := by omega
    go_wp2
    go_ret
    rw [HR.out]
    exact ⟨_, _, by rw [HLE.out]; rfl, by rw [HLE.out]; exact own_mono hS hb0.size, by rw [HLE.out]; exact hc1, hB3⟩
end Go.Proofs.YtclhjgcapalniaaDoor
/-
  Contract of the model's l3Do at a move. Conditions: as the theorem says.
-/
namespace Go.Proofs.YtclhjgcapalniaaDoor
open Go.ChangeShapes Go.WideShapes Go.ChangeAt Go.RowKit Go.Joins

/-- append onto a row of the call's own, as one step of a region that draws its order. -/
theorem step_append_own {P : Program} {ops : Array Oper} {o : Oper} {a : Act} {w : World} {K : Act → World → Prop} {Q : Exit → Act → World → Prop} {E : Prop}
    (hg : o.guard = none) (s x : Operand) (t : TypeId) (hop : o.op = Op.call { callee := Callee.builtin Builtin.append, args := #[s, x], argTypes := #[t, t] })
    (base : Nat) (e : TypeId) (i : TypeInfo) (z : Value) (size bytes : Nat) (h1 : P.underlying t = some (.slice e)) (h2 : P.info? e = some i) (h3 : i.zero = some z) (h4 : i.size = size) (h5 : i.bytes = bytes) (h6 : z.cells.size = size) (h7 : 0 < size)
    (v : Value) (k : Nat) (xs : List Value) (hs : a.eval s = v) (hown : w.ownsRow base e size v k xs) (ad : Addr) (m c : Nat) (news : List Value) (hx : a.eval x = .slice (some ad) m c) (hn : news.length = m * size)
    (hc : ∀ j u, news[j]? = some u → w.cell? (ad.add j) = some u) (h1c : ∀ u ∈ news, u.oneCell' = true) (b1 : k + m ≤ maxLen) (b2 : (k + m) * bytes ≤ 140737488355328) (b3 : base ≤ w.heap.size)
    (hK : ∀ v' w', w'.ownsRow base e size v' (k + m) (xs ++ news) → w.grownBy w' v.ownBlock → K (a.put o.dst v') w') :
    if Region.wanted o (yielded ops a.tmps) = true then Oper.wp P o a w K Q else E := by
  have hw : Region.wanted o (yielded ops a.tmps) = true := by simp [Region.wanted, hg]
  rw [if_pos hw]
  obtain ⟨v', w', hrun, r1, r2, _⟩ := run_append_own (P := P) w base t o.type e i z size bytes h1 h2 h3 h4 h5 h6 h7 v k xs hown ad m c news hn hc h1c b1 b2 b3
  unfold Oper.wp
  simp [execOp, hop, resolve, invoke, builtin, hs, hx, hrun, Result.andThen]
  exact hK v' w' r1 r2
set_option maxRecDepth 100000 in
set_option maxHeartbeats 1000000 in
theorem l3DoMove_any (B : Nat) (a : Option Addr) (cap : Nat) (rs : List RowD) (o : OpD) (w : World) (hk : o.kind = 3) (hm : madeB o.id = true) (ht : treeB rs = true) (hB : B ≤ w.heap.size) (h : RowsAt B w a rs) (hf : Fit rs) (hc : rs.length ≤ cap) (hcm : cap ≤ maxLen) :
    Calls Tryd.prog 93 #[.slice a rs.length cap, .agg #[.int .i64 o.kind, .int .i64 o.id, .int .i64 o.up, .int .i64 o.at_, .string o.txt]] w (RetOwn (doR rs o) w) := by
  obtain ⟨i0, hi, hz0, hz1, hz2⟩ := info_parts infoRow
  have hl := hf.1
  have hs := treeP_small ht
  have h0 : 0 < rs.length := by have := (treeP_of ht).len; omega
  have hb0 : Below w.heap.size w (w.alloc (.cells #[.int .i64 o.kind, .int .i64 o.id, .int .i64 o.up, .int .i64 o.at_, .string o.txt] 27)) := (Below.refl _ _).alloc (Nat.le_refl _) _
  have hr0 := h.below (hb0.mono hB)
  have hx0 := opbox_new w o 27
  have hbx : w.heap.size < (w.alloc (.cells #[.int .i64 o.kind, .int .i64 o.id, .int .i64 o.up, .int .i64 o.at_, .string o.txt] 27)).heap.size := by simp
  have hx4 : (w.alloc (.cells #[.int .i64 o.kind, .int .i64 o.id, .int .i64 o.up, .int .i64 o.at_, .string o.txt] 27)).cell? ⟨w.heap.size, 4, none⟩ = some (.string o.txt) := by simp [go_sem]
  have hk2 : (o.kind == 2) = false := by rw [hk]; rfl
  have hk1 : (o.kind == 1) = false := by rw [hk]; rfl
  have HK := Lib.hid hk
  clear hk
  have hBW : B ≤ (w.alloc (.cells #[.int .i64 o.kind, .int .i64 o.id, .int .i64 o.up, .int .i64 o.at_, .string o.txt] 27)).heap.size := Nat.le_trans hB hb0.size
  obtain ⟨b, off, rfl, hbB, _⟩ := hr0.at_ h0
  go_enter Tryd.func93, Tryd.ntmps93
  go_wp2_with fail
  refine (l2At_any B _ _ _ _ _ hr0 hf).mono ?_
  rintro e w' ⟨rfl, rfl⟩
  obtain ⟨x0, x1, x2, x3⟩ := hx0
  generalize w.alloc (.cells #[.int .i64 o.kind, .int .i64 o.id, .int .i64 o.up, .int .i64 o.at_, .string o.txt] 27) = W at *
  go_wp2_with fail
  refine (l3Where_any B _ _ _ o W hBW hr0 hf hs).mono ?_
  rintro e W1 ⟨rfl, hb1⟩
  have hW1 : Below w.heap.size w W1 := hb0.trans (hb1.mono hb0.size)
  have hr1 := h.below (hW1.mono hB)
  have y0 := (hb1.cell (p := ⟨w.heap.size, 0, none⟩) hbx).trans x0
  have hBW1 : B ≤ W1.heap.size := Nat.le_trans hB hW1.size
  clear x0 x1 x2 x3 hx4 hr0 hb0 hBW hbx hb1
  unfold maxLen at hcm
  cases hno : noWhereB rs o
  · have hno3 := noWhere3 (rs := rs) HK.out
    rw [hno] at hno3
    have hid : thereB rs o.id = true := by cases h : thereB rs o.id <;> simp [h] at hno3 ⊢
    have hil := there_iff.1 hid
    have HT := Lib.hid (there_yes hid)
    have HR := Lib.hid (doR_move HK.out hno)
    obtain ⟨t1, t2⟩ := rest_there ht HK.out hm hno
    obtain ⟨l1, l2⟩ := rest_len hil
    have HRT := Lib.hid t1
    have HRA := Lib.hid t2
    have HCR := Lib.hid (cells_rest hil)
    obtain ⟨e1, e2, e3, e4⟩ := en_spec (D := rdep rs) hil
    have hen1 : atN rs o.id + 1 ≤ enR rs (atN rs o.id) := e1
    have hen2 : enR rs (atN rs o.id) ≤ rs.length := e2
    have HSr : Hid (SmallDep (restR rs (atN rs o.id))) := small_sub hs (fun r hr => mem_rest hr)
    have HSs : Hid (SmallDep (subR rs (atN rs o.id))) := small_sub hs (fun r hr => mem_sub hr)
    have HFr : Hid (Fit (restR rs (atN rs o.id))) := fit_sub hf (by omega) (fun r hr => mem_rest hr)
    have HSD : Hid (subR rs (atN rs o.id) = (rs.drop (atN rs o.id)).take (enR rs (atN rs o.id) - atN rs o.id)) := rfl
    have HLS : Hid ((subR rs (atN rs o.id)).length = enR rs (atN rs o.id) - atN rs o.id) := by unfold Hid subR; simp; omega
    have HLR : Hid ((restR rs (atN rs o.id)).length = atN rs o.id + (rs.length - enR rs (atN rs o.id))) := by unfold Hid restR; simp; omega
    rw [HT.out]
    clear hno3 hid t1 t2 e1 e2 e3 e4 hno
    generalize doR rs o = res at *
    generalize whereU rs o = U at *
    generalize whereA rs o = A at *
    generalize restR rs (atN rs o.id) = rest at *
    generalize subR rs (atN rs o.id) = sub at *
    generalize hk' : atN rs o.id = k at *
    clear hk'
    have hEN : Hid (∀ x, Below w.heap.size w x → Calls Tryd.prog 84 #[.slice (some ⟨b, off, none⟩) rs.length cap, .int .i64 k] x (RetBelow (.int .i64 (enR rs k)) x)) := fun x hx => l2End_any B _ _ k _ x (Nat.le_trans hB hx.size) (h.below (hx.mono hB)) hf hil
    generalize enR rs k = en' at *
    have hnk : ¬ ((k : Int) < 0) := by omega
    go_wp2_with fail
    refine (hEN.out W1 hW1).mono ?_
    rintro e W2 ⟨rfl, hb2⟩
    have hW2 := hW1.trans (hb2.mono hW1.size)
    have hr2 := h.below (hW2.mono hB)
    clear hb2 hr1 hW1 hBW1 y0
    have hown0 := own_empty3 W2 39
    have hnews0 := RowsAt.news (s := k) (n := en' - k) hr2 (by omega)
    rw [← HSD.out] at hnews0
    have HNW := Lib.hid hnews0
    have hbW : b < W2.heap.size := by have := hW2.size; omega
    have ip1 : (k : Int) ≤ (en' : Int) := by omega
    have ip2 : (en' : Int) ≤ (cap : Int) := by omega
    have ip3 : (k : Int) ≤ (cap : Int) := by omega
    have ip4 : (en' : Int) ≤ (rs.length : Int) := by omega
    have ne1 : ¬ (cap = k) := by omega
    clear hnews0
    go_wp2_with (at_builtin; refine wpList_append_own _ rfl _ _ 23 rfl W2.heap.size 39 i0 (.agg #[.int .i64 0, .int .i64 0, .string ⟨#[]⟩]) 3 32 Tryd.underlying23 hi hz0 hz1 hz2 rfl (by decide) _ _ _ rfl hown0 ⟨b, off + k * 3, none⟩ (en' - k) (cap - k) (cellsL sub) rfl ?c0 ?c1 ?c2 ?c3 ?c4 ?c5 ?_)
    case c0 => rw [cellsL_len, HLS.out]
    case c1 => intro j u hu; rw [World.cell?_alloc_lt _ _ _ (by rw [addr_add]; exact hbW)]; exact HNW.out j u hu
    case c2 => exact cellsL_plain _
    case c3 => unfold maxLen; omega
    case c4 => omega
    case c5 => simp
    intro v3 w3 own3 grow3 _
    have hb3 : Below W2.heap.size W2 w3 := ((Below.refl _ W2).alloc (Nat.le_refl _) (.cells #[] 39)).grown grow3 (by simp) (own_block hown0)
    have own3' : w3.ownsRow W2.heap.size 39 3 v3 sub.length (cellsL sub) := by rw [HLS.out]; simpa using own3
    have hW3 := hW2.trans (hb3.mono hW2.size)
    have hr3 := h.below (hW3.mono hB)
    obtain ⟨g3, c3', rfl, hg3, _, hgc3⟩ := own_form own3' l2
    have hown1 := own_empty3 w3.drew 39
    have hnews1 := RowsAt.news (s := 0) (n := k) hr3 (by omega)
    rw [Nat.zero_mul, Nat.add_zero, List.drop_zero] at hnews1
    have hnews2 := RowsAt.news (s := en') (n := rs.length - en') hr3 (by omega)
    have hbW3 : b < w3.heap.size := by have := hb3.size; omega
    have n0 : Hid ((cellsL (rs.take k)).length = k * 3) := by unfold Hid; rw [cellsL_len]; simp; omega
    have n1 : Hid (∀ j u, (cellsL (rs.take k))[j]? = some u → (w3.drew.alloc (.cells #[] 39)).cell? ((⟨b, off, none⟩ : Addr).add j) = some u) := fun j u hu => by
      rw [World.cell?_alloc_lt _ _ _ (by rw [addr_add]; exact hbW3)]; exact hnews1 j u hu
    have HN2 := Lib.hid hnews2
    have n2 : Hid ((cellsL ((rs.drop en').take (rs.length - en'))).length = (rs.length - en') * 3) := by unfold Hid; rw [cellsL_len]; simp
    have hd3 : Below w3.heap.size w3 (w3.drew.alloc (.cells #[] 39)) := ((Below.refl _ _).drew).alloc (Nat.le_refl _) _
    have own3s := own3'
    clear own3 grow3 hown0 hnews1 hnews2 HNW hb3 hr2 hW2
    rw [HLS.out] at own3' hgc3
    by_cases hcp : cap = en'
    · subst hcp
      have hz : rs.length - cap = 0 := by omega
      have HC2 : Hid (cellsL (rs.take k) = cellsL rest) := by
        have := HCR.out
        rw [hz, List.take_zero] at this
        simpa [cellsL, Hid] using this
      have HL2 : Hid (rest.length = k) := by have := HLR.out; rw [hz] at this; exact this
      go_wp2_with fail
      go_region_law (first
        | (refine step_append_own rfl (.tmp 66) (.tmp 69) 23 rfl w3.heap.size 39 i0 (.agg #[.int .i64 0, .int .i64 0, .string ⟨#[]⟩]) 3 32 Tryd.underlying23 hi hz0 hz1 hz2 rfl (by decide) _ _ _ (by simp [Act.eval]) hown1 ⟨b, off, none⟩ k cap (cellsL (rs.take k)) (by simp [Act.eval]) n0.out n1.out (cellsL_plain _) (by unfold maxLen; omega) (by omega) hd3.size ?_
           intro v4 w4 own4 grow4
           have hb4 : Below w3.heap.size w3 w4 := hd3.grown grow4 hd3.size (own_block hown1)
           have own4' : w4.ownsRow w3.heap.size 39 3 v4 k (cellsL (rs.take k)) := by simpa using own4
           obtain ⟨va, vc, rfl, _⟩ := own_slice own4')
        | (refine step_append_own rfl (.tmp 70) (.tmp 73) 23 rfl w3.heap.size 39 i0 (.agg #[.int .i64 0, .int .i64 0, .string ⟨#[]⟩]) 3 32 Tryd.underlying23 hi hz0 hz1 hz2 rfl (by decide) _ _ _ (by simp [Act.eval]) own4' ⟨b, off, none⟩ 0 0 [] (by simp [Act.eval]) rfl (by intro j u hu; simp at hu) (by intro u hu; simp at hu) (by unfold maxLen; omega) (by omega) hb4.size ?_
           intro v5 w5 own5 grow5
           have hb5 : Below w3.heap.size w3 w5 := hb4.grown grow5 hb4.size (own_block own4')
           have own5' : w5.ownsRow w3.heap.size 39 3 v5 rest.length (cellsL rest) := by rw [HL2.out, ← HC2.out]; simpa using own5
           obtain ⟨va5, vc5, rfl, hvc5⟩ := own_slice own5'))
      have ownS5 := own_below own3s hb5
      have hW5 := hW3.trans (hb5.mono hW3.size)
      obtain ⟨q1, q2⟩ := own_capm own5'
      have HPT := Lib.hid (l3Put_any w5.heap.size _ _ vc5 c3' rest sub U A w5 (Nat.le_refl _) (rowsAt_own own5') (rowsAt_own ownS5) HFr.out q1 q2 HSr.out HSs.out HRT.out HRA.out l2 (by omega))
      clear own5' ownS5 own3s hown1 q1 q2 hb5
      go_wp2_with fail
      refine (HPT.out).mono ?_
      rintro e w6 ⟨ra, rc, rfl, own6, hrc, hb6⟩
      go_wp2
      go_ret
      rw [HR.out]
      exact ⟨ra, rc, rfl, own_mono own6 hW5.size, hrc, hW5.trans (hb6.mono hW5.size)⟩
    · go_wp2_with fail
      go_region_law (first
        | (refine step_append_own rfl (.tmp 66) (.tmp 69) 23 rfl w3.heap.size 39 i0 (.agg #[.int .i64 0, .int .i64 0, .string ⟨#[]⟩]) 3 32 Tryd.underlying23 hi hz0 hz1 hz2 rfl (by decide) _ _ _ (by simp [Act.eval]) hown1 ⟨b, off, none⟩ k cap (cellsL (rs.take k)) (by simp [Act.eval]) n0.out n1.out (cellsL_plain _) (by unfold maxLen; omega) (by omega) hd3.size ?_
           intro v4 w4 own4 grow4
           have hb4 : Below w3.heap.size w3 w4 := hd3.grown grow4 hd3.size (own_block hown1)
           have own4' : w4.ownsRow w3.heap.size 39 3 v4 k (cellsL (rs.take k)) := by simpa using own4
           obtain ⟨va, vc, rfl, _⟩ := own_slice own4')
        | (refine step_append_own rfl (.tmp 70) (.tmp 73) 23 rfl w3.heap.size 39 i0 (.agg #[.int .i64 0, .int .i64 0, .string ⟨#[]⟩]) 3 32 Tryd.underlying23 hi hz0 hz1 hz2 rfl (by decide) _ _ _ (by simp [Act.eval]) own4' ⟨b, off + en' * 3, none⟩ (rs.length - en') (cap - en') (cellsL ((rs.drop en').take (rs.length - en'))) (by simp [Act.eval]) n2.out (fun j u hu => by rw [hb4.cell (p := (⟨b, off + en' * 3, none⟩ : Addr).add j) (by rw [addr_add]; exact hbW3)]; exact HN2.out j u hu) (cellsL_plain _) (by unfold maxLen; omega) (by omega) hb4.size ?_
           intro v5 w5 own5 grow5
           have hb5 : Below w3.heap.size w3 w5 := hb4.grown grow5 hb4.size (own_block own4')
           have own5' : w5.ownsRow w3.heap.size 39 3 v5 rest.length (cellsL rest) := by rw [HLR.out, ← HCR.out]; exact own5
           obtain ⟨va5, vc5, rfl, hvc5⟩ := own_slice own5'))
      have ownS5 := own_below own3s hb5
      have hW5 := hW3.trans (hb5.mono hW3.size)
      obtain ⟨q1, q2⟩ := own_capm own5'
      have HPT := Lib.hid (l3Put_any w5.heap.size _ _ vc5 c3' rest sub U A w5 (Nat.le_refl _) (rowsAt_own own5') (rowsAt_own ownS5) HFr.out q1 q2 HSr.out HSs.out HRT.out HRA.out l2 (by omega))
      clear own5' ownS5 own3s hown1 q1 q2 hb5
      go_wp2_with fail
      refine (HPT.out).mono ?_
      rintro e w6 ⟨ra, rc, rfl, own6, hrc, hb6⟩
      go_wp2
      go_ret
      rw [HR.out]
      exact ⟨ra, rc, rfl, own_mono own6 hW5.size, hrc, hW5.trans (hb6.mono hW5.size)⟩
  · have HF : Hid (doR rs o = rs) := by unfold Hid doR; rw [if_neg (by have := HK.out; omega), hno]; rfl
    generalize atI rs o.id = zz at *
    have hown0 := own_empty3 W1 39
    have hnews0 := RowsAt.news (s := 0) (n := rs.length) hr1 (by omega)
    rw [Nat.zero_mul, Nat.add_zero, List.drop_zero, List.take_length] at hnews0
    have HNW := Lib.hid hnews0
    clear hnews0
    have hbW : b < W1.heap.size := by omega
    go_wp2_with (at_builtin; refine wpList_append_own _ rfl _ _ 23 rfl W1.heap.size 39 i0 (.agg #[.int .i64 0, .int .i64 0, .string ⟨#[]⟩]) 3 32 Tryd.underlying23 hi hz0 hz1 hz2 rfl (by decide) _ _ _ rfl hown0 ⟨b, off, none⟩ rs.length cap (cellsL rs) rfl ?c0 ?c1 ?c2 ?c3 ?c4 ?c5 ?_)
    case c0 => exact cellsL_len rs
    case c1 => intro j u hu; rw [World.cell?_alloc_lt _ _ _ (by rw [addr_add]; exact hbW)]; exact HNW.out j u hu
    case c2 => exact cellsL_plain _
    case c3 => unfold maxLen; omega
    case c4 => omega
    case c5 => simp
    intro v1 w1 own1 grow1 _
    have hb2 : Below W1.heap.size W1 w1 := ((Below.refl _ W1).alloc (Nat.le_refl _) (.cells #[] 39)).grown grow1 (by simp) (own_block hown0)
    have own2 : w1.ownsRow W1.heap.size 39 3 v1 rs.length (cellsL rs) := by simpa using own1
    obtain ⟨va, vc, rfl, hvc⟩ := own_slice own2
    go_wp2
    go_ret
    exact ⟨va, vc, by rw [HF.out]; rfl, by rw [HF.out]; exact own_mono own2 hW1.size, by rw [HF.out]; exact hvc, hW1.trans (hb2.mono hW1.size)⟩
end Go.Proofs.YtclhjgcapalniaaDoor
/-
  Contract of the model's OpDo: the outline after a change. Conditions: the rows lie in memory as a slice of rows.
-/
namespace Go.Proofs.YtclhjgcapalniaaDoor
open Go.ChangeShapes Go.WideShapes Go.ChangeAt Go.RowKit Go.Joins

theorem opok_made {o : OpD} (h : opokB o = true) : madeB o.id = true := by
  unfold opokB at h
  split at h
  · simp only [Bool.and_eq_true] at h; exact h.1.1
  · split at h
    · simp only [Bool.and_eq_true] at h; exact h.1.2
    · split at h
      · simp only [Bool.and_eq_true] at h; exact h.1.2
      · cases h
theorem l3Do_any (B : Nat) (a : Option Addr) (cap : Nat) (rs : List RowD) (o : OpD) (w : World) (hB : B ≤ w.heap.size) (h : RowsAt B w a rs) (hf : Fit rs) (hc : rs.length ≤ cap) (hcm : cap ≤ maxLen) (ht : treeB rs = true) (hk : opokB o = true) :
    Calls Tryd.prog 93 #[.slice a rs.length cap, .agg #[.int .i64 o.kind, .int .i64 o.id, .int .i64 o.up, .int .i64 o.at_, .string o.txt]] w (RetOwn (doR rs o) w) := by
  have hl := tree_len ht
  have h0 : 0 < rs.length := by have := (treeP_of ht).len; omega
  rcases opok_kind hk with k | k | k
  · exact l3DoMake_any B a cap rs o w k hB h hf (treeP_small ht) hc hcm h0 (tree_three ht) (by omega)
  · exact l3DoText_any B a cap rs o w k hB h hf hcm h0
  · exact l3DoMove_any B a cap rs o w k (opok_made hk) ht hB h hf hc hcm
end Go.Proofs.YtclhjgcapalniaaDoor
/-
  The laws' own helpers markText and markRowS. Conditions: as each theorem says.
-/
namespace Go.Proofs.YtclhjgcapalniaaDoor
open Go.ChangeShapes Go.WideShapes Go.ChangeAt Go.RowKit Go.Joins

theorem conv_one (w : World) (x : Int) (h0 : 0 ≤ x) (h1 : x < 256) :
    Sem.run Tryd.prog (convert 22 9 (.slice (some ⟨w.heap.size, 0, none⟩) 1 1)) (w.alloc (.cells #[.int .u8 x] 5)) = .ok (.string ⟨#[UInt8.ofNat x.toNat]⟩) (w.alloc (.cells #[.int .u8 x] 5)) := by
  refine run_convert_bytes_back (P := Tryd.prog) (w.alloc (.cells #[.int .u8 x] 5)) 22 9 5 ⟨w.heap.size, 0, none⟩ 1 [UInt8.ofNat x.toNat] Tryd.underlying22 Tryd.underlying5 Tryd.underlying9 (fun j hj => ?_)
  obtain rfl : j = 0 := by simp at hj; exact hj
  have hx : ((UInt8.ofNat x.toNat).toNat : Int) = x := by
    rw [UInt8.toNat_ofNat']; omega
  simp only [List.getElem_cons_zero, hx]
  simp [Addr.add, go_sem]
theorem size_one (x : UInt8) : (ByteArray.mk #[x]).size = 1 := rfl
def RetStr (M : Nat) (w : World) (e : Ending) (w' : World) : Prop := ∃ s : ByteArray, s.size ≤ M ∧ e = .returned (.string s) ∧ Below w.heap.size w w'
/-! ### markRowS: it writes into the one block alone -/
def MarkedRows (g n : Nat) (w : World) (e : Ending) (w' : World) : Prop := e = .returned (.int .i64 ((n : Int) * 3 + 1)) ∧ But g w.heap.size w w'
end Go.Proofs.YtclhjgcapalniaaDoor
/-
  The laws' own helpers markText, markRowS and heldRowS, exactly: what is marked is held. Conditions: as each theorem says.
-/
namespace Go.Proofs.YtclhjgcapalniaaDoor
open Go.ChangeShapes Go.WideShapes Go.ChangeAt Go.RowKit Go.Joins

/-- The decimal digits of k ahead of s. -/
def dg : Nat → Nat → ByteArray → ByteArray
  | 0, _, s => s
  | f + 1, k, s => if k = 0 then s else dg f (k / 10) (⟨#[48 + UInt8.ofNat (k % 10)]⟩ ++ s)
theorem dg_zero (f : Nat) (s : ByteArray) : dg f 0 s = s := by cases f <;> simp [dg]
theorem dg_fuel : ∀ (f f' k : Nat) (s : ByteArray), k ≤ f → k ≤ f' → dg f k s = dg f' k s := by
  intro f
  induction f with
  | zero => intro f' k s h _; obtain rfl : k = 0 := by omega
            rw [dg_zero, dg_zero]
  | succ f ih =>
    intro f' k s h h'
    cases f' with
    | zero => obtain rfl : k = 0 := by omega
              rw [dg_zero, dg_zero]
    | succ f' =>
      unfold dg
      by_cases e : k = 0
      · simp [e]
      · rw [if_neg e, if_neg e]; exact ih _ _ _ (by omega) (by omega)
theorem dg_step {j : Nat} (s : ByteArray) (h : 0 < j) : dg j j s = dg (j / 10) (j / 10) (⟨#[48 + UInt8.ofNat (j % 10)]⟩ ++ s) := by
  obtain ⟨n, rfl⟩ : ∃ n, j = n + 1 := ⟨j - 1, by omega⟩
  rw [dg, if_neg (by omega)]
  exact dg_fuel _ _ _ _ (by omega) (Nat.le_refl _)
/-- The text that markText gives. -/
def mtB (k : Nat) : ByteArray := if k = 0 then ⟨#[109, 48]⟩ else ⟨#[109]⟩ ++ dg k k ⟨#[]⟩
def RetMark (k : Nat) (w : World) (e : Ending) (w' : World) : Prop := e = .returned (.string (mtB k)) ∧ Below w.heap.size w w'
/-! ### markRowS, heldRowS -/
def mrow (i : Nat) : RowD := ⟨(i : Int) * 3 + 1, (i : Int) * 3 + 2, mtB (i * 3 + 3)⟩
def mrows (n : Nat) : List RowD := (List.range n).map mrow
theorem mrows_len (n : Nat) : (mrows n).length = n := by simp [mrows]
theorem mrows_at {n i : Nat} (h : i < n) : rat (mrows n) i = mrow i := by simp [rat, mrows, List.getD_eq_getElem?_getD, h]
def MarkedEx (g n : Nat) (w : World) (e : Ending) (w' : World) : Prop := e = .returned (.int .i64 ((n : Int) * 3 + 1)) ∧ OwnRows w' g (mrows n) ∧ But g w.heap.size w w'
theorem mf_set {f : Nat → Value} {n k : Nat} (hk : k < n) (h : RowsF f (mrows n) k) :
    RowsF (fun j => if j = k * 3 + 2 then .string (mtB (k * 3 + 3)) else if j = k * 3 + 1 then .int .i64 ((k : Int) * 3 + 1 + 1) else if j = k * 3 then .int .i64 ((k : Int) * 3 + 1) else f j) (mrows n) (k + 1) := by
  have := rowsF_set h
  rw [mrows_at hk] at this
  have e : (k : Int) * 3 + 1 + 1 = (k : Int) * 3 + 2 := by omega
  rw [e]
  exact this
def RetHeld (n : Nat) (w : World) (e : Ending) (w' : World) : Prop := e = .returned (.int .i64 ((n : Int) * 3 + 1)) ∧ Below w.heap.size w w'
end Go.Proofs.YtclhjgcapalniaaDoor
/-
  Rows in a block of a call's own, with room behind them; the laws' own helper markRowS on such. Conditions: as each theorem says.
-/
namespace Go.Proofs.YtclhjgcapalniaaDoor
open Go.ChangeShapes Go.WideShapes Go.ChangeAt Go.RowKit Go.Joins

/-- Block g has C cells, of which the first are the rows rs; none is frozen. -/
def OwnC (w : World) (g C : Nat) (rs : List RowD) : Prop := ∃ f, w.rowIs g 39 C f ∧ rs.length * 3 ≤ C ∧ RowsF f rs rs.length
theorem OwnC.below {w w' : World} {g C B : Nat} {rs : List RowD} (h : OwnC w g C rs) (hb : Below B w w') (hg : g < B) : OwnC w' g C rs := by
  obtain ⟨f, h1, h2⟩ := h
  exact ⟨f, h1.of_block (hb.block g hg), h2⟩
theorem OwnC.lt {w : World} {g C : Nat} {rs : List RowD} (h : OwnC w g C rs) : g < w.heap.size := by obtain ⟨f, h1, _⟩ := h; exact h1.lt
theorem OwnC.at_ {w : World} {g C B : Nat} {rs : List RowD} (h : OwnC w g C rs) (hg : g < B) : RowsAt B w (some ⟨g, 0, none⟩) rs := by
  obtain ⟨f, h1, hC, h2⟩ := h
  refine .inr ⟨g, 0, rfl, hg, fun i hi => ?_⟩
  obtain ⟨a, b, c⟩ := h2 i hi
  rw [Nat.zero_add, h1.cell (show i * 3 < _ by omega), h1.cell (show i * 3 + 1 < _ by omega), h1.cell (show i * 3 + 2 < _ by omega), a, b, c]
  exact ⟨rfl, rfl, rfl⟩
/-- Rows that a call has handed back: none, or in a block of its own. -/
def Got (base : Nat) (w : World) (a : Option Addr) (rs : List RowD) : Prop := rs.length = 0 ∨ ∃ g C, a = some ⟨g, 0, none⟩ ∧ base ≤ g ∧ OwnC w g C rs
theorem got_own {w : World} {base : Nat} {a : Option Addr} {cap : Nat} {rs : List RowD} (h : w.ownsRow base 39 3 (.slice a rs.length cap) rs.length (cellsL rs)) : Got base w a rs := by
  rcases h.2 with ⟨_, h0⟩ | ⟨g, cap', cur, hv, hg, hh, h1, h2, h3, h4⟩
  · exact .inl h0
  · cases hv
    refine .inr ⟨g, cap * 3, rfl, hg, fun i => cur.getD i undef, ⟨cur, hh, h3, fun i hi => by rw [Array.getElem?_eq_getElem (by omega)]; simp [Array.getD, show i < cur.size by omega]⟩, by omega, fun i hi => ?_⟩
    have hc : ∀ j, j < rs.length * 3 → cur.getD j undef = ((cellsL rs)[j]?).getD undef := fun j hj => by
      have : (cur.toList.take (rs.length * 3))[j]? = (cellsL rs)[j]? := by rw [h4]
      rw [List.getElem?_take_of_lt hj] at this
      rw [← this]
      simp [Array.getD, show j < cur.size by omega]
    obtain ⟨q0, q1, q2⟩ := cellsL_at rs i hi
    simp only
    rw [hc _ (by omega), hc _ (by omega), hc _ (by omega), q0, q1, q2]
    exact ⟨rfl, rfl, rfl⟩
theorem Got.below {base B : Nat} {w w' : World} {a : Option Addr} {rs : List RowD} (h : Got base w a rs) (hb : Below B w w') (hB : w.heap.size ≤ B) : Got base w' a rs := by
  rcases h with h | ⟨g, C, e, hg, ho⟩
  · exact .inl h
  · exact .inr ⟨g, C, e, hg, ho.below hb (Nat.lt_of_lt_of_le ho.lt hB)⟩
theorem Got.rows {base : Nat} {w : World} {a : Option Addr} {rs : List RowD} (h : Got base w a rs) : RowsAt w.heap.size w a rs := by
  rcases h with h | ⟨g, C, rfl, hg, ho⟩
  · exact .inl h
  · exact ho.at_ ho.lt
theorem doT_len (rs : List RowD) (o : OpD) : (doT rs o).length ≤ 100 := by
  unfold doT
  cases ht : treeB rs
  · simp
  · cases hk : opokB o
    · simp
    · have hl := tree_len ht
      simp only [Bool.and_self, if_true]
      rcases opok_kind hk with k | k | k
      · cases hn : noWhereB rs o
        · rw [doR_put k hn]
          have := (placeN_bd (rs := rs) (up := whereU rs o) (at' := whereA rs o) (whereU_there hn (tree_three ht)) (fun g => whereA_there g)).2
          unfold putR; simp; omega
        · rw [doR_no k hn]; omega
      · unfold doR
        rw [if_pos k]
        split
        · simp [setTxt]; omega
        · omega
      · cases hn : noWhereB rs o
        · rw [doR_move k hn]
          have hno := noWhere3 (rs := rs) k
          rw [hn] at hno
          have hid : thereB rs o.id = true := by cases h : thereB rs o.id <;> simp [h] at hno ⊢
          obtain ⟨t1, t2⟩ := rest_there ht k (opok_made hk) hn
          have l1 := (rest_len (there_iff.1 hid)).1
          have := (placeN_bd (rs := restR rs (atN rs o.id)) (up := whereU rs o) (at' := whereA rs o) t1 t2).2
          unfold putR; simp; omega
        · unfold doR; rw [if_neg (by omega), hn]; simp; omega
end Go.Proofs.YtclhjgcapalniaaDoor
