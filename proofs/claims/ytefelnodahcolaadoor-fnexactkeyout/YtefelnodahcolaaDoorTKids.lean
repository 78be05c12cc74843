/-
  Contract of the model's l2Kids: it returns the children's numbers in memory of its own. Conditions: the rows lie in memory as a slice of rows.
-/
import Derived.Test.YtefelnodahcolaaDoorTUp
import Derived.Maps.AppendAt
namespace Go.Proofs.YtefelnodahcolaaDoor
open Go.ChangeShapes Go.WideShapes Go.ChangeAt Go.RowKit Go.Joins

/-- A slice of ints of the call's own, and nothing old turned. -/
def RetInts (xs : List Int) (w : World) (e : Ending) (w' : World) : Prop :=
  ∃ v, e = .returned v ∧ w'.ownsRow w.heap.size 3 1 v xs.length (xs.map (Value.int .i64)) ∧ Below w.heap.size w w'
theorem infoInt : (Tryd.prog.info? 3).map (fun i => (i.zero, i.size, i.bytes)) = some (some (.int .i64 0), 1, 8) := by kernel_rfl
theorem own_empty (w : World) (t : TypeId) : (w.alloc (.cells #[] t)).ownsRow w.heap.size t 1 (.slice (some ⟨w.heap.size, 0, none⟩) 0 0) 0 [] :=
  ⟨rfl, .inr ⟨w.heap.size, 0, #[], rfl, Nat.le_refl _, heap_alloc_new _ _, Nat.le_refl _, Nat.zero_le _, rfl, rfl⟩⟩
theorem own_below {w w' : World} {base : Nat} {e : TypeId} {size : Nat} {v : Value} {n : Nat} {xs : List Value} (h : w.ownsRow base e size v n xs) (hb : Below w.heap.size w w') : w'.ownsRow base e size v n xs := by
  obtain ⟨h1, h2⟩ := h
  refine ⟨h1, ?_⟩
  rcases h2 with h2 | ⟨g, cap, cur, hv, hg, hh, r⟩
  · exact .inl h2
  · have hlt : g < w.heap.size := by
      rcases Nat.lt_or_ge g w.heap.size with q | q
      · exact q
      · rw [Array.getElem?_eq_none q] at hh; cases hh
    exact .inr ⟨g, cap, cur, hv, hg, by rw [hb.block g hlt]; exact hh, r⟩
theorem own_drewN {w : World} {base : Nat} {e : TypeId} {size : Nat} {v : Value} {n : Nat} {xs : List Value} (k : Nat) (h : w.ownsRow base e size v n xs) : (w.drewN k).ownsRow base e size v n xs := h
theorem own_slice {w : World} {base : Nat} {e : TypeId} {size : Nat} {v : Value} {n : Nat} {xs : List Value} (h : w.ownsRow base e size v n xs) : ∃ a cap, v = .slice a n cap ∧ n ≤ cap := by
  rcases h.2 with ⟨rfl, rfl⟩ | ⟨g, cap, cur, hv, _, _, hc, _⟩
  · exact ⟨none, 0, rfl, Nat.le_refl _⟩
  · exact ⟨_, cap, hv, hc⟩
theorem own_block {w : World} {base : Nat} {e : TypeId} {size : Nat} {v : Value} {n : Nat} {xs : List Value} (h : w.ownsRow base e size v n xs) : ∀ k, v.ownBlock = some k → base ≤ k := by
  intro k hk
  rcases h.2 with ⟨rfl, rfl⟩ | ⟨g, cap, cur, rfl, hg, _⟩
  · cases hk
  · cases hk; exact hg
theorem kids_step_no {rs : List RowD} {i k : Nat} (hik : i + 1 ≤ k) (h : ((rat rs k).dep == (rat rs i).dep + 1) = false) : kidsOf rs i (i + 1) (k + 1 - (i + 1)) = kidsOf rs i (i + 1) (k - (i + 1)) := by
  rw [show k + 1 - (i + 1) = (k - (i + 1)) + 1 by omega, kidsOf_snoc, show i + 1 + (k - (i + 1)) = k by omega, if_neg (by unfold rdep; simpa using h), List.append_nil]
theorem kids_step_yes {rs : List RowD} {i k : Nat} (hik : i + 1 ≤ k) (h : ((rat rs k).dep == (rat rs i).dep + 1) = true) : kidsOf rs i (i + 1) (k + 1 - (i + 1)) = kidsOf rs i (i + 1) (k - (i + 1)) ++ [(rat rs k).id] := by
  rw [show k + 1 - (i + 1) = (k - (i + 1)) + 1 by omega, kidsOf_snoc, show i + 1 + (k - (i + 1)) = k by omega, if_pos (by unfold rdep; simpa using h)]
theorem kidsL_no {rs : List RowD} {id : Int} (h : ¬ atN rs id < rs.length) : kidsL rs id = [] := by unfold kidsL; rw [if_neg h]
theorem kidsL_yes {rs : List RowD} {id : Int} (h : atN rs id < rs.length) : kidsL rs id = kidsOf rs (atN rs id) (atN rs id + 1) (enR rs (atN rs id) - (atN rs id + 1)) := by unfold kidsL; rw [if_pos h]; rfl
theorem own_snoc {w : World} {base : Nat} {e : TypeId} {v : Value} {xs : List Int} {x : Int} (h : w.ownsRow base e 1 v (xs.length + 1) (xs.map (Value.int .i64) ++ [.int .i64 x])) : w.ownsRow base e 1 v (xs ++ [x]).length ((xs ++ [x]).map (Value.int .i64)) := by
  simpa using h
def SmallDep (rs : List RowD) : Prop := ∀ i, i < rs.length → -1000000 ≤ (rat rs i).dep ∧ (rat rs i).dep ≤ 1000000
set_option maxRecDepth 100000 in
set_option maxHeartbeats 1000000 in
theorem l2Kids_any (B : Nat) (a : Option Addr) (cap : Nat) (rs : List RowD) (id : Int) (w : World) (hB : B ≤ w.heap.size) (h : RowsAt B w a rs) (hf : Fit rs) (hs : SmallDep rs) :
    Calls Tryd.prog 23 #[.slice a rs.length cap, .int .i64 id] w (RetInts (kidsL rs id) w) := by
  have hl := hf.1
  obtain ⟨i0, hi, hz0, hz1, hz2⟩ := info_parts infoInt
  by_cases h1 : atN rs id < rs.length
  · have H1 := Lib.hid (atI_pos h1)
    have HK := Lib.hid (kidsL_yes h1)
    generalize atN rs id = i at *
    have he := (en_spec (D := rdep rs) (m := rs.length) h1).2.1
    have he' : i + 1 ≤ enR rs i := (en_spec (D := rdep rs) (m := rs.length) h1).1
    have he2 : enR rs i ≤ rs.length := he
    clear he
    go_enter Tryd.func23, Tryd.ntmps23
    go_wp2_with fail
    refine (l2At_any B _ _ _ _ _ (h.below ((Below.refl _ _).alloc hB _)) hf).mono ?_
    rintro e w' ⟨rfl, rfl⟩
    rw [H1.out]
    go_wp2_with fail
    go_loopw [5, 7] (fun v t wr => ∃ k : Nat, i + 1 ≤ k ∧ k ≤ enR rs i ∧ t = .int .i64 k ∧ wr.ownsRow w.heap.size 3 1 v (kidsOf rs i (i + 1) (k - (i + 1))).length ((kidsOf rs i (i + 1) (k - (i + 1))).map (Value.int .i64)) ∧ Below w.heap.size w wr) (fun _ t _ => enR rs i - (intOf t).toNat)
    case atStart => exact ⟨i + 1, by omega, by omega, by go_num, by rw [Nat.sub_self]; exact own_empty w _, (Below.refl _ _).alloc (Nat.le_refl _) _⟩
    case round =>
      obtain ⟨k, hk1, hk2, rfl, hown, hb⟩ := hrel
      have hr := h.below (hb.mono hB)
      obtain ⟨sa, sc, rfl, _⟩ := own_slice hown
      go_wp2_with fail
      refine (l2End_any B _ _ _ _ _ (Nat.le_trans hB hb.size) hr hf h1).mono ?_
      rintro e w1 ⟨rfl, hb1⟩
      have hown1 := own_below hown hb1
      have hb2 : Below w.heap.size w w1 := hb.trans (hb1.mono hb.size)
      have hr1 := h.below (hb2.mono hB)
      clear hown hr hb1 hb
      by_cases hlt : k < enR rs i
      · obtain ⟨b, off, rfl, _, c0, c1, c2⟩ := hr1.at_ (show k < rs.length by omega)
        obtain ⟨b', off', e2, _, d0, d1, d2⟩ := hr1.at_ h1
        cases e2
        have i1 : (k : Int) < (rs.length : Int) := by omega
        have i2 : (i : Int) < (rs.length : Int) := by omega
        obtain ⟨s1, s2⟩ := hs i h1
        have hkl := kidsOf_len rs i (k - (i + 1)) (i + 1)
        have hw1 : IntKind.i64.wrap ((rat rs i).dep + 1) = (rat rs i).dep + 1 := IntWalk.i64_in _ (by omega)
        cases hd : ((rat rs k).dep == (rat rs i).dep + 1)
        · have HN := Lib.hid (kids_step_no hk1 hd)
          go_wp2
          go_quiet (fail)
          go_wp2
          go_roundw
          case rel => exact ⟨k + 1, by omega, by omega, by go_num, by rw [HN.out]; exact hown1, below_drewN _ hb2⟩
          case measure => simp [intOf]; omega
        · have HN := Lib.hid (kids_step_yes hk1 hd)
          go_wp2
          go_quiet (fail)
          go_wp2_with (at_builtin; refine wpList_append_own _ rfl _ _ 43 rfl w.heap.size 3 i0 (.int .i64 0) 1 8 Tryd.underlying43 hi hz0 hz1 hz2 rfl (by decide) _ _ _ rfl (own_drewN nq (hown1.alloc _)) ⟨w1.heap.size, 0, none⟩ 1 1 [.int .i64 (rat rs k).id] rfl rfl ?c1 ?c2 ?c3 ?c4 ?c5 ?_)
          case c1 => exact cell_one_new w1 _ _
          case c2 => intro u hu; simp at hu; subst hu; rfl
          case c3 => unfold maxLen; omega
          case c4 => omega
          case c5 => have := hb2.size; simp; omega
          intro v' w2 hown2 hgrow _
          have hb3 : Below w.heap.size w w2 := (below_drewN nq (hb2.alloc hb2.size (.cells #[.int .i64 (rat rs k).id] 3))).grown hgrow (by have := hb2.size; simp; omega) (own_block hown1)
          obtain ⟨va, vc, rfl, _⟩ := own_slice hown2
          have hown3 := own_snoc hown2
          clear hown2 hgrow hown1
          go_wp2
          go_roundw
          case rel => exact ⟨k + 1, by omega, by omega, by go_num, by rw [HN.out]; exact hown3, hb3⟩
          case measure => simp [intOf]; omega
      · obtain rfl : k = enR rs i := by omega
        go_wp2
        go_ret
        exact ⟨_, rfl, by rw [HK.out]; exact hown1, hb2⟩
  · have H1 := Lib.hid (atI_neg (rs := rs) (id := id) (by have := atN_le rs id; omega))
    have HK := Lib.hid (kidsL_no h1)
    go_enter Tryd.func23, Tryd.ntmps23
    go_wp2_with fail
    refine (l2At_any B _ _ _ _ _ (h.below ((Below.refl _ _).alloc hB _)) hf).mono ?_
    rintro e w' ⟨rfl, rfl⟩
    rw [H1.out]
    go_wp2
    go_ret
    exact ⟨_, rfl, by rw [HK.out]; exact own_empty w _, (Below.refl _ _).alloc (Nat.le_refl _) _⟩
end Go.Proofs.YtefelnodahcolaaDoor
