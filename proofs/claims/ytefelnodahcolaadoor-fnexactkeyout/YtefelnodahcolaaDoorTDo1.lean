/-
  Contract of the model's l3Do at a change that makes a row. Conditions: as the theorem says.
-/
import Derived.Test.YtefelnodahcolaaDoorTWhere
namespace Go.Proofs.YtefelnodahcolaaDoor
open Go.ChangeShapes Go.WideShapes Go.ChangeAt Go.RowKit Go.Joins

theorem there_at {rs : List RowD} {i : Nat} (hi : i < rs.length) : atN rs (rat rs i).id < rs.length := by
  rcases Nat.lt_or_ge (atN rs (rat rs i).id) rs.length with h | h
  · exact h
  · exact absurd rfl (atN_not (show i < atN rs (rat rs i).id by omega))
theorem kidsOf_mem (rs : List RowD) (x : Nat) : ∀ k s (q : Int), q ∈ kidsOf rs x s k → ∃ j, s ≤ j ∧ j < s + k ∧ (rat rs j).id = q
  | 0, s, q, h => by simp [kidsOf] at h
  | k + 1, s, q, h => by
    rw [kidsOf, List.mem_append] at h
    rcases h with h | h
    · split at h
      · simp at h; exact ⟨s, Nat.le_refl _, by omega, h.symm⟩
      · simp at h
    · obtain ⟨j, a, b, c⟩ := kidsOf_mem rs x k (s + 1) q h
      exact ⟨j, by omega, by omega, c⟩
theorem kidsL_there {rs : List RowD} {id q : Int} (h : q ∈ kidsL rs id) : atN rs q < rs.length := by
  unfold kidsL at h
  split at h
  · rename_i ha
    obtain ⟨j, a, b, c⟩ := kidsOf_mem rs _ _ _ q h
    have he : enR rs (atN rs id) ≤ rs.length := (en_spec (D := rdep rs) ha).2.1
    have hj : j < rs.length := by omega
    rw [← c]; exact there_at hj
  · simp at h
theorem atOfL_mem {ks : List Int} {o : OpD} (h : 0 < atOfL ks o) : atOfL ks o ∈ ks := by
  unfold atOfL at h ⊢
  split
  · rename_i g
    simp only [List.any_eq_true, Bool.and_eq_true, beq_iff_eq] at g
    obtain ⟨x, h1, h2, _⟩ := g
    rw [← h2]; exact h1
  · rename_i g
    rw [if_neg g] at h; omega
theorem whereA_there {rs : List RowD} {o : OpD} (h : 0 < whereA rs o) : atN rs (whereA rs o) < rs.length := by
  unfold whereA at h ⊢
  split
  · rename_i g; rw [if_pos g] at h; omega
  · rename_i g
    rw [if_neg g] at h
    split
    · rename_i g2
      rw [if_pos g2] at h
      exact kidsL_there (atOfL_mem h)
    · rename_i g2; rw [if_neg g2] at h; omega
theorem whereU_there {rs : List RowD} {o : OpD} (hn : noWhereB rs o = false) (h3 : thereB rs 3 = true) : atN rs (whereU rs o) < rs.length := by
  unfold whereU
  rw [hn]
  simp only [Bool.false_eq_true, if_false]
  split
  · rename_i g; simpa [thereB] using g
  · simpa [thereB] using h3
theorem doR_no {rs : List RowD} {o : OpD} (hk : o.kind = 1) (hn : noWhereB rs o = true) : doR rs o = rs := by simp [doR, hk, hn]
theorem doR_put {rs : List RowD} {o : OpD} (hk : o.kind = 1) (hn : noWhereB rs o = false) : doR rs o = putR rs [⟨o.id, 0, o.txt⟩] (whereU rs o) (whereA rs o) := by simp [doR, hk, hn]
theorem row_one (w : World) (id : Int) (t : ByteArray) (B : Nat) (hB : w.heap.size < B) : RowsAt B (w.alloc (.cells #[.int .i64 id, .int .i64 0, .string t] 46)) (some ⟨w.heap.size, 0, none⟩) [⟨id, 0, t⟩] := by
  refine .inr ⟨w.heap.size, 0, rfl, hB, fun i hi => ?_⟩
  have : i = 0 := by simp at hi; exact hi
  subst this
  refine ⟨?_, ?_, ?_⟩ <;> simp [go_sem, rat]
set_option maxRecDepth 100000 in
set_option maxHeartbeats 1000000 in
theorem l3DoMake_any (B : Nat) (a : Option Addr) (cap : Nat) (rs : List RowD) (o : OpD) (w : World) (hk : o.kind = 1) (hB : B ≤ w.heap.size) (h : RowsAt B w a rs) (hf : Fit rs) (hs : SmallDep rs) (hc : rs.length ≤ cap) (hcm : cap ≤ maxLen) (h0 : 0 < rs.length) (h3 : thereB rs 3 = true) (hl : rs.length + 1 ≤ 1048576) :
    Calls Tryd.prog 36 #[.slice a rs.length cap, .agg #[.int .i64 o.kind, .int .i64 o.id, .int .i64 o.up, .int .i64 o.at_, .string o.txt]] w (RetOwn (doR rs o) w) := by
  obtain ⟨i0, hi, hz0, hz1, hz2⟩ := info_parts infoRow
  have hb0 : Below w.heap.size w (w.alloc (.cells #[.int .i64 o.kind, .int .i64 o.id, .int .i64 o.up, .int .i64 o.at_, .string o.txt] 25)) := (Below.refl _ _).alloc (Nat.le_refl _) _
  have hr0 := h.below (hb0.mono hB)
  have hx0 := opbox_new w o 25
  have hsz0 : (w.alloc (.cells #[.int .i64 o.kind, .int .i64 o.id, .int .i64 o.up, .int .i64 o.at_, .string o.txt] 25)).heap.size = w.heap.size + 1 := by simp
  have hbx : w.heap.size < (w.alloc (.cells #[.int .i64 o.kind, .int .i64 o.id, .int .i64 o.up, .int .i64 o.at_, .string o.txt] 25)).heap.size := by omega
  have hk2 : (o.kind == 2) = false := by rw [hk]; rfl
  have hk1 : (o.kind == 1) = true := by rw [hk]; rfl
  have hx4 : (w.alloc (.cells #[.int .i64 o.kind, .int .i64 o.id, .int .i64 o.up, .int .i64 o.at_, .string o.txt] 25)).cell? ⟨w.heap.size, 4, none⟩ = some (.string o.txt) := by simp [go_sem]
  have HK := Lib.hid hk
  clear hk hsz0
  have hBW : B ≤ (w.alloc (.cells #[.int .i64 o.kind, .int .i64 o.id, .int .i64 o.up, .int .i64 o.at_, .string o.txt] 25)).heap.size := Nat.le_trans hB hb0.size
  go_enter Tryd.func36, Tryd.ntmps36
  go_wp2_with fail
  refine (l2At_any B _ _ _ _ _ hr0 hf).mono ?_
  rintro e w' ⟨rfl, rfl⟩
  obtain ⟨x0, x1, x2, x3⟩ := hx0
  generalize w.alloc (.cells #[.int .i64 o.kind, .int .i64 o.id, .int .i64 o.up, .int .i64 o.at_, .string o.txt] 25) = W at *
  go_wp2_with fail
  refine (l3Where_any B _ _ _ o W hBW hr0 hf hs).mono ?_
  rintro e W1 ⟨rfl, hb1⟩
  have hW1 : Below w.heap.size w W1 := hb0.trans (hb1.mono hb0.size)
  have hr1 := h.below (hW1.mono hB)
  have y0 := (hb1.cell (p := ⟨w.heap.size, 0, none⟩) hbx).trans x0
  have y1 := (hb1.cell (p := ⟨w.heap.size, 1, none⟩) hbx).trans x1
  have y4 := (hb1.cell (p := ⟨w.heap.size, 4, none⟩) hbx).trans hx4
  have hBW1 : B ≤ W1.heap.size := Nat.le_trans hB hW1.size
  clear x0 x1 x2 x3 hx4 hr0 hb0 hBW hbx hb1
  unfold maxLen at hcm
  cases hno : noWhereB rs o
  · have HF := Lib.hid (doR_put HK.out hno)
    have hup := whereU_there hno h3
    have hat : 0 < whereA rs o → atN rs (whereA rs o) < rs.length := fun g => whereA_there g
    have HUP := Lib.hid hup
    have HAT := Lib.hid hat
    clear hup hat
    go_wp2_with fail
    have hrow := row_one W1 o.id o.txt (W1.heap.size + 1) (by omega)
    have hal : Below W1.heap.size W1 (W1.alloc (.cells #[.int .i64 o.id, .int .i64 0, .string o.txt] 46)) := (Below.refl _ _).alloc (Nat.le_refl _) _
    have hsz : (W1.alloc (.cells #[.int .i64 o.id, .int .i64 0, .string o.txt] 46)).heap.size = W1.heap.size + 1 := by simp
    refine (l3Put_any (W1.heap.size + 1) _ _ _ _ rs [⟨o.id, 0, o.txt⟩] _ _ _ (by omega) ((h.below ((hW1.trans (hal.mono hW1.size)).mono hB)).mono (by omega)) hrow hf hc (by unfold maxLen; omega) hs (fun i hi => ?_) HUP.out HAT.out (by simp) (by simp; omega)).mono ?_
    · have : i = 0 := by simp at hi; exact hi
      subst this
      simp [rat]
    rintro e W2 ⟨ra, rc, rfl, own2, hrc, hb2⟩
    go_wp2
    go_ret
    exact ⟨ra, rc, by rw [HF.out]; rfl, by rw [HF.out]; exact own_mono own2 (Nat.le_trans hW1.size hal.size), by rw [HF.out]; exact hrc, (hW1.trans (hal.mono hW1.size)).trans (hb2.mono (Nat.le_trans hW1.size hal.size))⟩
  · have HF := Lib.hid (doR_no HK.out hno)
    obtain ⟨b, off, rfl, hbB, _⟩ := hr1.at_ h0
    have hown0 := own_empty3 W1 46
    have hnews0 := RowsAt.news (s := 0) (n := rs.length) hr1 (by omega)
    rw [Nat.zero_mul, Nat.add_zero, List.drop_zero, List.take_length] at hnews0
    have HNW := Lib.hid hnews0
    clear hnews0
    have hbW : b < W1.heap.size := by omega
    go_wp2_with (at_builtin; refine wpList_append_own _ rfl _ _ 28 rfl W1.heap.size 46 i0 (.agg #[.int .i64 0, .int .i64 0, .string ⟨#[]⟩]) 3 32 Tryd.underlying28 hi hz0 hz1 hz2 rfl (by decide) _ _ _ rfl hown0 ⟨b, off, none⟩ rs.length cap (cellsL rs) rfl ?c0 ?c1 ?c2 ?c3 ?c4 ?c5 ?_)
    case c0 => exact cellsL_len rs
    case c1 => intro j u hu; rw [World.cell?_alloc_lt _ _ _ (by rw [addr_add]; exact hbW)]; exact HNW.out j u hu
    case c2 => exact cellsL_plain _
    case c3 => unfold maxLen; omega
    case c4 => omega
    case c5 => simp
    intro v1 w1 own1 grow1 _
    have hb2 : Below W1.heap.size W1 w1 := ((Below.refl _ W1).alloc (Nat.le_refl _) (.cells #[] 46)).grown grow1 (by simp) (own_block hown0)
    have own2 : w1.ownsRow W1.heap.size 46 3 v1 rs.length (cellsL rs) := by simpa using own1
    obtain ⟨va, vc, rfl, hvc⟩ := own_slice own2
    go_wp2
    go_ret
    exact ⟨va, vc, by rw [HF.out]; rfl, by rw [HF.out]; exact own_mono own2 hW1.size, by rw [HF.out]; exact hvc, hW1.trans (hb2.mono hW1.size)⟩
end Go.Proofs.YtefelnodahcolaaDoor
