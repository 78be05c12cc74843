/-
  Contracts of the program's outward, root and away. Conditions: the nodes of an outline lie in memory.
-/
import Derived.Test.YtclhjgcapalniaaDoorJKeyI2
namespace Go.Proofs.YtclhjgcapalniaaDoor
open Go.ChangeShapes Go.WideShapes Go.ChangeAt Go.RowKit Go.Joins

def outA (rs : List RowD) (k : Nat) : Int := if madeB (upAt rs k) then upAt rs k else 0
def outU (rs : List RowD) (k : Nat) : Int := if madeB (upAt rs k) then upAt rs (atN rs (upAt rs k)) else 0
theorem par_row {rs : List RowD} (ht : treeB rs = true) {k : Nat} (hk : k < rs.length) (hd : 1 ≤ (rat rs k).dep) : ∃ u, u < k ∧ par (dp rs) (k + 1) = u + 1 ∧ upAt rs k = (rat rs u).id ∧ (rat rs u).dep + 1 = (rat rs k).dep := by
  have hT := treeP_of ht
  have h1 := par_spec hT.deps (i := k + 1) (by omega) (by omega)
  have h2 := par_dep hT.deps (i := k + 1) (by omega) (by omega)
  have h3 := par_shift hT hk
  rcases hp : par (dp rs) (k + 1) with _ | u
  · rw [hp] at h2
    have e0 : dp rs 0 = -1 := rfl
    have e1 : dp rs (k + 1) = (rat rs k).dep := rfl
    omega
  · rw [hp] at h1 h2 h3
    refine ⟨u, by omega, rfl, h3.symm, ?_⟩
    have e0 : dp rs (u + 1) = (rat rs u).dep := rfl
    have e1 : dp rs (k + 1) = (rat rs k).dep := rfl
    omega
theorem dep_made {rs : List RowD} (ht : treeB rs = true) {k : Nat} (hk : k < rs.length) : ((rat rs k).dep == 0) = !madeB (rat rs k).id := by
  rcases rok_cases ((treeP_of ht).rok k hk) with ⟨g, h, _⟩ | ⟨_, g, h, _⟩
  · have : madeB (rat rs k).id = false := by rw [Bool.eq_false_iff]; intro q; have := (rootB_iff _).1 g; have := (madeB_iff _).1 q; omega
    rw [h, this]; rfl
  · rw [g]; simp; omega
set_option maxRecDepth 100000 in
set_option maxHeartbeats 1000000 in
theorem outward_any (nb : Nat → Nat) (rs : List RowD) (k : Nat) (w : World) (ht : treeB rs = true) (hk : k < rs.length) (hm : madeB (rat rs k).id = true) (hN : Nodes w nb rs (rs.length + 1)) :
    Calls Tryd.prog 107 #[.pointer (some ⟨nb (k + 1), 0, none⟩)] w (RetBelow (spotV (outU rs k) (outA rs k) (madeB (upAt rs k))) w) := by
  have hT := treeP_of ht
  obtain ⟨u, huk, hp, eu, hdu⟩ := par_row ht hk (made_dep ht hk hm)
  have hul : u < rs.length := by omega
  have hal : Below w.heap.size w (w.alloc (.cells #[.int .i64 0, .int .i64 0] 79)) := (Below.refl _ _).alloc (Nat.le_refl _) _
  have hN1 := hN.below hal
  have hN3 := hN.below hal.drew
  have hS1 : SBox (w.alloc (.cells #[.int .i64 0, .int .i64 0] 79)).drew w.heap.size := SBox.new w
  have hO : upO rs (k + 1) = some (u + 1) := by unfold upO; rw [if_neg (by omega), hp]
  have l3 := (hN1.links (show k + 1 < rs.length + 1 by omega)).1
  have l3' := (hN3.links (show k + 1 < rs.length + 1 by omega)).1
  rw [hO] at l3 l3'
  simp only [padr] at l3 l3'
  have r1 : (w.alloc (.cells #[.int .i64 0, .int .i64 0] 79)).cell? ⟨nb (u + 1), 1, none⟩ = some (.int .i64 (rat rs u).dep) := (hN1.row (show u + 1 < rs.length + 1 by omega)).2.1
  have hdm := dep_made ht hul
  cases hb : madeB (rat rs u).id
  · rw [hb] at hdm
    have e1 : outA rs k = 0 := by unfold outA; rw [eu, hb]; rfl
    have e2 : outU rs k = 0 := by unfold outU; rw [eu, hb]; rfl
    rw [e1, e2, eu, hb]
    have hdm' : ((rat rs u).dep == 0) = true := hdm
    clear hN hN1 hN3 e1 e2 hS1
    go_enter Tryd.func107, Tryd.ntmps107
    go_wp2_with fail
    refine (isRoot_any _ _ _ r1).mono ?_
    rintro e w' ⟨rfl, rfl⟩
    rw [hdm']
    go_wp2
    go_returns
    exact ⟨rfl, by go_grown⟩
  · rw [hb] at hdm
    have e0 : atN rs (rat rs u).id = u := hT.at_self hul
    have e1 : outA rs k = (rat rs u).id := by unfold outA; rw [eu, hb]; rfl
    have e2 : outU rs k = upAt rs u := by unfold outU; rw [eu, hb, e0]; rfl
    rw [e1, e2, eu, hb]
    have hdm' : ((rat rs u).dep == 0) = false := hdm
    obtain ⟨v, hvu, hq, ev, _⟩ := par_row ht hul (made_dep ht hul hb)
    rw [ev]
    have hO2 : upO rs (u + 1) = some (v + 1) := by unfold upO; rw [if_neg (by omega), hq]
    have l5 := (hN3.links (show u + 1 < rs.length + 1 by omega)).1
    rw [hO2] at l5
    simp only [padr] at l5
    have r2 : (w.alloc (.cells #[.int .i64 0, .int .i64 0] 79)).drew.cell? ⟨nb (u + 1), 0, none⟩ = some (.int .i64 (rat rs u).id) := (hN3.row (show u + 1 < rs.length + 1 by omega)).1
    have r3 : (w.alloc (.cells #[.int .i64 0, .int .i64 0] 79)).drew.cell? ⟨nb (v + 1), 0, none⟩ = some (.int .i64 (rat rs v).id) := (hN3.row (show v + 1 < rs.length + 1 by omega)).1
    have hlu := hN3.lt (show u + 1 < rs.length + 1 by omega)
    have hlv := hN3.lt (show v + 1 < rs.length + 1 by omega)
    clear hN hN1 hN3 e1 e2 e0
    go_enter Tryd.func107, Tryd.ntmps107
    go_wp2_with fail
    refine (isRoot_any _ _ _ r1).mono ?_
    rintro e w' ⟨rfl, rfl⟩
    rw [hdm']
    go_wp2_with fail
    go_region_with ((go_at_call 120; refine (behind_some _ _ _ _ _ hlv r3 hlu r2).mono ?_; rintro e w2 ⟨rfl, hb2⟩; have hS2 := hS1.below hb2 hS1.lt; obtain ⟨d0, d1⟩ := hS2.cells; have y0 := hS2.frozen 0; have y1 := hS2.frozen 1))
    all_goals
      have HP := Lib.hid ((hal.drew.trans (hb2.mono hal.drew.size)).trans (sgiven_below (n := w.heap.size) w2 w.heap.size (rat rs v).id (rat rs u).id (Nat.le_refl _)))
      clear hS2 hS1 hb2
      go_wp2
      exact bodyPost_ret (by simp [results, Tryd.results107, go_sem, d0, d1, spotV]) rfl ⟨rfl, HP.out⟩
theorem tree_two {rs : List RowD} (ht : treeB rs = true) : thereB rs 2 = true := by
  have hT := treeP_of ht
  have key : ∀ k, nroots rs k = 2 → ∃ i, i < k ∧ rootB (rat rs i).id = true ∧ nroots rs i = 1 := by
    intro k
    induction k with
    | zero => intro h; simp [nroots] at h
    | succ k ih =>
      intro h
      unfold nroots at h
      by_cases hr : rootB (rat rs k).id = true
      · rw [if_pos hr] at h
        exact ⟨k, by omega, hr, by omega⟩
      · rw [if_neg hr] at h
        obtain ⟨i, a, b⟩ := ih (by omega)
        exact ⟨i, by omega, b⟩
  obtain ⟨i, a, b, c⟩ := third_root rs rs.length hT.three
  obtain ⟨j, a', b', c'⟩ := key i c
  have e := hT.rord j (by omega) b'
  rw [c'] at e
  have := there_at (rs := rs) (i := j) (by omega)
  rw [e] at this
  exact there_iff.2 this
def RootOf (nb : Nat → Nat) (rs : List RowD) (k : Nat) (w : World) (e : Ending) (w' : World) : Prop :=
  ∃ r, r < rs.length ∧ e = .returned (.pointer (some ⟨nb (r + 1), 0, none⟩)) ∧ (undB rs (rat rs k).id 2 = ((rat rs r).id == 2)) ∧ w = w'
set_option maxRecDepth 100000 in
set_option maxHeartbeats 1000000 in
theorem root_any (nb : Nat → Nat) (rs : List RowD) (k : Nat) (w : World) (ht : treeB rs = true) (hk : k < rs.length) (hN : Nodes w nb rs (rs.length + 1)) :
    Calls Tryd.prog 121 #[.pointer (some ⟨nb (k + 1), 0, none⟩)] w (RootOf nb rs k w) := by
  have hT := treeP_of ht
  have h2 := there_iff.1 (tree_two ht)
  have HU : Hid (∀ r, r < rs.length → (rat rs r).dep = 0 → (un (dp rs) (rs.length + 1) (k + 1) (atN rs 2 + 1) ↔ un (dp rs) (rs.length + 1) (r + 1) (atN rs 2 + 1)) → undB rs (rat rs k).id 2 = ((rat rs r).id == 2)) := by
    intro r hr hd hiff
    have hD := hT.deps
    rw [undB_node ht (there_iff.2 (by rw [hT.at_self hk]; exact hk)) (tree_two ht), hT.at_self hk, Bool.eq_iff_iff, unB_iff, hiff, beq_iff_eq]
    by_cases e : r = atN rs 2
    · subst e
      exact ⟨fun _ => atN_id h2, fun _ => un_self (by omega)⟩
    · rw [un_par hD (show 1 ≤ r + 1 by omega) (by omega) (show atN rs 2 + 1 < rs.length + 1 by omega) (by omega)]
      have hp := par_dep hD (show 1 ≤ r + 1 by omega) (by omega)
      have hs := par_spec hD (show 1 ≤ r + 1 by omega) (show r + 1 < rs.length + 1 by omega)
      have e1 : dp rs (r + 1) = (rat rs r).dep := rfl
      have p0 : par (dp rs) (r + 1) = 0 := by
        rcases Nat.eq_zero_or_pos (par (dp rs) (r + 1)) with g | g
        · exact g
        · have := hD.low _ g (by omega); omega
      rw [p0]
      refine ⟨fun g => absurd g (un_top (by omega)), fun g => ?_⟩
      have := hT.at_self hr
      rw [g] at this; exact absurd this.symm e
  have HT := Lib.hid hT
  have HP : Hid (∀ c, c < rs.length → (rat rs c).dep ≠ 0 → ∃ u, u < c ∧ upO rs (c + 1) = some (u + 1) ∧ (un (dp rs) (rs.length + 1) (c + 1) (atN rs 2 + 1) ↔ un (dp rs) (rs.length + 1) (u + 1) (atN rs 2 + 1))) := by
    intro c hc hd
    have h0 := (rok_dep (hT.rok c hc)).1
    obtain ⟨u, hu, hp, _, hdu⟩ := par_row ht hc (by omega)
    refine ⟨u, hu, by unfold upO; rw [if_neg (by omega), hp], ?_⟩
    have hne : c + 1 ≠ atN rs 2 + 1 := fun e => by
      have : c = atN rs 2 := by omega
      have r2 := (rok_root (hT.rok _ h2)).2 (by rw [atN_id h2]; rfl)
      rw [this] at hd; exact hd r2
    rw [un_par hT.deps (show 1 ≤ c + 1 by omega) (by omega) (show atN rs 2 + 1 < rs.length + 1 by omega) hne, hp]
  clear hT h2 ht
  go_enter Tryd.func121, Tryd.ntmps121
  go_wp2_with fail
  go_loopg [0] k (fun c p wx => c < rs.length ∧ p = .pointer (some ⟨nb (c + 1), 0, none⟩) ∧ Hid (un (dp rs) (rs.length + 1) (k + 1) (atN rs 2 + 1) ↔ un (dp rs) (rs.length + 1) (c + 1) (atN rs 2 + 1)) ∧ wx = w)
  case atStart => exact ⟨hk, rfl, Iff.rfl, rfl⟩
  case round =>
    obtain ⟨hc, rfl, hiff, rfl⟩ := hrel
    have r1 : wr.cell? ⟨nb (gk + 1), 1, none⟩ = some (.int .i64 (rat rs gk).dep) := (hN.row (show gk + 1 < rs.length + 1 by omega)).2.1
    have l3 := (hN.links (show gk + 1 < rs.length + 1 by omega)).1
    by_cases hd : (rat rs gk).dep = 0
    · have hd' := beq_iff_eq.2 hd
      have HF := Lib.hid (HU.out gk hc hd hiff.out)
      go_wp2_with fail
      refine (isRoot_any _ _ _ r1).mono ?_
      rintro e w' ⟨rfl, rfl⟩
      rw [hd']
      go_wp2
      go_ret
      exact ⟨gk, hc, rfl, HF.out, rfl⟩
    · have hd' : ((rat rs gk).dep == 0) = false := beq_eq_false_iff_ne.2 hd
      obtain ⟨u, hu, hO, hj⟩ := HP.out gk hc hd
      have HJ := Lib.hid (hiff.out.trans hj)
      rw [hO] at l3
      simp only [padr] at l3
      clear hj hO hd
      go_wp2_with fail
      refine (isRoot_any _ _ _ r1).mono ?_
      rintro e w' ⟨rfl, rfl⟩
      rw [hd']
      go_wp2
      go_roundg u
      case measure => exact hu
      case rel => exact ⟨by omega, rfl, HJ, rfl⟩
set_option maxRecDepth 100000 in
set_option maxHeartbeats 1000000 in
theorem away_any (nb : Nat → Nat) (rs : List RowD) (k : Nat) (w : World) (ht : treeB rs = true) (hk : k < rs.length) (hN : Nodes w nb rs (rs.length + 1)) :
    Calls Tryd.prog 108 #[.pointer (some ⟨nb (k + 1), 0, none⟩)] w (RetBelow (spotV (if undB rs (rat rs k).id 2 then 0 else 2) 0 (!undB rs (rat rs k).id 2)) w) := by
  have hal : Below w.heap.size w (w.alloc (.cells #[.int .i64 0, .int .i64 0] 79)) := (Below.refl _ _).alloc (Nat.le_refl _) _
  have hN1 := hN.below hal
  have hS1 := SBox.new w
  cases hu : undB rs (rat rs k).id 2
  · go_enter Tryd.func108, Tryd.ntmps108
    go_wp2_with fail
    refine (root_any nb rs k _ ht hk hN1).mono ?_
    rintro e w' ⟨r, hr, rfl, he, rfl⟩
    rw [hu] at he
    have he' : ((rat rs r).id == 2) = false := he.symm
    have r0 : (w.alloc (.cells #[.int .i64 0, .int .i64 0] 79)).cell? ⟨nb (r + 1), 0, none⟩ = some (.int .i64 (rat rs r).id) := (hN1.row (show r + 1 < rs.length + 1 by omega)).1
    clear he
    go_wp2_with fail
    refine (trash_any _).mono ?_
    rintro e w2 ⟨rfl, hb2⟩
    have hS2 := hS1.below hb2 hS1.lt
    obtain ⟨d0, d1⟩ := hS2.cells
    have y0 := hS2.frozen 0
    have y1 := hS2.frozen 1
    have HP := Lib.hid ((hal.trans (hb2.mono hal.size)).trans (sgiven_below (n := w.heap.size) w2 w.heap.size 2 0 (Nat.le_refl _)))
    clear hS2 hS1 hb2
    go_wp2
    exact bodyPost_ret (by simp [results, Tryd.results108, go_sem, d0, d1, spotV]) rfl ⟨rfl, HP.out⟩
  · go_enter Tryd.func108, Tryd.ntmps108
    go_wp2_with fail
    refine (root_any nb rs k _ ht hk hN1).mono ?_
    rintro e w' ⟨r, hr, rfl, he, rfl⟩
    rw [hu] at he
    have he' : ((rat rs r).id == 2) = true := he.symm
    have r0 : (w.alloc (.cells #[.int .i64 0, .int .i64 0] 79)).cell? ⟨nb (r + 1), 0, none⟩ = some (.int .i64 (rat rs r).id) := (hN1.row (show r + 1 < rs.length + 1 by omega)).1
    clear he
    go_wp2
    go_returns
    exact ⟨rfl, by go_grown⟩
end Go.Proofs.YtclhjgcapalniaaDoor
