/-
  The document's log of a device: by contract.
-/
import Derived.Test.YtjdacpnfgpdjhaaDoorDecRow
import Derived.Test.YtjdacpnfgpdjhaaDoorGeoRefs
import Derived.Test.YtjdacpnfgpdjhaaDoorDevRefCheckAll
import Derived.Deep.Cut
namespace Go.Proofs.YtjdacpnfgpdjhaaDoor
open Go.RowKit
set_option linter.unusedVariables false
set_option linter.unusedSimpArgs false

/-- May a log be told? (b: may the device be?) Which sectors it is. -/
def logOkB (g : G) (D : Dev) (b : Bool) : Bool := mayG g && (b && decide ((D.S.length : Int) = totalV g))
def logRow (g : G) (D : Dev) : List ByteArray := (D.S.drop (1 + 2 * g.N).toNat).take g.L.toNat
/-- What is told of a log. -/
def LogPost (g : G) (D : Dev) (b : Bool) (B : Nat) (e : Ending) (w' : World) : Prop :=
  (logOkB g D b = false ∧ e = .returned (.tuple #[.slice none 0 0, .int .i64 2])) ∨ (logOkB g D b = true ∧ RowDPost (logRow g D) B e w')
theorem logOk_may {g : G} {D : Dev} {b : Bool} (h : mayG g = false) : logOkB g D b = false := by unfold logOkB; rw [h]; rfl
theorem logOk_dev {g : G} {D : Dev} : logOkB g D false = false := by unfold logOkB; cases mayG g <;> rfl
theorem logOk_len {g : G} {D : Dev} {b : Bool} (h : ¬ (D.S.length : Int) = totalV g) : logOkB g D b = false := by
  unfold logOkB
  rw [decide_eq_false h]
  cases mayG g <;> cases b <;> rfl
theorem logOk_yes {g : G} {D : Dev} (h : mayG g = true) (hl : (D.S.length : Int) = totalV g) : logOkB g D true = true := by
  unfold logOkB
  rw [h, decide_eq_true hl]
  rfl
/-- Where the log stands among the sectors. -/
theorem log_span {g : G} (h : mayG g = true) : logV g 0 = 1 + 2 * g.N ∧ 1 ≤ g.N ∧ g.N ≤ 16 ∧ 8 ≤ g.L ∧ g.L ≤ 512 ∧ 1 + 2 * g.N + g.L < totalV g ∧ totalV g ≤ 4000 := by
  have hg := of_may h
  have h1 := slots_bd h
  have h2 := data_bd h
  have h3 := log_in h (a := 0) (by omega) (by omega)
  have h4 := total_in h
  have h5 : 1 ≤ g.B * g.P := by
    have := Int.mul_le_mul (a := 1) (b := 1) (c := g.B) (d := g.P) (by omega) (by omega) (by omega) (by omega)
    omega
  omega
/-- A piece of a row lies. -/
theorem lies_piece {w : World} {B n : Nat} {ad td : Addr} {S : List ByteArray} (h : Lies w B (some ad) n (strV S)) {k m : Nat} (hkm : k + m ≤ n) (ht : ∀ j, td.add j = ad.add (k + j)) (hb : 0 < n → td.block = ad.block) :
    Lies w B (some td) m (((S.drop k).take m).map Value.string) := by
  have hl : S.length = n := by have := h.1; simpa [strV] using this
  refine ⟨by simp; omega, fun h0 => ?_⟩
  obtain ⟨ad', e, hbk, hc⟩ := h.2 (by omega)
  injection e with e
  subst e
  refine ⟨td, rfl, by rw [hb (by omega)]; exact hbk, fun j u hu => ?_⟩
  rw [ht]
  refine hc _ _ ?_
  have hj : j < m := by
    have := (List.getElem?_eq_some_iff.1 hu).1
    simp at this
    omega
  rw [List.getElem?_map, List.getElem?_take, if_pos hj, List.getElem?_drop] at hu
  rw [strV, List.getElem?_map]
  exact hu

/-- What a log comes to, one way of saying it. -/
def logC (g : G) (D : Dev) (b : Bool) : List CmdM := if logOkB g D b = true then (rowO (logRow g D)).getD [] else []
def logE (g : G) (D : Dev) (b : Bool) : Int := if logOkB g D b = true then (if rowO (logRow g D) = none then 50 else 0) else 2
theorem log_post {g : G} {D : Dev} {b : Bool} {B : Nat} {e : Ending} {w' : World} (h : LogPost g D b B e w') :
    ∃ A n c, e = .returned (.tuple #[.slice A n c, .int .i64 (logE g D b)]) ∧ LiesC w' w'.heap.size A n (logC g D b) ∧ n ≤ maxLen := by
  unfold logE logC
  rcases h with ⟨h, rfl⟩ | ⟨h, ⟨h1, rfl⟩ | ⟨m, v, h1, rfl, own⟩⟩
  · refine ⟨none, 0, 0, ?_, ?_, Nat.zero_le _⟩
    · rw [if_neg (by rw [h]; simp)]
    · rw [if_neg (by rw [h]; simp)]; exact ⟨rfl, Lies.nothing⟩
  · refine ⟨none, 0, 0, ?_, ?_, Nat.zero_le _⟩
    · rw [if_pos h, if_pos h1]
    · rw [if_pos h, h1]; exact ⟨rfl, Lies.nothing⟩
  · obtain ⟨A, c, rfl, h2, h3⟩ := ow_shape own
    refine ⟨A, m.length, c, ?_, ?_, Nat.le_trans h2 h3⟩
    · rw [if_pos h, if_neg (by rw [h1]; simp)]
    · rw [if_pos h, h1]; exact ⟨rfl, ow_lies own⟩

set_option maxRecDepth 100000 in
set_option maxHeartbeats 4000000 in
theorem refDLog_any (g : G) (v : Value) (D : Dev) (b : Bool) (w : World) (hD : DevAt w w.heap.size v D) (hS : D.S.length ≤ 1099511627776) (hBd : DevBd D) (hsz : ∀ s ∈ D.S, s.size ≤ maxLen) (hP : b = true ↔ MayD D) :
    Calls Tryd.prog 19 #[.agg #[.int .i64 g.N, .int .i64 g.S, .int .i64 g.B, .int .i64 g.P, .int .i64 g.J, .int .i64 g.L, .int .i64 g.E, .int .i64 g.T], v] w fun e w' => LogPost g D b w.heap.size e w' ∧ Below w.heap.size w w' := by
  obtain ⟨vS, vC, vK, vF, e1, hs, _⟩ := id hD
  obtain ⟨aS, cS, e2, hSc, hSm, hSl⟩ := hs
  subst e2
  subst e1
  have C1 : Hid (∀ W, Below w.heap.size w W → Calls Tryd.prog 34 #[.agg #[.slice aS D.S.length cS, vC, vK, .int .i64 D.n, vF]] W fun e w' => e = .returned (.int .i64 (if b then 0 else 2)) ∧ Below W.heap.size W w') := fun W h => refCheck_all _ D b W (hD.up h) hS hBd hP
  have HL : Hid (∀ W, Below w.heap.size w W → Lies W W.heap.size aS D.S.length (strV D.S)) := fun W h => lies_up hSl h
  have HZ := Lib.hid hsz
  clear hD hP hsz hSl hBd
  obtain ⟨nS, hn⟩ : ∃ n, D.S.length = n := ⟨_, rfl⟩
  obtain ⟨dn, hdn⟩ : ∃ n, D.n = n := ⟨_, rfl⟩
  have HN := Lib.hid hn
  rw [hn] at C1 HL hSc hS ⊢
  rw [hdn] at C1 ⊢
  clear hn hdn
  obtain ⟨W0, hW⟩ : ∃ W0, W0 = (w.alloc (.cells #[.int .i64 g.N, .int .i64 g.S, .int .i64 g.B, .int .i64 g.P, .int .i64 g.J, .int .i64 g.L, .int .i64 g.E, .int .i64 g.T] 43)).alloc (.cells #[.slice aS nS cS, vC, vK, .int .i64 dn, vF] 46) := ⟨_, rfl⟩
  have hb0 : Below w.heap.size w W0 := by rw [hW]; exact ((Below.refl _ _).alloc (Nat.le_refl _) _).alloc (by simp) _
  have hlt : w.heap.size + 1 < W0.heap.size := by rw [hW]; simp
  have pg : Blk W0 w.heap.size #[.int .i64 g.N, .int .i64 g.S, .int .i64 g.B, .int .i64 g.P, .int .i64 g.J, .int .i64 g.L, .int .i64 g.E, .int .i64 g.T] 43 := by rw [hW]; exact (Blk.new w _ _).alloc _
  have pd : Blk W0 (w.heap.size + 1) #[.slice aS nS cS, vC, vK, .int .i64 dn, vF] 46 := by
    have h := Blk.new (w.alloc (.cells #[.int .i64 g.N, .int .i64 g.S, .int .i64 g.B, .int .i64 g.P, .int .i64 g.J, .int .i64 g.L, .int .i64 g.E, .int .i64 g.T] 43)) #[.slice aS nS cS, vC, vK, .int .i64 dn, vF] 46
    rw [hW]
    simpa using h
  have HS : Hid (∀ W, Below W0.heap.size W0 W → W.cell? ⟨w.heap.size, 0, none⟩ = some (.int .i64 g.N) ∧ W.cell? ⟨w.heap.size, 1, none⟩ = some (.int .i64 g.S) ∧ W.cell? ⟨w.heap.size, 2, none⟩ = some (.int .i64 g.B) ∧ W.cell? ⟨w.heap.size, 3, none⟩ = some (.int .i64 g.P) ∧ W.cell? ⟨w.heap.size, 4, none⟩ = some (.int .i64 g.J) ∧ W.cell? ⟨w.heap.size, 5, none⟩ = some (.int .i64 g.L) ∧ W.cell? ⟨w.heap.size, 6, none⟩ = some (.int .i64 g.E) ∧ W.cell? ⟨w.heap.size, 7, none⟩ = some (.int .i64 g.T) ∧ W.cell? ⟨w.heap.size + 1, 0, none⟩ = some (.slice aS nS cS) ∧ W.cell? ⟨w.heap.size + 1, 1, none⟩ = some (vC) ∧ W.cell? ⟨w.heap.size + 1, 2, none⟩ = some (vK) ∧ W.cell? ⟨w.heap.size + 1, 3, none⟩ = some (.int .i64 dn) ∧ W.cell? ⟨w.heap.size + 1, 4, none⟩ = some (vF)) := fun W h => by
    have p1 := pg.below h (by omega)
    have p2 := pd.below h hlt
    exact ⟨p1.cell 0 _ rfl, p1.cell 1 _ rfl, p1.cell 2 _ rfl, p1.cell 3 _ rfl, p1.cell 4 _ rfl, p1.cell 5 _ rfl, p1.cell 6 _ rfl, p1.cell 7 _ rfl, p2.cell 0 _ rfl, p2.cell 1 _ rfl, p2.cell 2 _ rfl, p2.cell 3 _ rfl, p2.cell 4 _ rfl⟩
  have C0 : Hid (∀ W, Below W0.heap.size W0 W → Calls Tryd.prog 33 #[.agg #[.int .i64 g.N, .int .i64 g.S, .int .i64 g.B, .int .i64 g.P, .int .i64 g.J, .int .i64 g.L, .int .i64 g.E, .int .i64 g.T]] W fun e w' => e = .returned (.bool (mayG g)) ∧ (w'.cell? ⟨w.heap.size, 0, none⟩ = some (.int .i64 g.N) ∧ w'.cell? ⟨w.heap.size, 1, none⟩ = some (.int .i64 g.S) ∧ w'.cell? ⟨w.heap.size, 2, none⟩ = some (.int .i64 g.B) ∧ w'.cell? ⟨w.heap.size, 3, none⟩ = some (.int .i64 g.P) ∧ w'.cell? ⟨w.heap.size, 4, none⟩ = some (.int .i64 g.J) ∧ w'.cell? ⟨w.heap.size, 5, none⟩ = some (.int .i64 g.L) ∧ w'.cell? ⟨w.heap.size, 6, none⟩ = some (.int .i64 g.E) ∧ w'.cell? ⟨w.heap.size, 7, none⟩ = some (.int .i64 g.T) ∧ w'.cell? ⟨w.heap.size + 1, 0, none⟩ = some (.slice aS nS cS) ∧ w'.cell? ⟨w.heap.size + 1, 1, none⟩ = some (vC) ∧ w'.cell? ⟨w.heap.size + 1, 2, none⟩ = some (vK) ∧ w'.cell? ⟨w.heap.size + 1, 3, none⟩ = some (.int .i64 dn) ∧ w'.cell? ⟨w.heap.size + 1, 4, none⟩ = some (vF)) ∧ Below W0.heap.size W0 w') := fun W h => (refMay_any g W).mono (by
    rintro e w' ⟨rfl, h2⟩
    exact ⟨rfl, HS.out _ (below_then h h2), below_then h h2⟩)
  replace C1 : Hid (∀ W, Below W0.heap.size W0 W → Calls Tryd.prog 34 #[.agg #[.slice aS nS cS, vC, vK, .int .i64 dn, vF]] W fun e w' => e = .returned (.int .i64 (if b then 0 else 2)) ∧ (w'.cell? ⟨w.heap.size, 0, none⟩ = some (.int .i64 g.N) ∧ w'.cell? ⟨w.heap.size, 1, none⟩ = some (.int .i64 g.S) ∧ w'.cell? ⟨w.heap.size, 2, none⟩ = some (.int .i64 g.B) ∧ w'.cell? ⟨w.heap.size, 3, none⟩ = some (.int .i64 g.P) ∧ w'.cell? ⟨w.heap.size, 4, none⟩ = some (.int .i64 g.J) ∧ w'.cell? ⟨w.heap.size, 5, none⟩ = some (.int .i64 g.L) ∧ w'.cell? ⟨w.heap.size, 6, none⟩ = some (.int .i64 g.E) ∧ w'.cell? ⟨w.heap.size, 7, none⟩ = some (.int .i64 g.T) ∧ w'.cell? ⟨w.heap.size + 1, 0, none⟩ = some (.slice aS nS cS) ∧ w'.cell? ⟨w.heap.size + 1, 1, none⟩ = some (vC) ∧ w'.cell? ⟨w.heap.size + 1, 2, none⟩ = some (vK) ∧ w'.cell? ⟨w.heap.size + 1, 3, none⟩ = some (.int .i64 dn) ∧ w'.cell? ⟨w.heap.size + 1, 4, none⟩ = some (vF)) ∧ Below W0.heap.size W0 w') := fun W h => (C1.out W (below_then hb0 h)).mono (by
    rintro e w' ⟨rfl, h2⟩
    exact ⟨rfl, HS.out _ (below_then h h2), below_then h h2⟩)
  have CT : Hid (∀ W, Below W0.heap.size W0 W → Calls Tryd.prog 35 #[.agg #[.int .i64 g.N, .int .i64 g.S, .int .i64 g.B, .int .i64 g.P, .int .i64 g.J, .int .i64 g.L, .int .i64 g.E, .int .i64 g.T]] W fun e w' => e = .returned (.int .i64 (totalV g)) ∧ (w'.cell? ⟨w.heap.size, 0, none⟩ = some (.int .i64 g.N) ∧ w'.cell? ⟨w.heap.size, 1, none⟩ = some (.int .i64 g.S) ∧ w'.cell? ⟨w.heap.size, 2, none⟩ = some (.int .i64 g.B) ∧ w'.cell? ⟨w.heap.size, 3, none⟩ = some (.int .i64 g.P) ∧ w'.cell? ⟨w.heap.size, 4, none⟩ = some (.int .i64 g.J) ∧ w'.cell? ⟨w.heap.size, 5, none⟩ = some (.int .i64 g.L) ∧ w'.cell? ⟨w.heap.size, 6, none⟩ = some (.int .i64 g.E) ∧ w'.cell? ⟨w.heap.size, 7, none⟩ = some (.int .i64 g.T) ∧ w'.cell? ⟨w.heap.size + 1, 0, none⟩ = some (.slice aS nS cS) ∧ w'.cell? ⟨w.heap.size + 1, 1, none⟩ = some (vC) ∧ w'.cell? ⟨w.heap.size + 1, 2, none⟩ = some (vK) ∧ w'.cell? ⟨w.heap.size + 1, 3, none⟩ = some (.int .i64 dn) ∧ w'.cell? ⟨w.heap.size + 1, 4, none⟩ = some (vF)) ∧ Below W0.heap.size W0 w') := fun W h => (total_r g W).mono (by
    rintro e w' ⟨rfl, h2⟩
    exact ⟨rfl, HS.out _ (below_then h h2), below_then h h2⟩)
  have CL : Hid (∀ W, Below W0.heap.size W0 W → Calls Tryd.prog 36 #[.agg #[.int .i64 g.N, .int .i64 g.S, .int .i64 g.B, .int .i64 g.P, .int .i64 g.J, .int .i64 g.L, .int .i64 g.E, .int .i64 g.T], .int .i64 0] W fun e w' => e = .returned (.int .i64 (logV g 0)) ∧ (w'.cell? ⟨w.heap.size, 0, none⟩ = some (.int .i64 g.N) ∧ w'.cell? ⟨w.heap.size, 1, none⟩ = some (.int .i64 g.S) ∧ w'.cell? ⟨w.heap.size, 2, none⟩ = some (.int .i64 g.B) ∧ w'.cell? ⟨w.heap.size, 3, none⟩ = some (.int .i64 g.P) ∧ w'.cell? ⟨w.heap.size, 4, none⟩ = some (.int .i64 g.J) ∧ w'.cell? ⟨w.heap.size, 5, none⟩ = some (.int .i64 g.L) ∧ w'.cell? ⟨w.heap.size, 6, none⟩ = some (.int .i64 g.E) ∧ w'.cell? ⟨w.heap.size, 7, none⟩ = some (.int .i64 g.T) ∧ w'.cell? ⟨w.heap.size + 1, 0, none⟩ = some (.slice aS nS cS) ∧ w'.cell? ⟨w.heap.size + 1, 1, none⟩ = some (vC) ∧ w'.cell? ⟨w.heap.size + 1, 2, none⟩ = some (vK) ∧ w'.cell? ⟨w.heap.size + 1, 3, none⟩ = some (.int .i64 dn) ∧ w'.cell? ⟨w.heap.size + 1, 4, none⟩ = some (vF)) ∧ Below W0.heap.size W0 w') := fun W h => (log_r g 0 W (by decide) (by decide)).mono (by
    rintro e w' ⟨rfl, h2⟩
    exact ⟨rfl, HS.out _ (below_then h h2), below_then h h2⟩)
  clear pg pd
  unfold maxLen at hSm
  cases hm : mayG g with
  | false =>
    have HV : Hid (logOkB g D b = false) := logOk_may hm
    rw [hm] at C0
    go_enter Tryd.func19, Tryd.ntmps19
    go_upto_region 1 with fail
    rw [← hW]
    clear hW hm HL HZ CL
    refine wp_region_held_drew (S := (fun w' => w'.cell? ⟨w.heap.size, 0, none⟩ = some (.int .i64 g.N) ∧ w'.cell? ⟨w.heap.size, 1, none⟩ = some (.int .i64 g.S) ∧ w'.cell? ⟨w.heap.size, 2, none⟩ = some (.int .i64 g.B) ∧ w'.cell? ⟨w.heap.size, 3, none⟩ = some (.int .i64 g.P) ∧ w'.cell? ⟨w.heap.size, 4, none⟩ = some (.int .i64 g.J) ∧ w'.cell? ⟨w.heap.size, 5, none⟩ = some (.int .i64 g.L) ∧ w'.cell? ⟨w.heap.size, 6, none⟩ = some (.int .i64 g.E) ∧ w'.cell? ⟨w.heap.size, 7, none⟩ = some (.int .i64 g.T) ∧ w'.cell? ⟨w.heap.size + 1, 0, none⟩ = some (.slice aS nS cS) ∧ w'.cell? ⟨w.heap.size + 1, 1, none⟩ = some (vC) ∧ w'.cell? ⟨w.heap.size + 1, 2, none⟩ = some (vK) ∧ w'.cell? ⟨w.heap.size + 1, 3, none⟩ = some (.int .i64 dn) ∧ w'.cell? ⟨w.heap.size + 1, 4, none⟩ = some (vF))) (by kernel_rfl) ?_ (fun hHeld => ?_)
    focus (exact HS.out _ (Below.refl W0.heap.size W0).drew)
    refine wpAnyH_take (i := 0) (oi := ⟨some 7, _, _, _, _, _⟩) (v := ?_) rfl (by kernel_rfl) (by kernel_rfl) (by kernel_rfl) (fun _ _ _ h => h) (Or.inl ⟨by rfl, ?_⟩) (by assumption) ?_
    rotate_left
    focus (intro wq hSq; (try dsimp only at hSq); go_simp; try with_reducible rfl)
    try simp only [Act.put, List.setIfInBounds_toArray, List.set_cons_zero, List.set_cons_succ]
    refine wpAnyH_ready (rs := [1]) (by kernel_rfl) (by simp) ?_
    refine AllReadyH.cons (o := ⟨some 8, _, _, _, _, _⟩) rfl (fun K hK => ?_) AllReadyH.nil
    go_simp
    refine (C0.out _ (Below.refl W0.heap.size W0).drew).mono ?_
    rintro e w1 ⟨rfl, s1, hb1⟩
    refine hK.out _ _ ?_ (fun hHeld => ?_)
    focus (exact s1)
    clear hK K
    try simp only [Act.put, List.setIfInBounds_toArray, List.set_cons_zero, List.set_cons_succ]
    refine wpAnyH_take (i := 2) (oi := ⟨some 9, _, _, _, _, _⟩) (v := ?_) rfl (by kernel_rfl) (by kernel_rfl) (by kernel_rfl) (fun _ _ _ h => h) (Or.inl ⟨by rfl, ?_⟩) (by assumption) ?_
    rotate_left
    focus (intro wq hSq; (try dsimp only at hSq); go_simp; try with_reducible rfl)
    try simp only [Act.put, List.setIfInBounds_toArray, List.set_cons_zero, List.set_cons_succ]
    refine wpAnyH_take (i := 3) (oi := ⟨some 10, _, _, _, _, _⟩) (v := ?_) rfl (by kernel_rfl) (by kernel_rfl) (by kernel_rfl) (fun _ _ _ h => h) (Or.inl ⟨by rfl, ?_⟩) (by assumption) ?_
    rotate_left
    focus (intro wq hSq; (try dsimp only at hSq); go_simp; try with_reducible rfl)
    try simp only [Act.put, List.setIfInBounds_toArray, List.set_cons_zero, List.set_cons_succ]
    refine wpAnyH_take (i := 4) (oi := ⟨some 11, _, _, _, _, _⟩) (v := undef) rfl (by kernel_rfl) (by kernel_rfl) (by kernel_rfl) (fun _ _ _ h => h) (Or.inr ⟨by rfl, rfl⟩) (by assumption) ?_
    try simp only [Act.put, List.setIfInBounds_toArray, List.set_cons_zero, List.set_cons_succ]
    refine wpAnyH_take (i := 5) (oi := ⟨some 12, _, _, _, _, _⟩) (v := undef) rfl (by kernel_rfl) (by kernel_rfl) (by kernel_rfl) (fun _ _ _ h => h) (Or.inr ⟨by rfl, rfl⟩) (by assumption) ?_
    try simp only [Act.put, List.setIfInBounds_toArray, List.set_cons_zero, List.set_cons_succ]
    refine wpAnyH_take (i := 6) (oi := ⟨some 13, _, _, _, _, _⟩) (v := undef) rfl (by kernel_rfl) (by kernel_rfl) (by kernel_rfl) (fun _ _ _ h => h) (Or.inr ⟨by rfl, rfl⟩) (by assumption) ?_
    try simp only [Act.put, List.setIfInBounds_toArray, List.set_cons_zero, List.set_cons_succ]
    refine wpAnyH_take (i := 7) (oi := ⟨some 14, _, _, _, _, _⟩) (v := ?_) rfl (by kernel_rfl) (by kernel_rfl) (by kernel_rfl) (fun _ _ _ h => h) (Or.inl ⟨by rfl, ?_⟩) (by assumption) ?_
    rotate_left
    focus (intro wq hSq; (try dsimp only at hSq); go_simp; try with_reducible rfl)
    try simp only [Act.put, List.setIfInBounds_toArray, List.set_cons_zero, List.set_cons_succ]
    refine wpAnyH_take (i := 8) (oi := ⟨some 15, _, _, _, _, _⟩) (v := ?_) rfl (by kernel_rfl) (by kernel_rfl) (by kernel_rfl) (fun _ _ _ h => h) (Or.inl ⟨by rfl, ?_⟩) (by assumption) ?_
    rotate_left
    focus (intro wq hSq; (try dsimp only at hSq); go_simp; try with_reducible rfl)
    try simp only [Act.put, List.setIfInBounds_toArray, List.set_cons_zero, List.set_cons_succ]
    refine wpAnyH_take (i := 9) (oi := ⟨some 16, _, _, _, _, _⟩) (v := undef) rfl (by kernel_rfl) (by kernel_rfl) (by kernel_rfl) (fun _ _ _ h => h) (Or.inr ⟨by rfl, rfl⟩) (by assumption) ?_
    try simp only [Act.put, List.setIfInBounds_toArray, List.set_cons_zero, List.set_cons_succ]
    refine wpAnyH_take (i := 10) (oi := ⟨some 17, _, _, _, _, _⟩) (v := undef) rfl (by kernel_rfl) (by kernel_rfl) (by kernel_rfl) (fun _ _ _ h => h) (Or.inr ⟨by rfl, rfl⟩) (by assumption) ?_
    try simp only [Act.put, List.setIfInBounds_toArray, List.set_cons_zero, List.set_cons_succ]
    refine wpAnyH_take (i := 11) (oi := ⟨some 18, _, _, _, _, _⟩) (v := undef) rfl (by kernel_rfl) (by kernel_rfl) (by kernel_rfl) (fun _ _ _ h => h) (Or.inr ⟨by rfl, rfl⟩) (by assumption) ?_
    try simp only [Act.put, List.setIfInBounds_toArray, List.set_cons_zero, List.set_cons_succ]
    refine wpAnyH_take (i := 12) (oi := ⟨some 19, _, _, _, _, _⟩) (v := undef) rfl (by kernel_rfl) (by kernel_rfl) (by kernel_rfl) (fun _ _ _ h => h) (Or.inr ⟨by rfl, rfl⟩) (by assumption) ?_
    try simp only [Act.put, List.setIfInBounds_toArray, List.set_cons_zero, List.set_cons_succ]
    refine wpAnyH_take (i := 13) (oi := ⟨some 20, _, _, _, _, _⟩) (v := undef) rfl (by kernel_rfl) (by kernel_rfl) (by kernel_rfl) (fun _ _ _ h => h) (Or.inr ⟨by rfl, rfl⟩) (by assumption) ?_
    try simp only [Act.put, List.setIfInBounds_toArray, List.set_cons_zero, List.set_cons_succ]
    refine wpAnyH_take (i := 14) (oi := ⟨some 21, _, _, _, _, _⟩) (v := undef) rfl (by kernel_rfl) (by kernel_rfl) (by kernel_rfl) (fun _ _ _ h => h) (Or.inr ⟨by rfl, rfl⟩) (by assumption) ?_
    try simp only [Act.put, List.setIfInBounds_toArray, List.set_cons_zero, List.set_cons_succ]
    refine wpAnyH_take (i := 15) (oi := ⟨some 22, _, _, _, _, _⟩) (v := ?_) rfl (by kernel_rfl) (by kernel_rfl) (by kernel_rfl) (fun _ _ _ h => h) (Or.inl ⟨by rfl, ?_⟩) (by assumption) ?_
    rotate_left
    focus (intro wq hSq; (try dsimp only at hSq); go_simp; try with_reducible rfl)
    try simp only [Act.put, List.setIfInBounds_toArray, List.set_cons_zero, List.set_cons_succ]
    refine wpAnyH_done (by kernel_rfl) ?_ _
    go_wp2_with fail
    go_ret2
    exact ⟨.inl ⟨HV.out, rfl⟩, below_then hb0 hb1⟩
  | true =>
    obtain ⟨p0, q1, q2, q3, q4, q5, q6⟩ := log_span hm
    have HM := Lib.hid hm
    rw [hm] at C0
    cases b with
    | false =>
      have HV : Hid (logOkB g D false = false) := logOk_dev
      replace C1 : Hid (∀ W, Below W0.heap.size W0 W → Calls Tryd.prog 34 #[.agg #[.slice aS nS cS, vC, vK, .int .i64 dn, vF]] W fun e w' => e = .returned (.int .i64 2) ∧ (w'.cell? ⟨w.heap.size, 0, none⟩ = some (.int .i64 g.N) ∧ w'.cell? ⟨w.heap.size, 1, none⟩ = some (.int .i64 g.S) ∧ w'.cell? ⟨w.heap.size, 2, none⟩ = some (.int .i64 g.B) ∧ w'.cell? ⟨w.heap.size, 3, none⟩ = some (.int .i64 g.P) ∧ w'.cell? ⟨w.heap.size, 4, none⟩ = some (.int .i64 g.J) ∧ w'.cell? ⟨w.heap.size, 5, none⟩ = some (.int .i64 g.L) ∧ w'.cell? ⟨w.heap.size, 6, none⟩ = some (.int .i64 g.E) ∧ w'.cell? ⟨w.heap.size, 7, none⟩ = some (.int .i64 g.T) ∧ w'.cell? ⟨w.heap.size + 1, 0, none⟩ = some (.slice aS nS cS) ∧ w'.cell? ⟨w.heap.size + 1, 1, none⟩ = some (vC) ∧ w'.cell? ⟨w.heap.size + 1, 2, none⟩ = some (vK) ∧ w'.cell? ⟨w.heap.size + 1, 3, none⟩ = some (.int .i64 dn) ∧ w'.cell? ⟨w.heap.size + 1, 4, none⟩ = some (vF)) ∧ Below W0.heap.size W0 w') := C1
      go_enter Tryd.func19, Tryd.ntmps19
      go_upto_region 1 with fail
      rw [← hW]
      clear hW hm HL HZ CL p0 q1 q2 q3 q4 q5 q6
      refine wp_region_held_drew (S := (fun w' => w'.cell? ⟨w.heap.size, 0, none⟩ = some (.int .i64 g.N) ∧ w'.cell? ⟨w.heap.size, 1, none⟩ = some (.int .i64 g.S) ∧ w'.cell? ⟨w.heap.size, 2, none⟩ = some (.int .i64 g.B) ∧ w'.cell? ⟨w.heap.size, 3, none⟩ = some (.int .i64 g.P) ∧ w'.cell? ⟨w.heap.size, 4, none⟩ = some (.int .i64 g.J) ∧ w'.cell? ⟨w.heap.size, 5, none⟩ = some (.int .i64 g.L) ∧ w'.cell? ⟨w.heap.size, 6, none⟩ = some (.int .i64 g.E) ∧ w'.cell? ⟨w.heap.size, 7, none⟩ = some (.int .i64 g.T) ∧ w'.cell? ⟨w.heap.size + 1, 0, none⟩ = some (.slice aS nS cS) ∧ w'.cell? ⟨w.heap.size + 1, 1, none⟩ = some (vC) ∧ w'.cell? ⟨w.heap.size + 1, 2, none⟩ = some (vK) ∧ w'.cell? ⟨w.heap.size + 1, 3, none⟩ = some (.int .i64 dn) ∧ w'.cell? ⟨w.heap.size + 1, 4, none⟩ = some (vF))) (by kernel_rfl) ?_ (fun hHeld => ?_)
      focus (exact HS.out _ (Below.refl W0.heap.size W0).drew)
      refine wpAnyH_take (i := 0) (oi := ⟨some 7, _, _, _, _, _⟩) (v := ?_) rfl (by kernel_rfl) (by kernel_rfl) (by kernel_rfl) (fun _ _ _ h => h) (Or.inl ⟨by rfl, ?_⟩) (by assumption) ?_
      rotate_left
      focus (intro wq hSq; (try dsimp only at hSq); go_simp; try with_reducible rfl)
      try simp only [Act.put, List.setIfInBounds_toArray, List.set_cons_zero, List.set_cons_succ]
      refine wpAnyH_ready (rs := [1]) (by kernel_rfl) (by simp) ?_
      refine AllReadyH.cons (o := ⟨some 8, _, _, _, _, _⟩) rfl (fun K hK => ?_) AllReadyH.nil
      go_simp
      refine (C0.out _ (Below.refl W0.heap.size W0).drew).mono ?_
      rintro e w1 ⟨rfl, s1, hb1⟩
      refine hK.out _ _ ?_ (fun hHeld => ?_)
      focus (exact s1)
      clear hK K
      try simp only [Act.put, List.setIfInBounds_toArray, List.set_cons_zero, List.set_cons_succ]
      refine wpAnyH_take (i := 2) (oi := ⟨some 9, _, _, _, _, _⟩) (v := ?_) rfl (by kernel_rfl) (by kernel_rfl) (by kernel_rfl) (fun _ _ _ h => h) (Or.inl ⟨by rfl, ?_⟩) (by assumption) ?_
      rotate_left
      focus (intro wq hSq; (try dsimp only at hSq); go_simp; try with_reducible rfl)
      try simp only [Act.put, List.setIfInBounds_toArray, List.set_cons_zero, List.set_cons_succ]
      refine wpAnyH_take (i := 3) (oi := ⟨some 10, _, _, _, _, _⟩) (v := ?_) rfl (by kernel_rfl) (by kernel_rfl) (by kernel_rfl) (fun _ _ _ h => h) (Or.inl ⟨by rfl, ?_⟩) (by assumption) ?_
      rotate_left
      focus (intro wq hSq; (try dsimp only at hSq); go_simp; try with_reducible rfl)
      try simp only [Act.put, List.setIfInBounds_toArray, List.set_cons_zero, List.set_cons_succ]
      refine wpAnyH_take (i := 4) (oi := ⟨some 11, _, _, _, _, _⟩) (v := ?_) rfl (by kernel_rfl) (by kernel_rfl) (by kernel_rfl) (fun _ _ _ h => h) (Or.inl ⟨by rfl, ?_⟩) (by assumption) ?_
      rotate_left
      focus (intro wq hSq; (try dsimp only at hSq); go_simp; try with_reducible rfl)
      try simp only [Act.put, List.setIfInBounds_toArray, List.set_cons_zero, List.set_cons_succ]
      refine wpAnyH_ready (rs := [5]) (by kernel_rfl) (by simp) ?_
      refine AllReadyH.cons (o := ⟨some 12, _, _, _, _, _⟩) rfl (fun K hK => ?_) AllReadyH.nil
      go_simp
      refine (C1.out _ hb1).mono ?_
      rintro e w2 ⟨rfl, s2, hb2⟩
      refine hK.out _ _ ?_ (fun hHeld => ?_)
      focus (exact s2)
      clear hK K
      try simp only [Act.put, List.setIfInBounds_toArray, List.set_cons_zero, List.set_cons_succ]
      refine wpAnyH_take (i := 6) (oi := ⟨some 13, _, _, _, _, _⟩) (v := ?_) rfl (by kernel_rfl) (by kernel_rfl) (by kernel_rfl) (fun _ _ _ h => h) (Or.inl ⟨by rfl, ?_⟩) (by assumption) ?_
      rotate_left
      focus (intro wq hSq; (try dsimp only at hSq); go_simp; try with_reducible rfl)
      try simp only [Act.put, List.setIfInBounds_toArray, List.set_cons_zero, List.set_cons_succ]
      refine wpAnyH_take (i := 7) (oi := ⟨some 14, _, _, _, _, _⟩) (v := ?_) rfl (by kernel_rfl) (by kernel_rfl) (by kernel_rfl) (fun _ _ _ h => h) (Or.inl ⟨by rfl, ?_⟩) (by assumption) ?_
      rotate_left
      focus (intro wq hSq; (try dsimp only at hSq); go_simp; try with_reducible rfl)
      try simp only [Act.put, List.setIfInBounds_toArray, List.set_cons_zero, List.set_cons_succ]
      refine wpAnyH_take (i := 8) (oi := ⟨some 15, _, _, _, _, _⟩) (v := ?_) rfl (by kernel_rfl) (by kernel_rfl) (by kernel_rfl) (fun _ _ _ h => h) (Or.inl ⟨by rfl, ?_⟩) (by assumption) ?_
      rotate_left
      focus (intro wq hSq; (try dsimp only at hSq); go_simp; try with_reducible rfl)
      try simp only [Act.put, List.setIfInBounds_toArray, List.set_cons_zero, List.set_cons_succ]
      refine wpAnyH_take (i := 9) (oi := ⟨some 16, _, _, _, _, _⟩) (v := undef) rfl (by kernel_rfl) (by kernel_rfl) (by kernel_rfl) (fun _ _ _ h => h) (Or.inr ⟨by rfl, rfl⟩) (by assumption) ?_
      try simp only [Act.put, List.setIfInBounds_toArray, List.set_cons_zero, List.set_cons_succ]
      refine wpAnyH_take (i := 10) (oi := ⟨some 17, _, _, _, _, _⟩) (v := undef) rfl (by kernel_rfl) (by kernel_rfl) (by kernel_rfl) (fun _ _ _ h => h) (Or.inr ⟨by rfl, rfl⟩) (by assumption) ?_
      try simp only [Act.put, List.setIfInBounds_toArray, List.set_cons_zero, List.set_cons_succ]
      refine wpAnyH_take (i := 11) (oi := ⟨some 18, _, _, _, _, _⟩) (v := undef) rfl (by kernel_rfl) (by kernel_rfl) (by kernel_rfl) (fun _ _ _ h => h) (Or.inr ⟨by rfl, rfl⟩) (by assumption) ?_
      try simp only [Act.put, List.setIfInBounds_toArray, List.set_cons_zero, List.set_cons_succ]
      refine wpAnyH_take (i := 12) (oi := ⟨some 19, _, _, _, _, _⟩) (v := undef) rfl (by kernel_rfl) (by kernel_rfl) (by kernel_rfl) (fun _ _ _ h => h) (Or.inr ⟨by rfl, rfl⟩) (by assumption) ?_
      try simp only [Act.put, List.setIfInBounds_toArray, List.set_cons_zero, List.set_cons_succ]
      refine wpAnyH_take (i := 13) (oi := ⟨some 20, _, _, _, _, _⟩) (v := undef) rfl (by kernel_rfl) (by kernel_rfl) (by kernel_rfl) (fun _ _ _ h => h) (Or.inr ⟨by rfl, rfl⟩) (by assumption) ?_
      try simp only [Act.put, List.setIfInBounds_toArray, List.set_cons_zero, List.set_cons_succ]
      refine wpAnyH_take (i := 14) (oi := ⟨some 21, _, _, _, _, _⟩) (v := undef) rfl (by kernel_rfl) (by kernel_rfl) (by kernel_rfl) (fun _ _ _ h => h) (Or.inr ⟨by rfl, rfl⟩) (by assumption) ?_
      try simp only [Act.put, List.setIfInBounds_toArray, List.set_cons_zero, List.set_cons_succ]
      refine wpAnyH_take (i := 15) (oi := ⟨some 22, _, _, _, _, _⟩) (v := ?_) rfl (by kernel_rfl) (by kernel_rfl) (by kernel_rfl) (fun _ _ _ h => h) (Or.inl ⟨by rfl, ?_⟩) (by assumption) ?_
      rotate_left
      focus (intro wq hSq; (try dsimp only at hSq); go_simp; try with_reducible rfl)
      try simp only [Act.put, List.setIfInBounds_toArray, List.set_cons_zero, List.set_cons_succ]
      refine wpAnyH_done (by kernel_rfl) ?_ _
      go_wp2_with fail
      go_ret2
      exact ⟨.inl ⟨HV.out, rfl⟩, below_then hb0 hb2⟩
    | true =>
      replace C1 : Hid (∀ W, Below W0.heap.size W0 W → Calls Tryd.prog 34 #[.agg #[.slice aS nS cS, vC, vK, .int .i64 dn, vF]] W fun e w' => e = .returned (.int .i64 0) ∧ (w'.cell? ⟨w.heap.size, 0, none⟩ = some (.int .i64 g.N) ∧ w'.cell? ⟨w.heap.size, 1, none⟩ = some (.int .i64 g.S) ∧ w'.cell? ⟨w.heap.size, 2, none⟩ = some (.int .i64 g.B) ∧ w'.cell? ⟨w.heap.size, 3, none⟩ = some (.int .i64 g.P) ∧ w'.cell? ⟨w.heap.size, 4, none⟩ = some (.int .i64 g.J) ∧ w'.cell? ⟨w.heap.size, 5, none⟩ = some (.int .i64 g.L) ∧ w'.cell? ⟨w.heap.size, 6, none⟩ = some (.int .i64 g.E) ∧ w'.cell? ⟨w.heap.size, 7, none⟩ = some (.int .i64 g.T) ∧ w'.cell? ⟨w.heap.size + 1, 0, none⟩ = some (.slice aS nS cS) ∧ w'.cell? ⟨w.heap.size + 1, 1, none⟩ = some (vC) ∧ w'.cell? ⟨w.heap.size + 1, 2, none⟩ = some (vK) ∧ w'.cell? ⟨w.heap.size + 1, 3, none⟩ = some (.int .i64 dn) ∧ w'.cell? ⟨w.heap.size + 1, 4, none⟩ = some (vF)) ∧ Below W0.heap.size W0 w') := C1
      by_cases hT : (nS : Int) = totalV g
      · have HV : Hid (logOkB g D true = true) := logOk_yes hm (by rw [HN.out]; exact hT)
        have hne : ((nS : Int) != totalV g) = false := by simpa using hT
        obtain ⟨p, hp⟩ : ∃ p : Nat, logV g 0 = (p : Int) := ⟨(logV g 0).toNat, by omega⟩
        obtain ⟨m, hml⟩ : ∃ m : Nat, g.L = (m : Int) := ⟨g.L.toNat, by omega⟩
        have HR : Hid (logRow g D = (D.S.drop p).take m) := by
          show _ = _
          unfold logRow
          rw [show (1 + 2 * g.N).toNat = p by omega, hml]
          rfl
        rw [hp] at CL
        have HML := Lib.hid hml
        have f0 : p + m < nS := by omega
        have f1 : 0 < m := by omega
        have HN2 : Hid (p + m < nS ∧ nS ≤ cS ∧ 0 < m) := ⟨f0, hSc, f1⟩
        clear hml hm q1 q2 q3 q4 q5 q6 hT hp
        generalize totalV g = T at *
        go_enter Tryd.func19, Tryd.ntmps19
        go_upto_region 1 with fail
        rw [← hW]
        clear hW p0
        refine wp_region_held_drew (S := (fun w' => w'.cell? ⟨w.heap.size, 0, none⟩ = some (.int .i64 g.N) ∧ w'.cell? ⟨w.heap.size, 1, none⟩ = some (.int .i64 g.S) ∧ w'.cell? ⟨w.heap.size, 2, none⟩ = some (.int .i64 g.B) ∧ w'.cell? ⟨w.heap.size, 3, none⟩ = some (.int .i64 g.P) ∧ w'.cell? ⟨w.heap.size, 4, none⟩ = some (.int .i64 g.J) ∧ w'.cell? ⟨w.heap.size, 5, none⟩ = some (.int .i64 g.L) ∧ w'.cell? ⟨w.heap.size, 6, none⟩ = some (.int .i64 g.E) ∧ w'.cell? ⟨w.heap.size, 7, none⟩ = some (.int .i64 g.T) ∧ w'.cell? ⟨w.heap.size + 1, 0, none⟩ = some (.slice aS nS cS) ∧ w'.cell? ⟨w.heap.size + 1, 1, none⟩ = some (vC) ∧ w'.cell? ⟨w.heap.size + 1, 2, none⟩ = some (vK) ∧ w'.cell? ⟨w.heap.size + 1, 3, none⟩ = some (.int .i64 dn) ∧ w'.cell? ⟨w.heap.size + 1, 4, none⟩ = some (vF))) (by kernel_rfl) ?_ (fun hHeld => ?_)
        focus (exact HS.out _ (Below.refl W0.heap.size W0).drew)
        refine wpAnyH_take (i := 0) (oi := ⟨some 7, _, _, _, _, _⟩) (v := ?_) rfl (by kernel_rfl) (by kernel_rfl) (by kernel_rfl) (fun _ _ _ h => h) (Or.inl ⟨by rfl, ?_⟩) (by assumption) ?_
        rotate_left
        focus (intro wq hSq; (try dsimp only at hSq); go_simp; try with_reducible rfl)
        try simp only [Act.put, List.setIfInBounds_toArray, List.set_cons_zero, List.set_cons_succ]
        refine wpAnyH_ready (rs := [1]) (by kernel_rfl) (by simp) ?_
        refine AllReadyH.cons (o := ⟨some 8, _, _, _, _, _⟩) rfl (fun K hK => ?_) AllReadyH.nil
        go_simp
        refine (C0.out _ (Below.refl W0.heap.size W0).drew).mono ?_
        rintro e w1 ⟨rfl, s1, hb1⟩
        refine hK.out _ _ ?_ (fun hHeld => ?_)
        focus (exact s1)
        clear hK K
        try simp only [Act.put, List.setIfInBounds_toArray, List.set_cons_zero, List.set_cons_succ]
        refine wpAnyH_take (i := 2) (oi := ⟨some 9, _, _, _, _, _⟩) (v := ?_) rfl (by kernel_rfl) (by kernel_rfl) (by kernel_rfl) (fun _ _ _ h => h) (Or.inl ⟨by rfl, ?_⟩) (by assumption) ?_
        rotate_left
        focus (intro wq hSq; (try dsimp only at hSq); go_simp; try with_reducible rfl)
        try simp only [Act.put, List.setIfInBounds_toArray, List.set_cons_zero, List.set_cons_succ]
        refine wpAnyH_take (i := 3) (oi := ⟨some 10, _, _, _, _, _⟩) (v := ?_) rfl (by kernel_rfl) (by kernel_rfl) (by kernel_rfl) (fun _ _ _ h => h) (Or.inl ⟨by rfl, ?_⟩) (by assumption) ?_
        rotate_left
        focus (intro wq hSq; (try dsimp only at hSq); go_simp; try with_reducible rfl)
        try simp only [Act.put, List.setIfInBounds_toArray, List.set_cons_zero, List.set_cons_succ]
        refine wpAnyH_take (i := 4) (oi := ⟨some 11, _, _, _, _, _⟩) (v := ?_) rfl (by kernel_rfl) (by kernel_rfl) (by kernel_rfl) (fun _ _ _ h => h) (Or.inl ⟨by rfl, ?_⟩) (by assumption) ?_
        rotate_left
        focus (intro wq hSq; (try dsimp only at hSq); go_simp; try with_reducible rfl)
        try simp only [Act.put, List.setIfInBounds_toArray, List.set_cons_zero, List.set_cons_succ]
        refine wpAnyH_ready (rs := [5]) (by kernel_rfl) (by simp) ?_
        refine AllReadyH.cons (o := ⟨some 12, _, _, _, _, _⟩) rfl (fun K hK => ?_) AllReadyH.nil
        go_simp
        refine (C1.out _ hb1).mono ?_
        rintro e w2 ⟨rfl, s2, hb2⟩
        refine hK.out _ _ ?_ (fun hHeld => ?_)
        focus (exact s2)
        clear hK K
        try simp only [Act.put, List.setIfInBounds_toArray, List.set_cons_zero, List.set_cons_succ]
        refine wpAnyH_take (i := 6) (oi := ⟨some 13, _, _, _, _, _⟩) (v := ?_) rfl (by kernel_rfl) (by kernel_rfl) (by kernel_rfl) (fun _ _ _ h => h) (Or.inl ⟨by rfl, ?_⟩) (by assumption) ?_
        rotate_left
        focus (intro wq hSq; (try dsimp only at hSq); go_simp; try with_reducible rfl)
        try simp only [Act.put, List.setIfInBounds_toArray, List.set_cons_zero, List.set_cons_succ]
        refine wpAnyH_take (i := 7) (oi := ⟨some 14, _, _, _, _, _⟩) (v := ?_) rfl (by kernel_rfl) (by kernel_rfl) (by kernel_rfl) (fun _ _ _ h => h) (Or.inl ⟨by rfl, ?_⟩) (by assumption) ?_
        rotate_left
        focus (intro wq hSq; (try dsimp only at hSq); go_simp; try with_reducible rfl)
        try simp only [Act.put, List.setIfInBounds_toArray, List.set_cons_zero, List.set_cons_succ]
        refine wpAnyH_take (i := 8) (oi := ⟨some 15, _, _, _, _, _⟩) (v := ?_) rfl (by kernel_rfl) (by kernel_rfl) (by kernel_rfl) (fun _ _ _ h => h) (Or.inl ⟨by rfl, ?_⟩) (by assumption) ?_
        rotate_left
        focus (intro wq hSq; (try dsimp only at hSq); go_simp; try with_reducible rfl)
        try simp only [Act.put, List.setIfInBounds_toArray, List.set_cons_zero, List.set_cons_succ]
        refine wpAnyH_take (i := 9) (oi := ⟨some 16, _, _, _, _, _⟩) (v := ?_) rfl (by kernel_rfl) (by kernel_rfl) (by kernel_rfl) (fun _ _ _ h => h) (Or.inl ⟨by rfl, ?_⟩) (by assumption) ?_
        rotate_left
        focus (intro wq hSq; (try dsimp only at hSq); go_simp; try with_reducible rfl)
        try simp only [Act.put, List.setIfInBounds_toArray, List.set_cons_zero, List.set_cons_succ]
        refine wpAnyH_take (i := 10) (oi := ⟨some 17, _, _, _, _, _⟩) (v := ?_) rfl (by kernel_rfl) (by kernel_rfl) (by kernel_rfl) (fun _ _ _ h => h) (Or.inl ⟨by rfl, ?_⟩) (by assumption) ?_
        rotate_left
        focus (intro wq hSq; (try dsimp only at hSq); go_simp; try with_reducible rfl)
        try simp only [Act.put, List.setIfInBounds_toArray, List.set_cons_zero, List.set_cons_succ]
        refine wpAnyH_take (i := 11) (oi := ⟨some 18, _, _, _, _, _⟩) (v := ?_) rfl (by kernel_rfl) (by kernel_rfl) (by kernel_rfl) (fun _ _ _ h => h) (Or.inl ⟨by rfl, ?_⟩) (by assumption) ?_
        rotate_left
        focus (intro wq hSq; (try dsimp only at hSq); go_simp; try with_reducible rfl)
        try simp only [Act.put, List.setIfInBounds_toArray, List.set_cons_zero, List.set_cons_succ]
        refine wpAnyH_take (i := 12) (oi := ⟨some 19, _, _, _, _, _⟩) (v := ?_) rfl (by kernel_rfl) (by kernel_rfl) (by kernel_rfl) (fun _ _ _ h => h) (Or.inl ⟨by rfl, ?_⟩) (by assumption) ?_
        rotate_left
        focus (intro wq hSq; (try dsimp only at hSq); go_simp; try with_reducible rfl)
        try simp only [Act.put, List.setIfInBounds_toArray, List.set_cons_zero, List.set_cons_succ]
        refine wpAnyH_ready (rs := [13]) (by kernel_rfl) (by simp) ?_
        refine AllReadyH.cons (o := ⟨some 20, _, _, _, _, _⟩) rfl (fun K hK => ?_) AllReadyH.nil
        go_simp
        refine (CT.out _ hb2).mono ?_
        rintro e w3 ⟨rfl, s3, hb3⟩
        refine hK.out _ _ ?_ (fun hHeld => ?_)
        focus (exact s3)
        clear hK K
        try simp only [Act.put, List.setIfInBounds_toArray, List.set_cons_zero, List.set_cons_succ]
        refine wpAnyH_take (i := 14) (oi := ⟨some 21, _, _, _, _, _⟩) (v := ?_) rfl (by kernel_rfl) (by kernel_rfl) (by kernel_rfl) (fun _ _ _ h => h) (Or.inl ⟨by rfl, ?_⟩) (by assumption) ?_
        rotate_left
        focus (intro wq hSq; (try dsimp only at hSq); go_simp; try with_reducible rfl)
        try simp only [Act.put, List.setIfInBounds_toArray, List.set_cons_zero, List.set_cons_succ]
        refine wpAnyH_take (i := 15) (oi := ⟨some 22, _, _, _, _, _⟩) (v := ?_) rfl (by kernel_rfl) (by kernel_rfl) (by kernel_rfl) (fun _ _ _ h => h) (Or.inl ⟨by rfl, ?_⟩) (by assumption) ?_
        rotate_left
        focus (intro wq hSq; (try dsimp only at hSq); go_simp; try with_reducible rfl)
        try simp only [Act.put, List.setIfInBounds_toArray, List.set_cons_zero, List.set_cons_succ]
        refine wpAnyH_done (by kernel_rfl) ?_ _
        go_wp2_with fail
        refine (CL.out _ hb3).mono ?_
        rintro e w4 ⟨rfl, s4, hb4⟩
        obtain ⟨d0, d1, d2, d3, d4, d5, d6, d7, d8, _⟩ := s4
        rw [HML.out] at d5
        clear s1 s2 s3 C0 C1 CT CL HS
        obtain ⟨q, hq⟩ : ∃ q : Nat, p + m = q := ⟨_, rfl⟩
        have f2 : (p : Int) + (m : Int) = (q : Int) := by omega
        have f4 : IntKind.i64.wrap (q : Int) = (q : Int) := IntWalk.i64_in _ (by omega)
        have b4 := below_then hb0 hb4
        have hL := HL.out _ b4
        obtain ⟨ad, ea, _⟩ := hL.2 (by omega)
        subst ea
        have f3 : q ≤ cS := by omega
        have f5 : p ≤ q := by omega
        have f6 : (p : Int) ≤ (q : Int) := by omega
        have f7 : (q : Int) ≤ (cS : Int) := by omega
        have HQ := Lib.hid hq
        clear hq f0 f1
        have f8 : ¬ cS = p := by have := HN2.out; omega
        go_wp2_with fail
        have hpc : Lies w4 w4.heap.size (some (ad.add p)) (q - p) (((D.S.drop p).take (q - p)).map Value.string) := lies_piece hL (by have := HN2.out; have := HQ.out; omega) (fun j => add_twice _ _ _) (fun _ => add_block _ _)
        have hqm : q - p = m := by have := HQ.out; omega
        rw [hqm] at hpc ⊢
        refine (refDRow_any (some (ad.add p)) m (cS - p) _ w4 hpc (by have := HN2.out; omega) (fun s hs => HZ.out s (List.mem_of_mem_drop (List.mem_of_mem_take hs)))).mono ?_
        rintro e w5 ⟨h5, hb5⟩
        have b5 := below_then b4 hb5
        have hs4 := b4.size
        rcases h5 with ⟨h5, rfl⟩ | ⟨ms, v', h5, rfl, own⟩
        · have HF : Hid (LogPost g D true w.heap.size (.returned (.tuple #[.slice none 0 0, .int .i64 50])) w5) := .inr ⟨HV.out, .inl ⟨by rw [HR.out]; exact h5, rfl⟩⟩
          clear h5 hpc hL hb5
          go_wp2_with fail
          go_ret2
          exact ⟨HF.out, b5⟩
        · obtain ⟨A5, c5, e5, _, _⟩ := ow_shape own
          subst e5
          have HF : Hid (LogPost g D true w.heap.size (.returned (.tuple #[.slice A5 ms.length c5, .int .i64 0])) w5) := .inr ⟨HV.out, .inr ⟨ms, _, by rw [HR.out]; exact h5, rfl, ow_less own hs4⟩⟩
          clear h5 hpc hL hb5 own
          go_wp2_with fail
          go_ret2
          exact ⟨HF.out, b5⟩
      · have HV : Hid (logOkB g D true = false) := logOk_len (by rw [HN.out]; exact hT)
        have hne : ((nS : Int) != totalV g) = true := by simpa using hT
        generalize totalV g = T at *
        go_enter Tryd.func19, Tryd.ntmps19
        go_upto_region 1 with fail
        rw [← hW]
        clear hW hm HL HZ CL p0 q1 q2 q3 q4 q5 q6 hT
        refine wp_region_held_drew (S := (fun w' => w'.cell? ⟨w.heap.size, 0, none⟩ = some (.int .i64 g.N) ∧ w'.cell? ⟨w.heap.size, 1, none⟩ = some (.int .i64 g.S) ∧ w'.cell? ⟨w.heap.size, 2, none⟩ = some (.int .i64 g.B) ∧ w'.cell? ⟨w.heap.size, 3, none⟩ = some (.int .i64 g.P) ∧ w'.cell? ⟨w.heap.size, 4, none⟩ = some (.int .i64 g.J) ∧ w'.cell? ⟨w.heap.size, 5, none⟩ = some (.int .i64 g.L) ∧ w'.cell? ⟨w.heap.size, 6, none⟩ = some (.int .i64 g.E) ∧ w'.cell? ⟨w.heap.size, 7, none⟩ = some (.int .i64 g.T) ∧ w'.cell? ⟨w.heap.size + 1, 0, none⟩ = some (.slice aS nS cS) ∧ w'.cell? ⟨w.heap.size + 1, 1, none⟩ = some (vC) ∧ w'.cell? ⟨w.heap.size + 1, 2, none⟩ = some (vK) ∧ w'.cell? ⟨w.heap.size + 1, 3, none⟩ = some (.int .i64 dn) ∧ w'.cell? ⟨w.heap.size + 1, 4, none⟩ = some (vF))) (by kernel_rfl) ?_ (fun hHeld => ?_)
        focus (exact HS.out _ (Below.refl W0.heap.size W0).drew)
        refine wpAnyH_take (i := 0) (oi := ⟨some 7, _, _, _, _, _⟩) (v := ?_) rfl (by kernel_rfl) (by kernel_rfl) (by kernel_rfl) (fun _ _ _ h => h) (Or.inl ⟨by rfl, ?_⟩) (by assumption) ?_
        rotate_left
        focus (intro wq hSq; (try dsimp only at hSq); go_simp; try with_reducible rfl)
        try simp only [Act.put, List.setIfInBounds_toArray, List.set_cons_zero, List.set_cons_succ]
        refine wpAnyH_ready (rs := [1]) (by kernel_rfl) (by simp) ?_
        refine AllReadyH.cons (o := ⟨some 8, _, _, _, _, _⟩) rfl (fun K hK => ?_) AllReadyH.nil
        go_simp
        refine (C0.out _ (Below.refl W0.heap.size W0).drew).mono ?_
        rintro e w1 ⟨rfl, s1, hb1⟩
        refine hK.out _ _ ?_ (fun hHeld => ?_)
        focus (exact s1)
        clear hK K
        try simp only [Act.put, List.setIfInBounds_toArray, List.set_cons_zero, List.set_cons_succ]
        refine wpAnyH_take (i := 2) (oi := ⟨some 9, _, _, _, _, _⟩) (v := ?_) rfl (by kernel_rfl) (by kernel_rfl) (by kernel_rfl) (fun _ _ _ h => h) (Or.inl ⟨by rfl, ?_⟩) (by assumption) ?_
        rotate_left
        focus (intro wq hSq; (try dsimp only at hSq); go_simp; try with_reducible rfl)
        try simp only [Act.put, List.setIfInBounds_toArray, List.set_cons_zero, List.set_cons_succ]
        refine wpAnyH_take (i := 3) (oi := ⟨some 10, _, _, _, _, _⟩) (v := ?_) rfl (by kernel_rfl) (by kernel_rfl) (by kernel_rfl) (fun _ _ _ h => h) (Or.inl ⟨by rfl, ?_⟩) (by assumption) ?_
        rotate_left
        focus (intro wq hSq; (try dsimp only at hSq); go_simp; try with_reducible rfl)
        try simp only [Act.put, List.setIfInBounds_toArray, List.set_cons_zero, List.set_cons_succ]
        refine wpAnyH_take (i := 4) (oi := ⟨some 11, _, _, _, _, _⟩) (v := ?_) rfl (by kernel_rfl) (by kernel_rfl) (by kernel_rfl) (fun _ _ _ h => h) (Or.inl ⟨by rfl, ?_⟩) (by assumption) ?_
        rotate_left
        focus (intro wq hSq; (try dsimp only at hSq); go_simp; try with_reducible rfl)
        try simp only [Act.put, List.setIfInBounds_toArray, List.set_cons_zero, List.set_cons_succ]
        refine wpAnyH_ready (rs := [5]) (by kernel_rfl) (by simp) ?_
        refine AllReadyH.cons (o := ⟨some 12, _, _, _, _, _⟩) rfl (fun K hK => ?_) AllReadyH.nil
        go_simp
        refine (C1.out _ hb1).mono ?_
        rintro e w2 ⟨rfl, s2, hb2⟩
        refine hK.out _ _ ?_ (fun hHeld => ?_)
        focus (exact s2)
        clear hK K
        try simp only [Act.put, List.setIfInBounds_toArray, List.set_cons_zero, List.set_cons_succ]
        refine wpAnyH_take (i := 6) (oi := ⟨some 13, _, _, _, _, _⟩) (v := ?_) rfl (by kernel_rfl) (by kernel_rfl) (by kernel_rfl) (fun _ _ _ h => h) (Or.inl ⟨by rfl, ?_⟩) (by assumption) ?_
        rotate_left
        focus (intro wq hSq; (try dsimp only at hSq); go_simp; try with_reducible rfl)
        try simp only [Act.put, List.setIfInBounds_toArray, List.set_cons_zero, List.set_cons_succ]
        refine wpAnyH_take (i := 7) (oi := ⟨some 14, _, _, _, _, _⟩) (v := ?_) rfl (by kernel_rfl) (by kernel_rfl) (by kernel_rfl) (fun _ _ _ h => h) (Or.inl ⟨by rfl, ?_⟩) (by assumption) ?_
        rotate_left
        focus (intro wq hSq; (try dsimp only at hSq); go_simp; try with_reducible rfl)
        try simp only [Act.put, List.setIfInBounds_toArray, List.set_cons_zero, List.set_cons_succ]
        refine wpAnyH_take (i := 8) (oi := ⟨some 15, _, _, _, _, _⟩) (v := ?_) rfl (by kernel_rfl) (by kernel_rfl) (by kernel_rfl) (fun _ _ _ h => h) (Or.inl ⟨by rfl, ?_⟩) (by assumption) ?_
        rotate_left
        focus (intro wq hSq; (try dsimp only at hSq); go_simp; try with_reducible rfl)
        try simp only [Act.put, List.setIfInBounds_toArray, List.set_cons_zero, List.set_cons_succ]
        refine wpAnyH_take (i := 9) (oi := ⟨some 16, _, _, _, _, _⟩) (v := ?_) rfl (by kernel_rfl) (by kernel_rfl) (by kernel_rfl) (fun _ _ _ h => h) (Or.inl ⟨by rfl, ?_⟩) (by assumption) ?_
        rotate_left
        focus (intro wq hSq; (try dsimp only at hSq); go_simp; try with_reducible rfl)
        try simp only [Act.put, List.setIfInBounds_toArray, List.set_cons_zero, List.set_cons_succ]
        refine wpAnyH_take (i := 10) (oi := ⟨some 17, _, _, _, _, _⟩) (v := ?_) rfl (by kernel_rfl) (by kernel_rfl) (by kernel_rfl) (fun _ _ _ h => h) (Or.inl ⟨by rfl, ?_⟩) (by assumption) ?_
        rotate_left
        focus (intro wq hSq; (try dsimp only at hSq); go_simp; try with_reducible rfl)
        try simp only [Act.put, List.setIfInBounds_toArray, List.set_cons_zero, List.set_cons_succ]
        refine wpAnyH_take (i := 11) (oi := ⟨some 18, _, _, _, _, _⟩) (v := ?_) rfl (by kernel_rfl) (by kernel_rfl) (by kernel_rfl) (fun _ _ _ h => h) (Or.inl ⟨by rfl, ?_⟩) (by assumption) ?_
        rotate_left
        focus (intro wq hSq; (try dsimp only at hSq); go_simp; try with_reducible rfl)
        try simp only [Act.put, List.setIfInBounds_toArray, List.set_cons_zero, List.set_cons_succ]
        refine wpAnyH_take (i := 12) (oi := ⟨some 19, _, _, _, _, _⟩) (v := ?_) rfl (by kernel_rfl) (by kernel_rfl) (by kernel_rfl) (fun _ _ _ h => h) (Or.inl ⟨by rfl, ?_⟩) (by assumption) ?_
        rotate_left
        focus (intro wq hSq; (try dsimp only at hSq); go_simp; try with_reducible rfl)
        try simp only [Act.put, List.setIfInBounds_toArray, List.set_cons_zero, List.set_cons_succ]
        refine wpAnyH_ready (rs := [13]) (by kernel_rfl) (by simp) ?_
        refine AllReadyH.cons (o := ⟨some 20, _, _, _, _, _⟩) rfl (fun K hK => ?_) AllReadyH.nil
        go_simp
        refine (CT.out _ hb2).mono ?_
        rintro e w3 ⟨rfl, s3, hb3⟩
        refine hK.out _ _ ?_ (fun hHeld => ?_)
        focus (exact s3)
        clear hK K
        try simp only [Act.put, List.setIfInBounds_toArray, List.set_cons_zero, List.set_cons_succ]
        refine wpAnyH_take (i := 14) (oi := ⟨some 21, _, _, _, _, _⟩) (v := ?_) rfl (by kernel_rfl) (by kernel_rfl) (by kernel_rfl) (fun _ _ _ h => h) (Or.inl ⟨by rfl, ?_⟩) (by assumption) ?_
        rotate_left
        focus (intro wq hSq; (try dsimp only at hSq); go_simp; try with_reducible rfl)
        try simp only [Act.put, List.setIfInBounds_toArray, List.set_cons_zero, List.set_cons_succ]
        refine wpAnyH_take (i := 15) (oi := ⟨some 22, _, _, _, _, _⟩) (v := ?_) rfl (by kernel_rfl) (by kernel_rfl) (by kernel_rfl) (fun _ _ _ h => h) (Or.inl ⟨by rfl, ?_⟩) (by assumption) ?_
        rotate_left
        focus (intro wq hSq; (try dsimp only at hSq); go_simp; try with_reducible rfl)
        try simp only [Act.put, List.setIfInBounds_toArray, List.set_cons_zero, List.set_cons_succ]
        refine wpAnyH_done (by kernel_rfl) ?_ _
        go_wp2_with fail
        go_ret2
        exact ⟨.inl ⟨HV.out, rfl⟩, below_then hb0 hb3⟩

end Go.Proofs.YtjdacpnfgpdjhaaDoor
